/-
  What an argument that is a superblock is.
-/
import Derived.Test.YtdgfohffmbnjiaaGreatDoorSupOne
import Derived.Test.YtdgfohffmbnjiaaGreatDoorLaw
import Derived.Test.YtdgfohffmbnjiaaGreatDoorRows
import Derived.Deep.Slices
import Derived.SizedLaws
import Derived.Lib.SmallJoins
namespace Go.Proofs.YtdgfohffmbnjiaaGreatDoor
open Go.ChangeShapes Go.WideShapes Go.ChangeAt Go.RowKit
set_option linter.unusedVariables false

theorem supArr4 {α : Type} {cs : Array α} (h : cs.size = 4) : ∃ c0 c1 c2 c3, cs = #[c0, c1, c2, c3] := by
  obtain ⟨l⟩ := cs
  match l, h with
  | [c0, c1, c2, c3], _ => exact ⟨c0, c1, c2, c3, rfl⟩
/-- A superblock's numbers are the program's integers. -/
def Sup.Fit (s : Sup) : Prop := (-9223372036854775808 ≤ s.gen ∧ s.gen ≤ 9223372036854775807) ∧ (-9223372036854775808 ≤ s.boot ∧ s.boot ≤ 9223372036854775807) ∧ (-9223372036854775808 ≤ s.side ∧ s.side ≤ 9223372036854775807) ∧ (-9223372036854775808 ≤ s.seed ∧ s.seed ≤ 9223372036854775807)
set_option maxRecDepth 100000 in
theorem sup_open {H : Type} {enc : TypeId × Value → H} {W : World} {r : Reach} {b0 : Nat} {v : Value} {d : DataW H} {p : List MemPlace}
    (hv : Value.okWide Tryz.prog W r b0 23 v) (h : DataW.Trod enc Tryz.prog W 0 (fun _ => true) true 23 v d p) :
    ∃ s : Sup, v = s.v ∧ s.Fit := by
  obtain ⟨cs, rfl, hsz⟩ := okWide_struct Tryz.underlying23 hv
  have hC : Tryz.prog.cellsOf 23 = 4 := by kernel_rfl
  obtain ⟨c0, c1, c2, c3, rfl⟩ := supArr4 (hsz.trans hC)
  obtain ⟨fuel, hf⟩ := h
  have hcell : (Value.agg #[c0, c1, c2, c3]).cells.toList = [c0, c1, c2, c3] := rfl
  rw [hcell] at hf
  obtain ⟨ys, n', hn', hy, hlen, hyl, hf⟩ := DataW.trod_struct Tryz.underlying23 hf
  match ys, hyl with
  | [y0, y1, y2, y3], _ =>
    have C1 : Tryz.prog.cellsOf 3 = 1 := by kernel_rfl
    have f0 : DataW.trod enc Tryz.prog W 0 (fun _ => true) true n' 3 (List.take (Tryz.prog.cellsOf 3) (List.drop 0 [c0, c1, c2, c3])) = some y0 := hf 0 _ rfl
    have f1 : DataW.trod enc Tryz.prog W 0 (fun _ => true) true n' 3 (List.take (Tryz.prog.cellsOf 3) (List.drop 1 [c0, c1, c2, c3])) = some y1 := hf 1 _ rfl
    have f2 : DataW.trod enc Tryz.prog W 0 (fun _ => true) true n' 3 (List.take (Tryz.prog.cellsOf 3) (List.drop 2 [c0, c1, c2, c3])) = some y2 := hf 2 _ rfl
    have f3 : DataW.trod enc Tryz.prog W 0 (fun _ => true) true n' 3 (List.take (Tryz.prog.cellsOf 3) (List.drop 3 [c0, c1, c2, c3])) = some y3 := hf 3 _ rfl
    rw [C1] at f0
    rw [C1] at f1
    rw [C1] at f2
    rw [C1] at f3
    obtain ⟨T0, e0, x0, w0⟩ := DataW.trod_int Tryz.underlying3 f0
    obtain ⟨T1, e1, x1, w1⟩ := DataW.trod_int Tryz.underlying3 f1
    obtain ⟨T2, e2, x2, w2⟩ := DataW.trod_int Tryz.underlying3 f2
    obtain ⟨T3, e3, x3, w3⟩ := DataW.trod_int Tryz.underlying3 f3
    simp at e0 e1 e2 e3
    subst e0; subst e1; subst e2; subst e3
    unfold Lit.wf at w0 w1 w2 w3
    rw [Bool.and_eq_true, decide_eq_true_eq, decide_eq_true_eq] at w0 w1 w2 w3
    exact ⟨⟨T0, T1, T2, T3⟩, rfl, w0, w1, w2, w3⟩
end Go.Proofs.YtdgfohffmbnjiaaGreatDoor
