/-
  A value that came in, opened.
-/
import Derived.Test.YtmjfgnaecokhcaaValSpec
import Derived.Test.YtmjfgnaecokhcaaLaw
import Derived.Test.YtmjfgnaecokhcaaRows
import Derived.Lib.SmallJoins
namespace Go.Proofs.Ytmjfgnaecokhcaa
open Go.ChangeShapes Go.WideShapes Go.ChangeAt Go.RowKit
open Go.ChangeMaps (open_string shut_string)
set_option linter.unusedVariables false

theorem array5 {α : Type} {cs : Array α} (h : cs.size = 5) : ∃ c0 c1 c2 c3 c4, cs = #[c0, c1, c2, c3, c4] := by
  obtain ⟨l⟩ := cs
  match l, h with
  | [c0, c1, c2, c3, c4], _ => exact ⟨c0, c1, c2, c3, c4, rfl⟩

theorem val_open {H : Type} {enc : TypeId × Value → H} {W : World} {r : Reach} {b0 : Nat} {v : Value} {d : DataW H} {p : List MemPlace}
    (hv : Value.okWide Try.prog W r b0 24 v) (h : DataW.Trod enc Try.prog W 0 (fun _ => true) true 24 v d p) :
    ∃ x : Val, v = x.v ∧ x.ok := by
  obtain ⟨cs, rfl, hsz⟩ := okWide_struct Try.underlying24 hv
  have hC : Try.prog.cellsOf 24 = 5 := by kernel_rfl
  obtain ⟨c0, c1, c2, c3, c4, rfl⟩ := array5 (hsz.trans hC)
  obtain ⟨fuel, hf⟩ := h
  have o0 : c0.cells.toList ++ (c1.cells.toList ++ (c2.cells.toList ++ (c3.cells.toList ++ c4.cells.toList))) = (Value.agg #[c0, c1, c2, c3, c4]).cells.toList ∨ True := Or.inr trivial
  have hcell : (Value.agg #[c0, c1, c2, c3, c4]).cells.toList = [c0, c1, c2, c3, c4] := rfl
  rw [hcell] at hf
  obtain ⟨ys, n', hn', hy, hlen, hyl, hf⟩ := DataW.trod_struct Try.underlying24 hf
  match ys, hyl with
  | [y0, y1, y2, y3, y4], _ =>
    have C1 : Try.prog.cellsOf 3 = 1 := by kernel_rfl
    have C2 : Try.prog.cellsOf 4 = 1 := by kernel_rfl
    have C3 : Try.prog.cellsOf 2 = 1 := by kernel_rfl
    have C4 : Try.prog.cellsOf 22 = 1 := by kernel_rfl
    have C5 : Try.prog.cellsOf 9 = 1 := by kernel_rfl
    have f0 : DataW.trod enc Try.prog W 0 (fun _ => true) true n' 3 (List.take (Try.prog.cellsOf 3) (List.drop 0 [c0, c1, c2, c3, c4])) = some y0 := hf 0 _ rfl
    have f1 : DataW.trod enc Try.prog W 0 (fun _ => true) true n' 4 (List.take (Try.prog.cellsOf 4) (List.drop 1 [c0, c1, c2, c3, c4])) = some y1 := hf 1 _ rfl
    have f2 : DataW.trod enc Try.prog W 0 (fun _ => true) true n' 2 (List.take (Try.prog.cellsOf 2) (List.drop 2 [c0, c1, c2, c3, c4])) = some y2 := hf 2 _ rfl
    have f3 : DataW.trod enc Try.prog W 0 (fun _ => true) true n' 22 (List.take (Try.prog.cellsOf 22) (List.drop 3 [c0, c1, c2, c3, c4])) = some y3 := hf 3 _ rfl
    have f4 : DataW.trod enc Try.prog W 0 (fun _ => true) true n' 9 (List.take (Try.prog.cellsOf 9) (List.drop 4 [c0, c1, c2, c3, c4])) = some y4 := hf 4 _ rfl
    rw [C1] at f0
    rw [C2] at f1
    rw [C3] at f2
    rw [C4] at f3
    rw [C5] at f4
    obtain ⟨K, e0, x0, wK⟩ := DataW.trod_int Try.underlying3 f0
    obtain ⟨F, e1, x1⟩ := DataW.trod_bool Try.underlying4 f1
    obtain ⟨I, e2, x2, wI⟩ := DataW.trod_int Try.underlying2 f2
    obtain ⟨B, e3, x3, wB⟩ := DataW.trod_int Try.underlying22 f3
    obtain ⟨T, e4, x4, _⟩ := DataW.trod_string Try.underlying9 f4
    simp at e0 e1 e2 e3 e4
    subst e0; subst e1; subst e2; subst e3; subst e4
    have key : ∀ (k : IntKind) (n : Int), (Lit.int k n).wf = true → k.min ≤ n ∧ n ≤ k.max := fun k n h => by
      unfold Lit.wf at h
      simpa only [Bool.and_eq_true, decide_eq_true_eq] using h
    have hK : -9223372036854775808 ≤ K ∧ K ≤ 9223372036854775807 := key .i64 K wK
    have hI : -9223372036854775808 ≤ I ∧ I ≤ 9223372036854775807 := key .i64 I wI
    have hB : 0 ≤ B ∧ B ≤ 18446744073709551615 := key .u64 B wB
    obtain ⟨b, rfl⟩ := Int.eq_ofNat_of_zero_le hB.1
    refine ⟨⟨K, F, I, b, T.data.toList⟩, ?_, ⟨?_, ?_, ?_⟩⟩
    · simp [Val.v, S_of]
    · show b < 18446744073709551616
      omega
    · show -9223372036854775808 ≤ I ∧ I < 9223372036854775808
      omega
    · show -9223372036854775808 ≤ K ∧ K < 9223372036854775808
      omega
end Go.Proofs.Ytmjfgnaecokhcaa
