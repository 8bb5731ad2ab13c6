/-
  What an argument that is a fall, or a slice of bytes, is.
-/
import Derived.Test.YthadcmbbdggneaaGreatDoorDskAt
import Derived.Test.YthadcmbbdggneaaGreatDoorLaw
import Derived.Test.YthadcmbbdggneaaGreatDoorRows
import Derived.Deep.Slices
import Derived.SizedLaws
import Derived.Lib.SmallJoins
namespace Go.Proofs.YthadcmbbdggneaaGreatDoor
open Go.ChangeShapes Go.WideShapes Go.ChangeAt Go.RowKit
set_option linter.unusedVariables false

theorem dskArr2 {α : Type} {cs : Array α} (h : cs.size = 2) : ∃ c0 c1, cs = #[c0, c1] := by
  obtain ⟨l⟩ := cs
  match l, h with
  | [c0, c1], _ => exact ⟨c0, c1, rfl⟩
theorem dskFlat {w : World} {a : Addr} {v : Value} (h : w.cell? a = some v) : a = ⟨a.block, a.off, none⟩ := by
  obtain ⟨b, o, s⟩ := a
  cases s with
  | none => rfl
  | some x => exfalso; unfold World.cell? at h; split at h <;> simp at h
set_option maxRecDepth 100000 in
theorem fall_open {H : Type} {enc : TypeId × Value → H} {W : World} {r : Reach} {b0 : Nat} {v : Value} {d : DataW H} {p : List MemPlace}
    (hv : Value.okWide Tryz.prog W r b0 36 v) (h : DataW.Trod enc Tryz.prog W 0 (fun _ => true) true 36 v d p) :
    ∃ f : Dsk.Fall, v = .agg #[.int .u64 (f.keep : Int), .int .i64 f.tear] ∧ Fok f := by
  obtain ⟨cs, rfl, hsz⟩ := okWide_struct Tryz.underlying36 hv
  have hC : Tryz.prog.cellsOf 36 = 2 := by kernel_rfl
  obtain ⟨c0, c1, rfl⟩ := dskArr2 (hsz.trans hC)
  obtain ⟨fuel, hf⟩ := h
  have hcell : (Value.agg #[c0, c1]).cells.toList = [c0, c1] := rfl
  rw [hcell] at hf
  obtain ⟨ys, n', hn', hy, hlen, hyl, hf⟩ := DataW.trod_struct Tryz.underlying36 hf
  match ys, hyl with
  | [y0, y1], _ =>
    have C0 : Tryz.prog.cellsOf 34 = 1 := by kernel_rfl
    have C1 : Tryz.prog.cellsOf 3 = 1 := by kernel_rfl
    have f0 : DataW.trod enc Tryz.prog W 0 (fun _ => true) true n' 34 (List.take (Tryz.prog.cellsOf 34) (List.drop 0 [c0, c1])) = some y0 := hf 0 _ rfl
    have f1 : DataW.trod enc Tryz.prog W 0 (fun _ => true) true n' 3 (List.take (Tryz.prog.cellsOf 3) (List.drop 1 [c0, c1])) = some y1 := hf 1 _ rfl
    rw [C0] at f0
    rw [C1] at f1
    obtain ⟨T0, e0, x0, w0⟩ := DataW.trod_int Tryz.underlying34 f0
    obtain ⟨T1, e1, x1, w1⟩ := DataW.trod_int Tryz.underlying3 f1
    simp at e0 e1
    subst e0; subst e1
    unfold Lit.wf at w0 w1
    rw [Bool.and_eq_true, decide_eq_true_eq, decide_eq_true_eq] at w0 w1
    have m0 : (0 : Int) ≤ T0 := w0.1
    have m1 : T0 ≤ 18446744073709551615 := w0.2
    have m2 : -9223372036854775808 ≤ T1 := w1.1
    have m3 : T1 ≤ 9223372036854775807 := w1.2
    refine ⟨⟨T0.toNat, T1⟩, ?_, ?_, m2, m3⟩
    · show _ = Value.agg #[.int .u64 ((T0.toNat : Nat) : Int), .int .i64 T1]
      rw [Int.toNat_of_nonneg m0]
    · show T0.toNat < 18446744073709551616
      omega
theorem bytes_open {H : Type} {enc : TypeId × Value → H} {W : World} {A : Option Addr} {len cap fuel : Nat} {x : DataW H × List MemPlace} (h : DataW.trod enc Tryz.prog W 0 (fun _ => true) true fuel 62 [.slice A len cap] = some x) :
    ∃ (l : List UInt8) (b : Nat), len = l.length ∧ l.length ≤ cap ∧ cap ≤ 9223372036854775807 ∧ Bytes W b A l := by
  have hC : Tryz.prog.cellsOf 5 = 1 := by kernel_rfl
  rcases Deep.open_slice1 Tryz.underlying62 hC h with ⟨h0, _⟩ | ⟨a, len', cap', m, n, V, D, Pl, hcs, _, hlc, hcm, hm, hx, hi⟩
  · injection h0 with h0 _
    injection h0 with _ h1 h2
    subst h1; subst h2
    exact ⟨[], 0, rfl, Nat.le_refl _, Nat.zero_le _, Bytes.nil _ _ _⟩
  · injection hcs with hcs _; injection hcs with hA hlen hcap
    subst hA; subst hlen; subst hcap
    have hm' : len ≤ m := by rw [hm]; simp; omega
    have hone : ∀ i : Fin len, ∃ k : UInt8, W.cell? (a.add i.1) = some (.int .u8 (k.toNat : Int)) := by
      intro i
      obtain ⟨hc, ht⟩ := hi i.1 (by have := i.2; omega)
      obtain ⟨K, e0, _, wf⟩ := DataW.trod_int Tryz.underlying5 ht
      injection e0 with e0
      unfold Lit.wf at wf
      rw [Bool.and_eq_true, decide_eq_true_eq, decide_eq_true_eq] at wf
      have m0 : (0 : Int) ≤ K := wf.1
      have m1 : K ≤ 255 := wf.2
      refine ⟨UInt8.ofNat K.toNat, ?_⟩
      rw [hc, e0]
      have : (UInt8.ofNat K.toNat).toNat = K.toNat := by
        rw [UInt8.toNat_ofNat']
        exact Nat.mod_eq_of_lt (by omega)
      rw [this, Int.toNat_of_nonneg m0]
    obtain ⟨f, hf⟩ : ∃ f : Fin len → UInt8, ∀ i : Fin len, W.cell? (a.add i.1) = some (.int .u8 ((f i).toNat : Int)) := ⟨fun i => Classical.choose (hone i), fun i => Classical.choose_spec (hone i)⟩
    clear hone hi hx
    refine ⟨List.ofFn f, a.block, by simp, by simpa using hlc, by simpa only [maxLen] using hcm, fun hne => ?_⟩
    have hpos : 0 < len := by
      rcases Nat.eq_zero_or_pos len with h0 | h0
      · subst h0; exact absurd (by simp) hne
      · exact h0
    have h00 := hf ⟨0, hpos⟩
    have ha : a = ⟨a.block, a.off, none⟩ := dskFlat (by simpa [Addr.add] using h00)
    refine ⟨a.off, by rw [← ha], fun j hj => ?_⟩
    have hj' : j < len := by simpa using hj
    have k0 := hf ⟨j, hj'⟩
    have hadd : a.add j = ⟨a.block, a.off + j, none⟩ := by
      have := Addr.add_mid a.block a.off j
      rw [← ha] at this
      exact this
    dsimp only at k0
    rw [hadd] at k0
    rw [k0]
    unfold bcells
    rw [List.getElem?_map, List.getElem?_eq_getElem hj, Option.map_some, List.getElem_ofFn]
end Go.Proofs.YthadcmbbdggneaaGreatDoor
