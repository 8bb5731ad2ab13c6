/-
  The contracts of value's word, and of the statements' own number and eight.
-/
import Derived.Test.YtfppobnfajkmmaaValE
namespace Go.Proofs.Ytfppobnfajkmmaa
open Go.RowKit
set_option linter.unusedVariables false

/-- The last k of a word's eight bytes. -/
def oct : Nat → Nat → List UInt8
  | 0, _ => []
  | k + 1, n => UInt8.ofNat (n / 256 ^ k % 256) :: oct k n
theorem oct_len (k n : Nat) : (oct k n).length = k := by
  induction k with
  | zero => rfl
  | succ k ih => simp [oct, ih]

theorem bcells_set (k : Nat) (hk : k < 8) (c : UInt8) (l : List UInt8) (h : l.length = k) :
    (bcells (List.replicate (8 - k) 0 ++ l)).set (7 - k) (.int .u8 (c.toNat : Int)) = bcells (List.replicate (8 - (k + 1)) 0 ++ c :: l) := by
  have e : 8 - k = (8 - (k + 1)) + 1 := by omega
  have e2 : 7 - k = 8 - (k + 1) := by omega
  rw [e, e2, List.replicate_succ']
  simp only [bcells, List.map_append, List.append_assoc]
  rw [List.set_append_right _ _ (by simp)]
  simp

set_option maxHeartbeats 400000 in
theorem word_any (n : Nat) (hn : n < 18446744073709551616) (w : World) :
    Calls Try.prog 47 #[.int .u64 (n : Int)] w fun e w' => e = .returned (.string (S (oct 8 n))) ∧ Below w.heap.size w w' := by
  have hO : ∀ k, oct (k + 1) n = UInt8.ofNat (n / 256 ^ k % 256) :: oct k n := fun k => rfl
  have hO0 : oct 0 n = [] := rfl
  have hOl := fun k => oct_len k n
  generalize oct = F at hO hO0 hOl ⊢
  have HO := Lib.hid (And.intro hO (And.intro hO0 hOl)); clear hO hO0 hOl
  go_enter Try.func47, Try.ntmps47
  go_wp2
  go_loopw [0, 4] (fun v0 v4 wr => ∃ (k m : Nat), k ≤ 8 ∧ m = n / 256 ^ k ∧ v0 = .int .u64 (m : Int) ∧ v4 = .int .i64 (7 - (k : Int)) ∧ Has wr w.heap.size 84 (bcells (List.replicate (8 - k) 0 ++ F k n)).toArray ∧ Below w.heap.size w wr)
    (fun _ v4 _ => (intOf v4 + 1).toNat)
  case atStart =>
    exact ⟨0, n, by omega, by simp, rfl, rfl, by rw [HO.out.2.1]; exact Has.made w _ _, up1 _⟩
  case round =>
    obtain ⟨k, m, hk, hm, rfl, rfl, HB, hb⟩ := hrel
    have hl := HO.out.2.2 k
    have hn1 := HO.out.1 k
    rw [← hm] at hn1
    have hm1 : m / 256 = n / 256 ^ (k + 1) := by rw [hm, Nat.div_div_eq_div_mul, Nat.pow_succ]
    have hmn : m < 18446744073709551616 := by rw [hm]; exact Nat.lt_of_le_of_lt (Nat.div_le_self _ _) hn
    have HM := Lib.hid (And.intro hn1 hm1); clear hn1 hm1 hm
    generalize hFl : F k n = l at hl HM HB
    have HFl := Lib.hid hFl; clear hFl
    by_cases h8 : k < 8
    · have hs := HB.set (7 - k) (.int .u8 ((UInt8.ofNat (m % 256)).toNat : Int))
      rw [List.setIfInBounds_toArray, bcells_set k h8 _ l hl, ← HM.out.1] at hs
      have hcell : ∃ v, wr.cell? ⟨w.heap.size, 7 - k, none⟩ = some v := ⟨_, by rw [HB.cell, List.getElem?_toArray, List.getElem?_eq_getElem (by simp [bcells]; omega)]⟩
      obtain ⟨v, hcell⟩ := hcell
      have hfree := HB.free (7 - k)
      have hi0 : (0 : Int) ≤ 7 - (k : Int) := by omega
      have hi1 : (7 - (k : Int)) < 8 := by omega
      have hi2 : (7 - (k : Int)).toNat = 7 - k := by omega
      have HS := Lib.hid hs; clear hs
      go_wp2
      have he : ((UInt8.ofNat (m % 256)).toNat : Int) = (m : Int) % 256 := by simp
      have hsx := HS.out
      rw [he] at hsx
      refine ⟨⟨k + 1, m / 256, by omega, HM.out.2, by simp, by congr 1; omega, hsx, (Only.set wr w.heap.size (7 - k) _).below hb hb.size (Nat.le_refl _)⟩, by simp only [intOf]; omega⟩
    · obtain rfl : k = 8 := by omega
      have hcvt : (convert 73 9 (.slice (some ⟨w.heap.size, 0, none⟩) 8 8)).run Try.prog wr = .ok (.string (S l)) wr :=
        conv_text Try.underlying73 Try.underlying5 Try.underlying9 l hl (fun i hi => by rw [Nat.zero_add, HB.cell]; simp)
      go_wp2
      go_ret
      exact ⟨by rw [HFl.out]; rfl, hb⟩
end Go.Proofs.Ytfppobnfajkmmaa
