/-
  The contracts of the comparisons of numbers and texts, and of a float's place.
-/
import Derived.Test.YtfcmkbeilpclmaaValCmp
import Derived.WalkLawsBesides
namespace Go.Proofs.Ytfcmkbeilpclmaa
open Go.RowKit
set_option linter.unusedVariables false
open Go.Op (bytesLess)

set_option maxHeartbeats 400000 in
theorem cmp_int (a b : Int) (w : World) : Calls Try.prog 48 #[.int .i64 a, .int .i64 b] w fun e w' => e = .returned (.int .i64 (cmpOf (decide (a < b)) (decide (b < a)))) ∧ w = w' := by
  have hnan : ∀ (x : Int) (W : World), Calls Try.prog 65 #[.int .i64 x] W fun e w' => e = .returned (.bool false) ∧ W = w' := fun x W => by
    go_enter Try.func65, Try.ntmps65
    go_wp2
    go_ret
    exact ⟨rfl, rfl⟩
  have HN := Lib.hid hnan; clear hnan
  have hc : (a < b ∧ cmpOf (decide (a < b)) (decide (b < a)) = -1) ∨ (¬ a < b ∧ b < a ∧ cmpOf (decide (a < b)) (decide (b < a)) = 1) ∨ (¬ a < b ∧ ¬ b < a ∧ cmpOf (decide (a < b)) (decide (b < a)) = 0) := by
    unfold cmpOf
    by_cases h : a < b
    · left; simp [h]
    · by_cases h2 : b < a
      · right; left; simp [h, h2]
      · right; right; simp [h, h2]
  generalize cmpOf _ _ = c at hc ⊢
  rcases hc with ⟨h, rfl⟩ | ⟨h, h2, rfl⟩ | ⟨h, h2, rfl⟩
  all_goals
    go_enter Try.func48, Try.ntmps48
    go_wp2_with fail
    refine (HN.out _ _).mono ?_
    rintro r w1 ⟨rfl, rfl⟩
    go_wp2_with fail
    refine (HN.out _ _).mono ?_
    rintro r w1 ⟨rfl, rfl⟩
    go_wp2_with fail
    go_ret
    exact ⟨rfl, rfl⟩

set_option maxHeartbeats 400000 in
theorem cmp_i64 (a b : Int) (w : World) : Calls Try.prog 50 #[.int .i64 a, .int .i64 b] w fun e w' => e = .returned (.int .i64 (cmpOf (decide (a < b)) (decide (b < a)))) ∧ w = w' := by
  have hnan : ∀ (x : Int) (W : World), Calls Try.prog 66 #[.int .i64 x] W fun e w' => e = .returned (.bool false) ∧ W = w' := fun x W => by
    go_enter Try.func66, Try.ntmps66
    go_wp2
    go_ret
    exact ⟨rfl, rfl⟩
  have HN := Lib.hid hnan; clear hnan
  have hc : (a < b ∧ cmpOf (decide (a < b)) (decide (b < a)) = -1) ∨ (¬ a < b ∧ b < a ∧ cmpOf (decide (a < b)) (decide (b < a)) = 1) ∨ (¬ a < b ∧ ¬ b < a ∧ cmpOf (decide (a < b)) (decide (b < a)) = 0) := by
    unfold cmpOf
    by_cases h : a < b
    · left; simp [h]
    · by_cases h2 : b < a
      · right; left; simp [h, h2]
      · right; right; simp [h, h2]
  generalize cmpOf _ _ = c at hc ⊢
  rcases hc with ⟨h, rfl⟩ | ⟨h, h2, rfl⟩ | ⟨h, h2, rfl⟩
  all_goals
    go_enter Try.func50, Try.ntmps50
    go_wp2_with fail
    refine (HN.out _ _).mono ?_
    rintro r w1 ⟨rfl, rfl⟩
    go_wp2_with fail
    refine (HN.out _ _).mono ?_
    rintro r w1 ⟨rfl, rfl⟩
    go_wp2_with fail
    go_ret
    exact ⟨rfl, rfl⟩

set_option maxHeartbeats 400000 in
theorem cmp_u64 (a b : Int) (w : World) : Calls Try.prog 51 #[.int .u64 a, .int .u64 b] w fun e w' => e = .returned (.int .i64 (cmpOf (decide (a < b)) (decide (b < a)))) ∧ w = w' := by
  have hnan : ∀ (x : Int) (W : World), Calls Try.prog 67 #[.int .u64 x] W fun e w' => e = .returned (.bool false) ∧ W = w' := fun x W => by
    go_enter Try.func67, Try.ntmps67
    go_wp2
    go_ret
    exact ⟨rfl, rfl⟩
  have HN := Lib.hid hnan; clear hnan
  have hc : (a < b ∧ cmpOf (decide (a < b)) (decide (b < a)) = -1) ∨ (¬ a < b ∧ b < a ∧ cmpOf (decide (a < b)) (decide (b < a)) = 1) ∨ (¬ a < b ∧ ¬ b < a ∧ cmpOf (decide (a < b)) (decide (b < a)) = 0) := by
    unfold cmpOf
    by_cases h : a < b
    · left; simp [h]
    · by_cases h2 : b < a
      · right; left; simp [h, h2]
      · right; right; simp [h, h2]
  generalize cmpOf _ _ = c at hc ⊢
  rcases hc with ⟨h, rfl⟩ | ⟨h, h2, rfl⟩ | ⟨h, h2, rfl⟩
  all_goals
    go_enter Try.func51, Try.ntmps51
    go_wp2_with fail
    refine (HN.out _ _).mono ?_
    rintro r w1 ⟨rfl, rfl⟩
    go_wp2_with fail
    refine (HN.out _ _).mono ?_
    rintro r w1 ⟨rfl, rfl⟩
    go_wp2_with fail
    go_ret
    exact ⟨rfl, rfl⟩

set_option maxHeartbeats 400000 in
theorem cmp_string (a b : List UInt8) (w : World) : Calls Try.prog 53 #[.string (S a), .string (S b)] w fun e w' => e = .returned (.int .i64 (cmpOf (bytesLess a b) (bytesLess b a))) ∧ w = w' := by
  have hnan : ∀ (x : List UInt8) (W : World), Calls Try.prog 68 #[.string (S x)] W fun e w' => e = .returned (.bool false) ∧ W = w' := fun x W => by
    go_enter Try.func68, Try.ntmps68
    go_wp2
    go_ret
    exact ⟨rfl, rfl⟩
  have HN := Lib.hid hnan; clear hnan
  have hc : (bytesLess a b = true ∧ cmpOf (bytesLess a b) (bytesLess b a) = -1) ∨ (bytesLess a b = false ∧ (a == b) = false ∧ cmpOf (bytesLess a b) (bytesLess b a) = 1) ∨ (bytesLess a b = false ∧ (a == b) = true ∧ cmpOf (bytesLess a b) (bytesLess b a) = 0) := by
    unfold cmpOf
    cases h : bytesLess a b
    · cases h2 : bytesLess b a
      · right; right; exact ⟨rfl, by rw [beq_iff_eq]; exact bl_total a b h h2, rfl⟩
      · right; left
        refine ⟨rfl, ?_, rfl⟩
        rw [beq_eq_false_iff_ne]
        rintro rfl
        rw [h] at h2; cases h2
    · left; exact ⟨rfl, rfl⟩
  generalize cmpOf _ _ = c at hc ⊢
  rcases hc with ⟨h, rfl⟩ | ⟨h, h2, rfl⟩ | ⟨h, h2, rfl⟩
  all_goals
    go_enter Try.func53, Try.ntmps53
    go_wp2_with fail
    refine (HN.out _ _).mono ?_
    rintro r w1 ⟨rfl, rfl⟩
    go_wp2_with fail
    refine (HN.out _ _).mono ?_
    rintro r w1 ⟨rfl, rfl⟩
    go_wp2_with fail
    go_ret
    exact ⟨rfl, rfl⟩

theorem flagRank_any (f : Bool) (w : World) : Calls Try.prog 49 #[.bool f] w fun e w' => e = .returned (.int .i64 (if f then 1 else 0)) ∧ w = w' := by
  cases f
  all_goals
    go_enter Try.func49, Try.ntmps49
    go_wp2
    go_ret
    exact ⟨rfl, rfl⟩

theorem cbits_lt (b : Nat) (hb : b < 18446744073709551616) : Val.cbits b < 18446744073709551616 := by
  unfold Val.cbits; split <;> omega

theorem and63 (c : Nat) (hc : c < 2 ^ 64) : c &&& 2 ^ 63 = if 2 ^ 63 ≤ c then 2 ^ 63 else 0 := by
  have hb : c.testBit 63 = decide (2 ^ 63 ≤ c) := by
    rw [Nat.testBit_eq_decide_div_mod_eq, decide_eq_decide]
    omega
  apply Nat.eq_of_testBit_eq
  intro i
  rw [Nat.testBit_and, Nat.testBit_two_pow]
  by_cases hi : 63 = i
  · subst hi
    rw [hb]
    by_cases h : 2 ^ 63 ≤ c
    · rw [if_pos h, decide_eq_true h, Nat.testBit_two_pow]; rfl
    · rw [if_neg h, decide_eq_false h]; simp
  · rw [decide_eq_false hi, Bool.and_false]
    split
    · rw [Nat.testBit_two_pow, decide_eq_false hi]
    · simp
theorem and_sign (c : Nat) (hc : c < 18446744073709551616) : bits .and .u64 (c : Int) 9223372036854775808 = if 9223372036854775808 ≤ c then 9223372036854775808 else 0 := by
  have e1 : (BitVec.ofInt 64 (c : Int)).toNat = c := by
    rw [BitVec.ofInt_natCast, BitVec.toNat_ofNat]; exact Nat.mod_eq_of_lt (by omega)
  have e2 : (BitVec.ofInt 64 9223372036854775808).toNat = 2 ^ 63 := by decide
  show IntKind.u64.wrap ((BitVec.ofInt 64 (c : Int) &&& BitVec.ofInt 64 9223372036854775808).toNat : Int) = _
  rw [BitVec.toNat_and, e1, e2, and63 c (by omega)]
  by_cases h : 9223372036854775808 ≤ c
  · rw [if_pos h, if_pos (by omega)]; rfl
  · rw [if_neg h, if_neg (by omega)]; rfl
theorem xor_all (c : Nat) (hc : c < 18446744073709551616) : bits .xor .u64 IntKind.u64.max (c : Int) = ((18446744073709551615 - c : Nat) : Int) := by
  have e1 : (BitVec.ofInt 64 (c : Int)).toNat = c := by
    rw [BitVec.ofInt_natCast, BitVec.toNat_ofNat]; exact Nat.mod_eq_of_lt (by omega)
  have e2 : BitVec.ofInt 64 IntKind.u64.max = BitVec.allOnes 64 := by decide
  show IntKind.u64.wrap ((BitVec.ofInt 64 IntKind.u64.max ^^^ BitVec.ofInt 64 (c : Int)).toNat : Int) = _
  rw [e2, BitVec.allOnes_xor, BitVec.toNat_not, e1]
  show ((2 ^ 64 - 1 - c : Nat) : Int) % 18446744073709551616 = _
  omega

set_option maxHeartbeats 400000 in
theorem floatRank_any (b : Nat) (hb : b < 18446744073709551616) (w : World) : Calls Try.prog 52 #[.int .u64 (b : Int)] w fun e w' => e = .returned (.int .u64 (rank b : Nat)) ∧ w = w' := by
  have hN := fun W => cbits_any b hb W
  have hl := cbits_lt b hb
  have hR : rank b = if 9223372036854775808 ≤ Val.cbits b then 18446744073709551615 - Val.cbits b else Val.cbits b + 9223372036854775808 := rfl
  generalize rank b = r at hR ⊢
  generalize Val.cbits b = c at hN hl hR
  have HN := Lib.hid hN; clear hN
  have hA := and_sign c hl
  by_cases h : 9223372036854775808 ≤ c
  · rw [if_pos h] at hR hA
    have hX := xor_all c hl
    have hs : IntKind.u64.signed = false := rfl
    rw [← hR] at hX
    clear hR h
    go_enter Try.func52, Try.ntmps52
    go_wp2_with fail
    refine (HN.out _).mono ?_
    rintro e w1 ⟨rfl, rfl⟩
    go_wp2_with fail
    go_ret
    exact ⟨rfl, rfl⟩
  · rw [if_neg h] at hR hA
    have hX := or_sign c (by omega)
    rw [← hR] at hX
    clear hR h
    go_enter Try.func52, Try.ntmps52
    go_wp2_with fail
    refine (HN.out _).mono ?_
    rintro e w1 ⟨rfl, rfl⟩
    go_wp2_with fail
    go_ret
    exact ⟨rfl, rfl⟩
end Go.Proofs.Ytfcmkbeilpclmaa
