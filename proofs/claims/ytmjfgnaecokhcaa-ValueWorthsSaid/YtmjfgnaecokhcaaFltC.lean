/-
  Floats that are equal as numbers, by their bits. No program stands here.
-/
import Derived.Test.YtmjfgnaecokhcaaFltB
import Derived.Test.YtmjfgnaecokhcaaValSpec
namespace Go.Proofs.Ytmjfgnaecokhcaa
set_option linter.unusedVariables false
open Ieee

namespace Flt
/-- Finite: one form for all. -/
def en (b : Nat) : Nat := if ex b = 0 then 1 else ex b
def mn (b : Nat) : Nat := if ex b = 0 then fr b else mag b
theorem read_fin (b : Nat) (h : ex b < 2047) : D.read b = .number (neg b) (mn b) ((en b : Int) - 1075) := by
  unfold en mn
  by_cases h0 : ex b = 0
  · rw [if_pos h0, if_pos h0, read_sub b h0, parts b, h0, Nat.zero_mul, Nat.zero_add]
    rfl
  · rw [if_neg h0, if_neg h0, read_norm b (by omega) h]
theorem mn_lt (b : Nat) : mn b < 9007199254740992 := by
  have := fr_lt b
  unfold mn mag; split <;> omega
theorem mn_ge (b : Nat) (h : 1 < en b) : 4503599627370496 ≤ mn b := by
  unfold en at h
  unfold mn mag
  split
  · rename_i h0; rw [if_pos h0] at h; omega
  · omega
theorem en_ge (b : Nat) : 1 ≤ en b := by unfold en; split <;> omega
theorem same_rung {a b : Nat} (h1 : en a = en b) (h2 : mn a = mn b) : a % 9223372036854775808 = b % 9223372036854775808 := by
  have fa := fr_lt a
  have fb := fr_lt b
  rw [parts a, parts b]
  unfold en at h1
  unfold mn mag at h2
  by_cases ha : ex a = 0 <;> by_cases hb : ex b = 0 <;> simp only [ha, hb, if_true, if_false] at h1 h2 ⊢ <;> omega

theorem signed_sign {s t : Bool} {m n x y : Nat} (h : signed s m x = signed t n y) : m * 2 ^ x = n * 2 ^ y ∧ (s = t ∨ m * 2 ^ x = 0) := by
  unfold signed at h
  rw [Nat.shiftLeft_eq, Nat.shiftLeft_eq] at h
  generalize m * 2 ^ x = a at *
  generalize n * 2 ^ y = c at *
  cases s <;> cases t <;> simp at h ⊢ <;> omega

theorem order_fin (a b : Nat) (ha : ex a < 2047) (hb : ex b < 2047) : D.order a b = some .eq ↔ (a % 9223372036854775808 = b % 9223372036854775808 ∧ (neg a = neg b ∨ a % 9223372036854775808 = 0)) := by
  have key : D.order a b = some (compare (signed (neg a) (mn a) ((en a : Int) - 1075 - min ((en a : Int) - 1075) ((en b : Int) - 1075)).toNat) (signed (neg b) (mn b) ((en b : Int) - 1075 - min ((en a : Int) - 1075) ((en b : Int) - 1075)).toNat)) := by
    unfold Format.order
    rw [read_fin a ha, read_fin b hb]
    rfl
  rw [key]
  have ma := mn_lt a
  have mb := mn_lt b
  constructor
  · intro h
    injection h with h
    obtain ⟨h1, h2⟩ := signed_sign (compare_eq.1 h)
    have he : en a = en b := by
      refine Decidable.byContradiction fun hne => ?_
      by_cases hlt : en a < en b
      · have e1 : ((en a : Int) - 1075 - min ((en a : Int) - 1075) ((en b : Int) - 1075)).toNat = 0 := by omega
        obtain ⟨z, hz⟩ : ∃ z, ((en b : Int) - 1075 - min ((en a : Int) - 1075) ((en b : Int) - 1075)).toNat = z + 1 := ⟨((en b : Int) - 1075 - min ((en a : Int) - 1075) ((en b : Int) - 1075)).toNat - 1, by omega⟩
        rw [e1, hz, Nat.pow_zero, Nat.mul_one, Nat.pow_succ] at h1
        have hg := mn_ge b (by have := en_ge a; omega)
        have hp := Nat.pow_pos (n := z) (show 0 < 2 by omega)
        have h3 : mn b * (1 * 2) ≤ mn b * (2 ^ z * 2) := Nat.mul_le_mul_left _ (by omega)
        omega
      · have e1 : ((en b : Int) - 1075 - min ((en a : Int) - 1075) ((en b : Int) - 1075)).toNat = 0 := by omega
        obtain ⟨z, hz⟩ : ∃ z, ((en a : Int) - 1075 - min ((en a : Int) - 1075) ((en b : Int) - 1075)).toNat = z + 1 := ⟨((en a : Int) - 1075 - min ((en a : Int) - 1075) ((en b : Int) - 1075)).toNat - 1, by omega⟩
        rw [e1, hz, Nat.pow_zero, Nat.mul_one, Nat.pow_succ] at h1
        have hg := mn_ge a (by have := en_ge b; omega)
        have hp := Nat.pow_pos (n := z) (show 0 < 2 by omega)
        have h3 : mn a * (1 * 2) ≤ mn a * (2 ^ z * 2) := Nat.mul_le_mul_left _ (by omega)
        omega
    have e1 : ((en a : Int) - 1075 - min ((en a : Int) - 1075) ((en b : Int) - 1075)).toNat = 0 := by omega
    have e2 : ((en b : Int) - 1075 - min ((en a : Int) - 1075) ((en b : Int) - 1075)).toNat = 0 := by omega
    rw [e1, e2, Nat.pow_zero, Nat.mul_one, Nat.mul_one] at h1
    rw [e1, Nat.pow_zero, Nat.mul_one] at h2
    refine ⟨same_rung he h1, ?_⟩
    rcases h2 with h2 | h2
    · exact Or.inl h2
    · right
      rw [parts a]
      have fa := fr_lt a
      unfold mn mag at h2
      by_cases h0 : ex a = 0
      · rw [if_pos h0] at h2; rw [h0, h2]
      · rw [if_neg h0] at h2; omega
  · rintro ⟨h1, h2⟩
    have hexe : ex a = ex b := by unfold ex; rw [h1]
    have hfre : fr a = fr b := by unfold fr; omega
    have hen : en a = en b := by unfold en; rw [hexe]
    have hmn : mn a = mn b := by unfold mn mag; rw [hexe, hfre]
    rw [hen, hmn]
    refine congrArg some (compare_eq.2 ?_)
    rcases h2 with h2 | h2
    · rw [h2]
    · have h0 : mn b = 0 := by
        have hp := parts b
        have hz : ex b = 0 := by
          rw [← h1, h2] at hp
          omega
        have hf : fr b = 0 := by
          rw [← h1, h2] at hp
          omega
        unfold mn; rw [if_pos hz, hf]
      rw [h0, signed_zero, signed_zero]

theorem read_inf (b : Nat) (h : b % 9223372036854775808 = 9218868437227405312) : D.read b = .infinity (neg b) := by
  unfold Format.read
  simp only [sw, bin, inf, lp, h]
  rw [if_neg (by omega), if_neg (by omega)]
  exact if_pos trivial
theorem read_nan : D.read 9221120237041090561 = .nan false 2251799813685249 := by decide

theorem nan_bits {b : Nat} (hc : Val.cbits b = b) (h : Val.nan b = true) : b = 9221120237041090561 := by
  unfold Val.cbits at hc
  rw [if_pos h] at hc
  exact hc.symm
theorem ex_lt {b : Nat} (h : Val.nan b = false) (h2 : b % 9223372036854775808 ≠ 9218868437227405312) : ex b < 2047 := by
  unfold Val.nan at h
  have := of_decide_eq_false h
  unfold ex
  omega

/-- Equal as numbers. -/
theorem order_eq (a b : Nat) (ha : a < 18446744073709551616) (hb : b < 18446744073709551616) (ca : Val.cbits a = a) (cb : Val.cbits b = b) :
    (D.order a b == some .eq) = (!Val.nan a && !Val.nan b && (decide (a = b) || (decide (a % 9223372036854775808 = 0) && decide (b % 9223372036854775808 = 0)))) := by
  cases na : Val.nan a
  rotate_left
  · rw [nan_bits ca na]
    unfold Format.order
    rw [read_nan]
    cases D.read b <;> rfl
  cases nb : Val.nan b
  rotate_left
  · rw [nan_bits cb nb]
    unfold Format.order
    rw [read_nan]
    cases D.read a <;> rfl
  rw [Bool.eq_iff_iff]
  simp only [beq_iff_eq, Bool.not_false, Bool.true_and, Bool.or_eq_true, Bool.and_eq_true, decide_eq_true_eq]
  have ngv : ∀ c, c < 18446744073709551616 → (neg c = true ↔ 9223372036854775808 ≤ c) := fun c hc => by
    unfold neg
    rw [beq_iff_eq]
    omega
  have na1 := ngv a ha
  have nb1 := ngv b hb
  by_cases ia : a % 9223372036854775808 = 9218868437227405312
  · by_cases ib : b % 9223372036854775808 = 9218868437227405312
    · unfold Format.order
      rw [read_inf a ia, read_inf b ib]
      cases hna : neg a <;> cases hnb : neg b <;> simp only [hna, hnb, Bool.false_eq_true, false_iff, true_iff] at na1 nb1
      · refine ⟨fun _ => Or.inl (by omega), fun _ => by decide⟩
      · refine ⟨fun h => absurd h (by decide), fun h => ?_⟩
        rcases h with h | ⟨h, _⟩ <;> omega
      · refine ⟨fun h => absurd h (by decide), fun h => ?_⟩
        rcases h with h | ⟨h, _⟩ <;> omega
      · refine ⟨fun _ => Or.inl (by omega), fun _ => by decide⟩
    · unfold Format.order
      rw [read_inf a ia, read_fin b (ex_lt nb ib)]
      refine ⟨fun h => ?_, fun h => ?_⟩
      · unfold Datum.order at h
        simp only [Option.some.injEq] at h
        split at h <;> cases h
      · rcases h with h | ⟨h, _⟩ <;> omega
  · by_cases ib : b % 9223372036854775808 = 9218868437227405312
    · unfold Format.order
      rw [read_inf b ib, read_fin a (ex_lt na ia)]
      refine ⟨fun h => ?_, fun h => ?_⟩
      · unfold Datum.order at h
        simp only [Option.some.injEq] at h
        split at h <;> cases h
      · rcases h with h | ⟨_, h⟩ <;> omega
    · rw [order_fin a b (ex_lt na ia) (ex_lt nb ib)]
      cases hna : neg a <;> cases hnb : neg b <;> simp only [hna, hnb, Bool.false_eq_true, false_iff, true_iff, true_or, and_true, false_or, reduceCtorEq] at na1 nb1 ⊢ <;> omega
end Flt
end Go.Proofs.Ytmjfgnaecokhcaa
