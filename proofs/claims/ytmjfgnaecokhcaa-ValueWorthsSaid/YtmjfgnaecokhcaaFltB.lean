/-
  A float as a whole number, by its bits: where it is none; how it stands to the bounds; what it is turned into. No program stands here.
-/
import Derived.Test.YtmjfgnaecokhcaaFlt
namespace Go.Proofs.Ytmjfgnaecokhcaa
set_option linter.unusedVariables false
open Ieee

namespace Flt
theorem compare_lt {a b : Int} (h : compare a b = .lt) : a < b := by
  have h2 : compareOfLessAndEq a b = .lt := h
  unfold compareOfLessAndEq at h2
  split at h2
  · assumption
  · split at h2 <;> cases h2
theorem lt_compare {a b : Int} (h : a < b) : compare a b = .lt := by
  show compareOfLessAndEq a b = .lt
  unfold compareOfLessAndEq
  rw [if_pos h]
theorem gt_compare {a b : Int} (h : b < a) : compare a b = .gt := by
  show compareOfLessAndEq a b = .gt
  unfold compareOfLessAndEq
  rw [if_neg (by omega), if_neg (by omega)]

theorem read_word (s : Bool) (n K : Nat) (h1 : 4503599627370496 ≤ K) (h2 : K < 9007199254740992) (hn : n < 2046) :
    D.read (D.word s (n * 4503599627370496 + K)) = .number s K ((n : Int) - 1074) := by
  have hw : D.word s (n * 4503599627370496 + K) = (if s then 9223372036854775808 else 0) + (n * 4503599627370496 + K) := by
    unfold Format.word
    rw [sw]
    cases s <;> simp
  rw [hw]
  have hneg : neg ((if s then 9223372036854775808 else 0) + (n * 4503599627370496 + K)) = s := by
    unfold neg
    cases s
    · have : ((if false = true then 9223372036854775808 else 0) + (n * 4503599627370496 + K)) / 9223372036854775808 % 2 = 0 := by
        rw [if_neg (by decide)]; omega
      rw [this]; rfl
    · have : ((if true = true then 9223372036854775808 else 0) + (n * 4503599627370496 + K)) / 9223372036854775808 % 2 = 1 := by
        rw [if_pos rfl]; omega
      rw [this]; rfl
  have hex : ex ((if s then 9223372036854775808 else 0) + (n * 4503599627370496 + K)) = n + 1 := by
    unfold ex
    cases s
    · rw [if_neg (by decide)]; omega
    · rw [if_pos rfl]; omega
  have hmag : mag ((if s then 9223372036854775808 else 0) + (n * 4503599627370496 + K)) = K := by
    unfold mag fr
    cases s
    · rw [if_neg (by decide)]; omega
    · rw [if_pos rfl]; omega
  rw [read_norm _ (by omega) (by omega), hneg, hex, hmag]
  have : ((n + 1 : Nat) : Int) - 1075 = (n : Int) - 1074 := by omega
  rw [this]

/-- What is less than one is none. -/
theorem trunc_small (b : Nat) (h : ex b < 1023) (h0 : b % 9223372036854775808 ≠ 0) : D.order b (D.write ((D.read b).integral .zero)) ≠ some .eq := by
  have hf := fr_lt b
  have hi : (D.read b).integral .zero = .number (neg b) 0 0 := by
    by_cases h1 : 1 ≤ ex b
    · rw [integral_norm b h1 (by omega)]
      have : whole b = 0 := by
        unfold whole
        rw [if_pos (by omega), Nat.div_eq_of_lt]
        have h3 : (2 : Nat) ^ 53 ≤ 2 ^ (1075 - ex b) := Nat.pow_le_pow_right (by omega) (by omega)
        have h53 : (2 : Nat) ^ 53 = 9007199254740992 := by decide
        unfold mag
        omega
      rw [this]
    · exact integral_sub b (by omega)
  rw [hi]
  have hw : D.write (.number (neg b) 0 0) = if neg b then 9223372036854775808 else 0 := by
    show D.nearest (neg b) 0 0 = _
    unfold Format.nearest Format.word
    rw [if_pos rfl, sw]
  rw [hw]
  have hr : ∃ s, D.read (if neg b then 9223372036854775808 else 0) = .number s 0 (-1074) := by
    cases neg b
    · exact ⟨false, by decide⟩
    · exact ⟨true, by decide⟩
  obtain ⟨s, hr⟩ := hr
  have hm : ∃ m i, m ≠ 0 ∧ D.read b = .number (neg b) m i := by
    by_cases h1 : 1 ≤ ex b
    · exact ⟨_, _, by unfold mag; omega, read_norm b h1 (by omega)⟩
    · exact ⟨_, _, h0, read_sub b (by omega)⟩
  obtain ⟨m, i, hm0, hb⟩ := hm
  unfold Format.order
  rw [hr, hb]
  unfold Datum.order
  simp only [signed_zero]
  intro he
  injection he with he
  exact hm0 (signed_eq_zero (compare_eq.1 he))

theorem signed_inj {s : Bool} {m n x y : Nat} (h : signed s m x = signed s n y) : m * 2 ^ x = n * 2 ^ y := by
  unfold signed at h
  rw [Nat.shiftLeft_eq, Nat.shiftLeft_eq] at h
  generalize m * 2 ^ x = a at *
  generalize n * 2 ^ y = c at *
  cases s <;> simp at h <;> omega

/-- What is cut is none. -/
theorem trunc_inexact (b : Nat) (h1 : 1023 ≤ ex b) (h2 : ex b < 1075) (hx : mag b % 2 ^ (1075 - ex b) ≠ 0) : D.order b (D.write ((D.read b).integral .zero)) ≠ some .eq := by
  have hf := fr_lt b
  have hm1 : 4503599627370496 ≤ mag b := by unfold mag; omega
  have hm2 : mag b < 9007199254740992 := by unfold mag; omega
  have h52 : (2 : Nat) ^ 52 = 4503599627370496 := by decide
  have h53 : (2 : Nat) ^ 53 = 9007199254740992 := by decide
  rw [integral_norm b (by omega) (by omega)]
  show D.order b (D.nearest (neg b) (whole b) 0) ≠ _
  have hq : whole b = mag b / 2 ^ (1075 - ex b) := by unfold whole; rw [if_pos h2]
  rw [hq]
  obtain ⟨k, hk⟩ : ∃ k, k = 1075 - ex b := ⟨_, rfl⟩
  rw [← hk] at hx ⊢
  have hk1 : 1 ≤ k := by omega
  have hk2 : k ≤ 52 := by omega
  have hp := Nat.pow_pos (n := k) (show 0 < 2 by omega)
  obtain ⟨q, hqe⟩ : ∃ q, q = mag b / 2 ^ k := ⟨_, rfl⟩
  have hq1 : 1 ≤ q := by
    rw [hqe, Nat.le_div_iff_mul_le hp, Nat.one_mul]
    have h3 : (2 : Nat) ^ k ≤ 2 ^ 52 := Nat.pow_le_pow_right (by omega) hk2
    omega
  have hq2 : q < 4503599627370496 := by
    rw [hqe]
    refine Nat.div_lt_of_lt_mul ?_
    have h3 : (2 : Nat) ^ 1 ≤ 2 ^ k := Nat.pow_le_pow_right (by omega) hk1
    generalize 2 ^ k = p at *
    have : 2 * 4503599627370496 ≤ p * 4503599627370496 := Nat.mul_le_mul_right _ (by omega)
    omega
  rw [← hqe]
  have hq0 : q ≠ 0 := by omega
  have hL := (Nat.log2_eq_iff hq0).1 rfl
  generalize q.log2 = L at hL
  have hL52 : L < 52 := by
    refine Nat.lt_of_not_le fun hge => ?_
    have h3 : (2 : Nat) ^ 52 ≤ 2 ^ L := Nat.pow_le_pow_right (by omega) hge
    omega
  obtain ⟨d, hd⟩ : ∃ d, d = 52 - L := ⟨_, rfl⟩
  have hK1 : 4503599627370496 ≤ q * 2 ^ d := by
    rw [← h52, show (52 : Nat) = L + d by omega, Nat.pow_add]
    exact Nat.mul_le_mul_right _ hL.1
  have hK2 : q * 2 ^ d < 9007199254740992 := by
    rw [← h53, show (53 : Nat) = (L + 1) + d by omega, Nat.pow_add]
    exact (Nat.mul_lt_mul_right (Nat.pow_pos (by omega))).2 hL.2
  have hjd : (-(-(d : Int))).toNat = d := by omega
  rw [nearest_exact (neg b) q (q * 2 ^ d) (-(d : Int)) hK1 hK2 (by omega) (by omega) (Or.inr ⟨by omega, by rw [hjd]⟩)]
  have hn : (-(d : Int) + 1074).toNat = 1074 - d := by omega
  rw [hn]
  unfold Format.order
  rw [read_word (neg b) (1074 - d) _ hK1 hK2 (by omega), read_norm b (by omega) (by omega)]
  have hi : (ex b : Int) - 1075 = -(k : Int) := by omega
  have hj : ((1074 - d : Nat) : Int) - 1074 = -(d : Int) := by omega
  rw [hi, hj]
  unfold Datum.order
  simp only []
  intro he
  injection he with he
  have h4 := signed_inj (compare_eq.1 he)
  have h5 : mag b = q * 2 ^ k := by
    by_cases hdk : k ≤ d
    · have e1 : (-(k : Int) - min (-(k : Int)) (-(d : Int))).toNat = d - k := by omega
      have e2 : (-(d : Int) - min (-(k : Int)) (-(d : Int))).toNat = 0 := by omega
      rw [e1, e2, Nat.pow_zero, Nat.mul_one, show d = k + (d - k) by omega, Nat.pow_add, ← Nat.mul_assoc, show k + (d - k) - k = d - k by omega] at h4
      exact Nat.eq_of_mul_eq_mul_right (Nat.pow_pos (by omega)) h4
    · have e1 : (-(k : Int) - min (-(k : Int)) (-(d : Int))).toNat = 0 := by omega
      have e2 : (-(d : Int) - min (-(k : Int)) (-(d : Int))).toNat = k - d := by omega
      rw [e1, e2, Nat.pow_zero, Nat.mul_one, Nat.mul_assoc, ← Nat.pow_add, show d + (k - d) = k by omega] at h4
      exact h4
  rw [h5] at hx
  exact hx (Nat.mul_mod_left _ _)

def lowB : Nat := 14114281232179134464
def highB : Nat := 4890909195324358656
theorem read_low : D.read lowB = .number true 4503599627370496 11 := by decide
theorem read_high : D.read highB = .number false 4503599627370496 11 := by decide

/-- Within the bounds. -/
theorem order_low (b : Nat) (h1 : 1 ≤ ex b) (h2 : ex b ≤ 1085) : D.order b lowB ≠ some .lt := by
  have hf := fr_lt b
  have hm1 : 4503599627370496 ≤ mag b := by unfold mag; omega
  have hm2 : mag b < 9007199254740992 := by unfold mag; omega
  unfold Format.order
  rw [read_low, read_norm b h1 (by omega)]
  unfold Datum.order
  simp only []
  intro he
  injection he with he
  have h := compare_lt he
  have e1 : ((ex b : Int) - 1075 - min ((ex b : Int) - 1075) 11).toNat = 0 := by omega
  obtain ⟨z, hz⟩ : ∃ z, (11 - min ((ex b : Int) - 1075) 11).toNat = z + 1 := ⟨(11 - min ((ex b : Int) - 1075) 11).toNat - 1, by omega⟩
  rw [e1, hz] at h
  unfold signed at h
  rw [Nat.shiftLeft_eq, Nat.shiftLeft_eq, Nat.pow_zero, Nat.mul_one, Nat.pow_succ] at h
  have hp := Nat.pow_pos (n := z) (show 0 < 2 by omega)
  generalize 2 ^ z = p at *
  have h3 : 4503599627370496 * (1 * 2) ≤ 4503599627370496 * (p * 2) := Nat.mul_le_mul_left _ (by omega)
  generalize 4503599627370496 * (p * 2) = x at *
  cases neg b
  · simp at h; omega
  · simp at h; omega
theorem order_high (b : Nat) (h1 : 1 ≤ ex b) (h2 : ex b ≤ 1085) : D.order b highB = some .lt := by
  have hf := fr_lt b
  have hm1 : 4503599627370496 ≤ mag b := by unfold mag; omega
  have hm2 : mag b < 9007199254740992 := by unfold mag; omega
  unfold Format.order
  rw [read_high, read_norm b h1 (by omega)]
  unfold Datum.order
  simp only []
  refine congrArg some (lt_compare ?_)
  have e1 : ((ex b : Int) - 1075 - min ((ex b : Int) - 1075) 11).toNat = 0 := by omega
  obtain ⟨z, hz⟩ : ∃ z, (11 - min ((ex b : Int) - 1075) 11).toNat = z + 1 := ⟨(11 - min ((ex b : Int) - 1075) 11).toNat - 1, by omega⟩
  rw [e1, hz]
  unfold signed
  rw [Nat.shiftLeft_eq, Nat.shiftLeft_eq, Nat.pow_zero, Nat.mul_one, Nat.pow_succ]
  have hp := Nat.pow_pos (n := z) (show 0 < 2 by omega)
  generalize 2 ^ z = p at *
  have h3 : 4503599627370496 * (1 * 2) ≤ 4503599627370496 * (p * 2) := Nat.mul_le_mul_left _ (by omega)
  generalize 4503599627370496 * (p * 2) = x at *
  cases neg b
  · simp; omega
  · simp; omega
/-- Beyond the bounds. -/
theorem order_out (b : Nat) (hb : b < 18446744073709551616) (h1 : 1086 ≤ ex b) (h2 : ex b < 2047) (hne : b ≠ lowB) : D.order b lowB = some .lt ∨ D.order b highB = some .gt ∨ D.order b highB = some .eq := by
  have hf := fr_lt b
  have hp := parts b
  have hm1 : 4503599627370496 ≤ mag b := by unfold mag; omega
  unfold Format.order
  rw [read_low, read_high, read_norm b (by omega) h2]
  unfold Datum.order
  simp only []
  have e1 : (11 - min ((ex b : Int) - 1075) 11).toNat = 0 := by omega
  obtain ⟨z, hz⟩ : ∃ z, z = ((ex b : Int) - 1075 - min ((ex b : Int) - 1075) 11).toNat := ⟨_, rfl⟩
  rw [e1, ← hz]
  unfold signed
  rw [Nat.shiftLeft_eq, Nat.shiftLeft_eq, Nat.pow_zero, Nat.mul_one]
  have hpz := Nat.pow_pos (n := z) (show 0 < 2 by omega)
  have hge : mag b ≤ mag b * 2 ^ z := Nat.le_mul_of_pos_right _ hpz
  cases hn : neg b
  · right
    by_cases he : mag b * 2 ^ z = 4503599627370496
    · right; exact congrArg some (compare_eq.2 (by rw [he]))
    · left; refine congrArg some (gt_compare ?_)
      generalize mag b * 2 ^ z = x at *
      rw [if_neg (by decide), if_neg (by decide)]
      omega
  · left
    refine congrArg some (lt_compare ?_)
    have hgt : 4503599627370496 < mag b * 2 ^ z := by
      refine Nat.lt_of_le_of_ne (Nat.le_trans hm1 hge) fun he => ?_
      have hm : mag b = 4503599627370496 := by omega
      have hz0 : z = 0 := by
        refine Nat.eq_zero_of_not_pos fun hpos => ?_
        have h3 : (2 : Nat) ^ 1 ≤ 2 ^ z := Nat.pow_le_pow_right (by omega) hpos
        rw [hm] at he
        have h4 : 4503599627370496 * 2 ≤ 4503599627370496 * 2 ^ z := Nat.mul_le_mul_left _ h3
        omega
      have hex : ex b = 1086 := by
        have h6 : (z : Int) = (ex b : Int) - 1075 - min ((ex b : Int) - 1075) 11 := by omega
        omega
      have hfr : fr b = 0 := by unfold mag at hm; omega
      have hng : b / 9223372036854775808 % 2 = 1 := by
        unfold neg at hn
        simpa using hn
      apply hne
      show b = 14114281232179134464
      rw [hex, hfr] at hp
      omega
    generalize mag b * 2 ^ z = x at *
    simp; omega

theorem whole_lt (b : Nat) (h2 : ex b ≤ 1085) : whole b < 9223372036854775808 := by
  have hf := fr_lt b
  have hm2 : mag b < 9007199254740992 := by unfold mag; omega
  unfold whole
  split
  · exact Nat.lt_of_le_of_lt (Nat.div_le_self _ _) (by omega)
  · have h3 : 2 ^ (ex b - 1075) ≤ 2 ^ 10 := Nat.pow_le_pow_right (by omega) (by omega)
    have h10 : (2 : Nat) ^ 10 = 1024 := by decide
    rw [h10] at h3
    have h4 : mag b * 2 ^ (ex b - 1075) ≤ mag b * 1024 := Nat.mul_le_mul_left _ h3
    omega
/-- What it is turned into. -/
theorem to_int (b : Nat) (h1 : 1 ≤ ex b) (h2 : ex b ≤ 1085) : floatToIntVal .f64 b .i64 = some (if neg b then -(whole b : Int) else (whole b : Int)) := by
  have hw := whole_lt b h2
  unfold floatToIntVal
  have hd : FloatKind.f64.decode b = D.read b := rfl
  have hi : (D.read b).toInt .zero = some (if neg b then -(whole b : Int) else (whole b : Int)) := by
    unfold Datum.toInt
    rw [integral_norm b h1 (by omega)]
    simp only []
    unfold signed
    rw [Nat.shiftLeft_eq, Nat.pow_zero, Nat.mul_one]
  rw [hd, hi]
  have hmin : IntKind.i64.min = -9223372036854775808 := by decide
  have hmax : IntKind.i64.max = 9223372036854775807 := by decide
  simp only [hmin, hmax]
  rw [if_pos]
  cases neg b
  · simp; omega
  · simp; omega
end Flt
end Go.Proofs.Ytmjfgnaecokhcaa
