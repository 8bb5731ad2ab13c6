/-
  FltM: the texts Flt, FltB, FltC, FltD in one.
-/
import Derived.WalkKit
import Derived.Laws.FloatArith
import Ieee.Arith
import Derived.Test.YtfcmkbeilpclmaaValSpec
namespace Go.Proofs.Ytfcmkbeilpclmaa
set_option linter.unusedVariables false
open Ieee

namespace Flt
abbrev D : Format := Ieee.double
theorem sw : D.signWeight = 9223372036854775808 := by decide
theorem bin : D.binade = 4503599627370496 := by decide
theorem inf : D.infRung = 9218868437227405312 := by decide
theorem lp : D.leastPlace = -1074 := by decide

/-- A float's sign, its exponent's field, its fraction. -/
def neg (b : Nat) : Bool := b / 9223372036854775808 % 2 == 1
def ex (b : Nat) : Nat := b % 9223372036854775808 / 4503599627370496
def fr (b : Nat) : Nat := b % 4503599627370496
def mag (b : Nat) : Nat := 4503599627370496 + fr b

theorem fr_lt (b : Nat) : fr b < 4503599627370496 := Nat.mod_lt _ (by decide)
theorem parts (b : Nat) : b % 9223372036854775808 = ex b * 4503599627370496 + fr b := by
  unfold ex fr; omega

theorem read_norm (b : Nat) (h1 : 1 ≤ ex b) (h2 : ex b < 2047) : D.read b = .number (neg b) (mag b) ((ex b : Int) - 1075) := by
  have hp := parts b
  have hf := fr_lt b
  unfold Format.read
  simp only [sw, bin, inf, lp]
  rw [if_neg (by omega), if_pos (by omega)]
  have e1 : b % 9223372036854775808 % 4503599627370496 = fr b := by unfold fr; omega
  have e2 : b % 9223372036854775808 / 4503599627370496 = ex b := rfl
  rw [e1, e2]
  have e3 : (-1074 : Int) + ((ex b - 1 : Nat) : Int) = (ex b : Int) - 1075 := by omega
  rw [e3]
  rfl
theorem read_sub (b : Nat) (h : ex b = 0) : D.read b = .number (neg b) (b % 9223372036854775808) (-1074) := by
  have hp := parts b
  have hf := fr_lt b
  unfold Format.read
  simp only [sw, bin, inf, lp]
  rw [if_pos (by omega)]
  rfl

theorem cut_zero (s : Bool) (n d : Nat) : Toward.zero.cut s n d = n / 2 ^ d := by
  unfold Toward.cut
  simp only [Bool.toNat_false, Nat.add_zero]
  rw [Nat.one_shiftLeft]
  by_cases h : d ≤ n.log2 + 2
  · rw [Nat.min_eq_left h]
  · rw [Nat.min_eq_right (by omega)]
    have h1 : n < 2 ^ (n.log2 + 1) := Nat.lt_log2_self
    have h2 : 2 ^ (n.log2 + 1) ≤ 2 ^ (n.log2 + 2) := Nat.pow_le_pow_right (by omega) (by omega)
    have h3 : 2 ^ (n.log2 + 2) ≤ 2 ^ d := Nat.pow_le_pow_right (by omega) (by omega)
    rw [Nat.div_eq_of_lt (by omega), Nat.div_eq_of_lt (by omega)]
theorem cut_even_exact (s : Bool) (k d : Nat) : Toward.even.cut s (k * 2 ^ d) d = k := by
  by_cases hk : k = 0
  · subst hk
    unfold Toward.cut
    simp
  · unfold Toward.cut
    have hpos : 0 < k := Nat.pos_of_ne_zero hk
    have hlog : d ≤ (k * 2 ^ d).log2 := by
      rw [Nat.le_log2 (by have := Nat.pow_pos (n := d) (show 0 < 2 by omega); exact Nat.mul_ne_zero hk (by omega))]
      exact Nat.le_mul_of_pos_left _ hpos
    rw [Nat.min_eq_left (by omega), Nat.one_shiftLeft]
    have hp : 0 < 2 ^ d := Nat.pow_pos (by omega)
    simp only [Nat.mul_mod_left, Nat.mul_div_cancel _ hp]
    simp

/-- A number of 53 digits, at a place of its own, is written just so. -/
theorem nearest_exact (s : Bool) (q k : Nat) (j : Int) (h1 : 4503599627370496 ≤ k) (h2 : k < 9007199254740992) (hj : -1074 ≤ j) (hj2 : j ≤ 900)
    (hq : (0 ≤ j ∧ q = k * 2 ^ j.toNat) ∨ (j ≤ 0 ∧ k = q * 2 ^ (-j).toNat)) :
    D.nearest s q 0 = D.word s ((j + 1074).toNat * 4503599627370496 + k) := by
  have h53 : (2 : Nat) ^ 53 = 9007199254740992 := by decide
  have h52 : (2 : Nat) ^ 52 = 4503599627370496 := by decide
  have hq0 : q ≠ 0 := by
    rcases hq with ⟨_, rfl⟩ | ⟨_, hk⟩
    · have := Nat.pow_pos (n := j.toNat) (show 0 < 2 by omega)
      exact Nat.mul_ne_zero (by omega) (by omega)
    · rintro rfl; rw [Nat.zero_mul] at hk; omega
  have hlog : (q.log2 : Int) = j + 52 := by
    rcases hq with ⟨h0, rfl⟩ | ⟨h0, hk⟩
    · have : (k * 2 ^ j.toNat).log2 = 52 + j.toNat := by
        rw [Nat.log2_eq_iff (by assumption)]
        have e1 : 2 ^ (52 + j.toNat) = 4503599627370496 * 2 ^ j.toNat := by rw [Nat.pow_add, h52]
        have e2 : 2 ^ (52 + j.toNat + 1) = 9007199254740992 * 2 ^ j.toNat := by
          rw [show 52 + j.toNat + 1 = 53 + j.toNat by omega, Nat.pow_add, h53]
        rw [e1, e2]
        have hp := Nat.pow_pos (n := j.toNat) (show 0 < 2 by omega)
        exact ⟨Nat.mul_le_mul_right _ h1, (Nat.mul_lt_mul_right hp).2 h2⟩
      rw [this]; omega
    · have hd : (-j).toNat ≤ 52 := by
        refine Nat.le_of_not_lt fun hgt => ?_
        have h3 : 2 ^ 53 ≤ 2 ^ (-j).toNat := Nat.pow_le_pow_right (by omega) (by omega)
        have h4 : 2 ^ (-j).toNat ≤ q * 2 ^ (-j).toNat := Nat.le_mul_of_pos_left _ (by omega)
        omega
      have : q.log2 = 52 - (-j).toNat := by
        rw [Nat.log2_eq_iff hq0]
        have hp := Nat.pow_pos (n := (-j).toNat) (show 0 < 2 by omega)
        have e1 : 2 ^ (52 - (-j).toNat) * 2 ^ (-j).toNat = 4503599627370496 := by
          rw [← Nat.pow_add, Nat.sub_add_cancel hd, h52]
        constructor
        · refine Nat.le_of_mul_le_mul_right ?_ hp
          rw [e1, ← hk]; exact h1
        · refine Nat.lt_of_mul_lt_mul_right (a := 2 ^ (-j).toNat) ?_
          rw [Nat.pow_succ, Nat.mul_right_comm, e1, ← hk]; omega
      rw [this]; omega
  unfold Format.nearest
  rw [if_neg hq0]
  have hlast : max (0 + (q.log2 : Int) - (D.fractionBits : Int)) D.leastPlace = j := by
    rw [hlog, lp]
    show max (0 + (j + 52) - (52 : Int)) (-1074) = j
    omega
  simp only [hlast]
  rw [lp, bin, inf]
  have hkept : Toward.even.cut s (q <<< (0 - j).toNat) (j - 0).toNat = k := by
    rw [Nat.shiftLeft_eq]
    rcases hq with ⟨h0, rfl⟩ | ⟨h0, hk⟩
    · have e1 : (0 - j).toNat = 0 := by omega
      have e2 : (j - 0).toNat = j.toNat := by omega
      rw [e1, e2, Nat.pow_zero, Nat.mul_one, cut_even_exact]
    · have e1 : (0 - j).toNat = (-j).toNat := by omega
      have e2 : (j - 0).toNat = 0 := by omega
      rw [e1, e2, ← hk]
      have := cut_even_exact s k 0
      rwa [Nat.pow_zero, Nat.mul_one] at this
  rw [hkept]
  have e4 : (j - -1074).toNat = (j + 1074).toNat := by omega
  rw [e4, Nat.min_eq_left (by omega)]

/-- Cut towards zero. -/
def whole (b : Nat) : Nat := if ex b < 1075 then mag b / 2 ^ (1075 - ex b) else mag b * 2 ^ (ex b - 1075)
theorem integral_norm (b : Nat) (h1 : 1 ≤ ex b) (h2 : ex b < 2047) : (D.read b).integral .zero = .number (neg b) (whole b) 0 := by
  rw [read_norm b h1 h2]
  unfold Datum.integral whole
  simp only []
  rw [cut_zero, Nat.shiftLeft_eq]
  by_cases h : ex b < 1075
  · have e1 : ((ex b : Int) - 1075).toNat = 0 := by omega
    have e2 : (-((ex b : Int) - 1075)).toNat = 1075 - ex b := by omega
    rw [if_pos h, e1, e2, Nat.pow_zero, Nat.mul_one]
  · have e1 : ((ex b : Int) - 1075).toNat = ex b - 1075 := by omega
    have e2 : (-((ex b : Int) - 1075)).toNat = 0 := by omega
    rw [if_neg h, e1, e2, Nat.pow_zero, Nat.div_one]
theorem integral_sub (b : Nat) (h : ex b = 0) : (D.read b).integral .zero = .number (neg b) 0 0 := by
  have hp := parts b
  have hf := fr_lt b
  rw [read_sub b h]
  unfold Datum.integral
  simp only []
  rw [cut_zero, Nat.shiftLeft_eq]
  have e1 : ((-1074 : Int)).toNat = 0 := by decide
  have hz : 52 ≤ (-(-1074 : Int)).toNat := by decide
  generalize (-(-1074 : Int)).toNat = z at hz ⊢
  rw [e1, Nat.pow_zero, Nat.mul_one, Nat.div_eq_of_lt]
  have h3 : (2 : Nat) ^ 52 ≤ 2 ^ z := Nat.pow_le_pow_right (by omega) hz
  have h52 : (2 : Nat) ^ 52 = 4503599627370496 := by decide
  omega

/-- The bits again. -/
theorem word_self (b : Nat) (hb : b < 18446744073709551616) : D.word (neg b) (b % 9223372036854775808) = b := by
  unfold Format.word neg
  rw [sw]
  by_cases h : b / 9223372036854775808 % 2 = 1
  · rw [if_pos (by simpa using h)]; omega
  · rw [if_neg (by simpa using h)]; omega

/-- Whole already: cut and written it is itself. -/
theorem trunc_exact (b : Nat) (hb : b < 18446744073709551616) (h1 : 1023 ≤ ex b) (h2 : ex b ≤ 1085) (hx : ex b < 1075 → mag b % 2 ^ (1075 - ex b) = 0) :
    D.write ((D.read b).integral .zero) = b := by
  rw [integral_norm b (by omega) (by omega)]
  show D.nearest (neg b) (whole b) 0 = b
  have hf := fr_lt b
  have hm1 : 4503599627370496 ≤ mag b := by unfold mag; omega
  have hm2 : mag b < 9007199254740992 := by unfold mag; omega
  rw [nearest_exact (neg b) (whole b) (mag b) ((ex b : Int) - 1075) hm1 hm2 (by omega) (by omega)]
  · have e : ((ex b : Int) - 1075 + 1074).toNat * 4503599627370496 + mag b = b % 9223372036854775808 := by
      rw [parts b]
      obtain ⟨n, hn⟩ : ∃ n, ex b = n + 1 := ⟨ex b - 1, by omega⟩
      have h4 : ((ex b : Int) - 1075 + 1074).toNat = n := by omega
      rw [h4, hn, Nat.succ_mul]
      unfold mag
      omega
    rw [e, word_self b hb]
  · unfold whole
    by_cases h : ex b < 1075
    · right
      rw [if_pos h]
      refine ⟨by omega, ?_⟩
      have e2 : (-((ex b : Int) - 1075)).toNat = 1075 - ex b := by omega
      rw [e2]
      have := Nat.div_add_mod (mag b) (2 ^ (1075 - ex b))
      rw [hx h, Nat.add_zero, Nat.mul_comm] at this
      exact this.symm
    · left
      rw [if_neg h]
      have e2 : ((ex b : Int) - 1075).toNat = ex b - 1075 := by omega
      exact ⟨by omega, by rw [e2]⟩

theorem order_self (b : Nat) (h : ex b < 2047) : D.order b b = some .eq := by
  have key : ∀ (s : Bool) (m : Nat) (i : Int), (Datum.number s m i).order (.number s m i) = some .eq := by
    intro s m i
    unfold Datum.order
    simp
  unfold Format.order
  by_cases h1 : 1 ≤ ex b
  · rw [read_norm b h1 h]; exact key _ _ _
  · rw [read_sub b (by omega)]; exact key _ _ _

theorem signed_zero (s : Bool) (j : Nat) : signed s 0 j = 0 := by
  unfold signed
  cases s <;> simp
theorem signed_eq_zero {s : Bool} {m j : Nat} (h : signed s m j = 0) : m = 0 := by
  unfold signed at h
  rw [Nat.shiftLeft_eq] at h
  have hp := Nat.pow_pos (n := j) (show 0 < 2 by omega)
  have h0 : m * 2 ^ j = 0 := by
    generalize m * 2 ^ j = x at h
    cases s <;> simp at h <;> omega
  rcases Nat.mul_eq_zero.1 h0 with h | h
  · exact h
  · omega
theorem compare_eq {a b : Int} : compare a b = .eq ↔ a = b := by
  constructor
  · intro h
    exact Std.LawfulEqOrd.eq_of_compare h
  · rintro rfl; exact Std.ReflCmp.compare_self
end Flt
end Go.Proofs.Ytfcmkbeilpclmaa

namespace Go.Proofs.Ytfcmkbeilpclmaa
set_option linter.unusedVariables false
open Ieee

namespace Flt
theorem compare_lt {a b : Int} (h : compare a b = .lt) : a < b := by
  have h2 : compareOfLessAndEq a b = .lt := h
  unfold compareOfLessAndEq at h2
  split at h2
  · assumption
  · split at h2 <;> cases h2
theorem lt_compare {a b : Int} (h : a < b) : compare a b = .lt := by
  show compareOfLessAndEq a b = .lt
  unfold compareOfLessAndEq
  rw [if_pos h]
theorem gt_compare {a b : Int} (h : b < a) : compare a b = .gt := by
  show compareOfLessAndEq a b = .gt
  unfold compareOfLessAndEq
  rw [if_neg (by omega), if_neg (by omega)]

theorem read_word (s : Bool) (n K : Nat) (h1 : 4503599627370496 ≤ K) (h2 : K < 9007199254740992) (hn : n < 2046) :
    D.read (D.word s (n * 4503599627370496 + K)) = .number s K ((n : Int) - 1074) := by
  have hw : D.word s (n * 4503599627370496 + K) = (if s then 9223372036854775808 else 0) + (n * 4503599627370496 + K) := by
    unfold Format.word
    rw [sw]
    cases s <;> simp
  rw [hw]
  have hneg : neg ((if s then 9223372036854775808 else 0) + (n * 4503599627370496 + K)) = s := by
    unfold neg
    cases s
    · have : ((if false = true then 9223372036854775808 else 0) + (n * 4503599627370496 + K)) / 9223372036854775808 % 2 = 0 := by
        rw [if_neg (by decide)]; omega
      rw [this]; rfl
    · have : ((if true = true then 9223372036854775808 else 0) + (n * 4503599627370496 + K)) / 9223372036854775808 % 2 = 1 := by
        rw [if_pos rfl]; omega
      rw [this]; rfl
  have hex : ex ((if s then 9223372036854775808 else 0) + (n * 4503599627370496 + K)) = n + 1 := by
    unfold ex
    cases s
    · rw [if_neg (by decide)]; omega
    · rw [if_pos rfl]; omega
  have hmag : mag ((if s then 9223372036854775808 else 0) + (n * 4503599627370496 + K)) = K := by
    unfold mag fr
    cases s
    · rw [if_neg (by decide)]; omega
    · rw [if_pos rfl]; omega
  rw [read_norm _ (by omega) (by omega), hneg, hex, hmag]
  have : ((n + 1 : Nat) : Int) - 1075 = (n : Int) - 1074 := by omega
  rw [this]

/-- What is less than one is none. -/
theorem trunc_small (b : Nat) (h : ex b < 1023) (h0 : b % 9223372036854775808 ≠ 0) : D.order b (D.write ((D.read b).integral .zero)) ≠ some .eq := by
  have hf := fr_lt b
  have hi : (D.read b).integral .zero = .number (neg b) 0 0 := by
    by_cases h1 : 1 ≤ ex b
    · rw [integral_norm b h1 (by omega)]
      have : whole b = 0 := by
        unfold whole
        rw [if_pos (by omega), Nat.div_eq_of_lt]
        have h3 : (2 : Nat) ^ 53 ≤ 2 ^ (1075 - ex b) := Nat.pow_le_pow_right (by omega) (by omega)
        have h53 : (2 : Nat) ^ 53 = 9007199254740992 := by decide
        unfold mag
        omega
      rw [this]
    · exact integral_sub b (by omega)
  rw [hi]
  have hw : D.write (.number (neg b) 0 0) = if neg b then 9223372036854775808 else 0 := by
    show D.nearest (neg b) 0 0 = _
    unfold Format.nearest Format.word
    rw [if_pos rfl, sw]
  rw [hw]
  have hr : ∃ s, D.read (if neg b then 9223372036854775808 else 0) = .number s 0 (-1074) := by
    cases neg b
    · exact ⟨false, by decide⟩
    · exact ⟨true, by decide⟩
  obtain ⟨s, hr⟩ := hr
  have hm : ∃ m i, m ≠ 0 ∧ D.read b = .number (neg b) m i := by
    by_cases h1 : 1 ≤ ex b
    · exact ⟨_, _, by unfold mag; omega, read_norm b h1 (by omega)⟩
    · exact ⟨_, _, h0, read_sub b (by omega)⟩
  obtain ⟨m, i, hm0, hb⟩ := hm
  unfold Format.order
  rw [hr, hb]
  unfold Datum.order
  simp only [signed_zero]
  intro he
  injection he with he
  exact hm0 (signed_eq_zero (compare_eq.1 he))

theorem signed_inj {s : Bool} {m n x y : Nat} (h : signed s m x = signed s n y) : m * 2 ^ x = n * 2 ^ y := by
  unfold signed at h
  rw [Nat.shiftLeft_eq, Nat.shiftLeft_eq] at h
  generalize m * 2 ^ x = a at *
  generalize n * 2 ^ y = c at *
  cases s <;> simp at h <;> omega

/-- What is cut is none. -/
theorem trunc_inexact (b : Nat) (h1 : 1023 ≤ ex b) (h2 : ex b < 1075) (hx : mag b % 2 ^ (1075 - ex b) ≠ 0) : D.order b (D.write ((D.read b).integral .zero)) ≠ some .eq := by
  have hf := fr_lt b
  have hm1 : 4503599627370496 ≤ mag b := by unfold mag; omega
  have hm2 : mag b < 9007199254740992 := by unfold mag; omega
  have h52 : (2 : Nat) ^ 52 = 4503599627370496 := by decide
  have h53 : (2 : Nat) ^ 53 = 9007199254740992 := by decide
  rw [integral_norm b (by omega) (by omega)]
  show D.order b (D.nearest (neg b) (whole b) 0) ≠ _
  have hq : whole b = mag b / 2 ^ (1075 - ex b) := by unfold whole; rw [if_pos h2]
  rw [hq]
  obtain ⟨k, hk⟩ : ∃ k, k = 1075 - ex b := ⟨_, rfl⟩
  rw [← hk] at hx ⊢
  have hk1 : 1 ≤ k := by omega
  have hk2 : k ≤ 52 := by omega
  have hp := Nat.pow_pos (n := k) (show 0 < 2 by omega)
  obtain ⟨q, hqe⟩ : ∃ q, q = mag b / 2 ^ k := ⟨_, rfl⟩
  have hq1 : 1 ≤ q := by
    rw [hqe, Nat.le_div_iff_mul_le hp, Nat.one_mul]
    have h3 : (2 : Nat) ^ k ≤ 2 ^ 52 := Nat.pow_le_pow_right (by omega) hk2
    omega
  have hq2 : q < 4503599627370496 := by
    rw [hqe]
    refine Nat.div_lt_of_lt_mul ?_
    have h3 : (2 : Nat) ^ 1 ≤ 2 ^ k := Nat.pow_le_pow_right (by omega) hk1
    generalize 2 ^ k = p at *
    have : 2 * 4503599627370496 ≤ p * 4503599627370496 := Nat.mul_le_mul_right _ (by omega)
    omega
  rw [← hqe]
  have hq0 : q ≠ 0 := by omega
  have hL := (Nat.log2_eq_iff hq0).1 rfl
  generalize q.log2 = L at hL
  have hL52 : L < 52 := by
    refine Nat.lt_of_not_le fun hge => ?_
    have h3 : (2 : Nat) ^ 52 ≤ 2 ^ L := Nat.pow_le_pow_right (by omega) hge
    omega
  obtain ⟨d, hd⟩ : ∃ d, d = 52 - L := ⟨_, rfl⟩
  have hK1 : 4503599627370496 ≤ q * 2 ^ d := by
    rw [← h52, show (52 : Nat) = L + d by omega, Nat.pow_add]
    exact Nat.mul_le_mul_right _ hL.1
  have hK2 : q * 2 ^ d < 9007199254740992 := by
    rw [← h53, show (53 : Nat) = (L + 1) + d by omega, Nat.pow_add]
    exact (Nat.mul_lt_mul_right (Nat.pow_pos (by omega))).2 hL.2
  have hjd : (-(-(d : Int))).toNat = d := by omega
  rw [nearest_exact (neg b) q (q * 2 ^ d) (-(d : Int)) hK1 hK2 (by omega) (by omega) (Or.inr ⟨by omega, by rw [hjd]⟩)]
  have hn : (-(d : Int) + 1074).toNat = 1074 - d := by omega
  rw [hn]
  unfold Format.order
  rw [read_word (neg b) (1074 - d) _ hK1 hK2 (by omega), read_norm b (by omega) (by omega)]
  have hi : (ex b : Int) - 1075 = -(k : Int) := by omega
  have hj : ((1074 - d : Nat) : Int) - 1074 = -(d : Int) := by omega
  rw [hi, hj]
  unfold Datum.order
  simp only []
  intro he
  injection he with he
  have h4 := signed_inj (compare_eq.1 he)
  have h5 : mag b = q * 2 ^ k := by
    by_cases hdk : k ≤ d
    · have e1 : (-(k : Int) - min (-(k : Int)) (-(d : Int))).toNat = d - k := by omega
      have e2 : (-(d : Int) - min (-(k : Int)) (-(d : Int))).toNat = 0 := by omega
      rw [e1, e2, Nat.pow_zero, Nat.mul_one, show d = k + (d - k) by omega, Nat.pow_add, ← Nat.mul_assoc, show k + (d - k) - k = d - k by omega] at h4
      exact Nat.eq_of_mul_eq_mul_right (Nat.pow_pos (by omega)) h4
    · have e1 : (-(k : Int) - min (-(k : Int)) (-(d : Int))).toNat = 0 := by omega
      have e2 : (-(d : Int) - min (-(k : Int)) (-(d : Int))).toNat = k - d := by omega
      rw [e1, e2, Nat.pow_zero, Nat.mul_one, Nat.mul_assoc, ← Nat.pow_add, show d + (k - d) = k by omega] at h4
      exact h4
  rw [h5] at hx
  exact hx (Nat.mul_mod_left _ _)

def lowB : Nat := 14114281232179134464
def highB : Nat := 4890909195324358656
theorem read_low : D.read lowB = .number true 4503599627370496 11 := by decide
theorem read_high : D.read highB = .number false 4503599627370496 11 := by decide

/-- Within the bounds. -/
theorem order_low (b : Nat) (h1 : 1 ≤ ex b) (h2 : ex b ≤ 1085) : D.order b lowB ≠ some .lt := by
  have hf := fr_lt b
  have hm1 : 4503599627370496 ≤ mag b := by unfold mag; omega
  have hm2 : mag b < 9007199254740992 := by unfold mag; omega
  unfold Format.order
  rw [read_low, read_norm b h1 (by omega)]
  unfold Datum.order
  simp only []
  intro he
  injection he with he
  have h := compare_lt he
  have e1 : ((ex b : Int) - 1075 - min ((ex b : Int) - 1075) 11).toNat = 0 := by omega
  obtain ⟨z, hz⟩ : ∃ z, (11 - min ((ex b : Int) - 1075) 11).toNat = z + 1 := ⟨(11 - min ((ex b : Int) - 1075) 11).toNat - 1, by omega⟩
  rw [e1, hz] at h
  unfold signed at h
  rw [Nat.shiftLeft_eq, Nat.shiftLeft_eq, Nat.pow_zero, Nat.mul_one, Nat.pow_succ] at h
  have hp := Nat.pow_pos (n := z) (show 0 < 2 by omega)
  generalize 2 ^ z = p at *
  have h3 : 4503599627370496 * (1 * 2) ≤ 4503599627370496 * (p * 2) := Nat.mul_le_mul_left _ (by omega)
  generalize 4503599627370496 * (p * 2) = x at *
  cases neg b
  · simp at h; omega
  · simp at h; omega
theorem order_high (b : Nat) (h1 : 1 ≤ ex b) (h2 : ex b ≤ 1085) : D.order b highB = some .lt := by
  have hf := fr_lt b
  have hm1 : 4503599627370496 ≤ mag b := by unfold mag; omega
  have hm2 : mag b < 9007199254740992 := by unfold mag; omega
  unfold Format.order
  rw [read_high, read_norm b h1 (by omega)]
  unfold Datum.order
  simp only []
  refine congrArg some (lt_compare ?_)
  have e1 : ((ex b : Int) - 1075 - min ((ex b : Int) - 1075) 11).toNat = 0 := by omega
  obtain ⟨z, hz⟩ : ∃ z, (11 - min ((ex b : Int) - 1075) 11).toNat = z + 1 := ⟨(11 - min ((ex b : Int) - 1075) 11).toNat - 1, by omega⟩
  rw [e1, hz]
  unfold signed
  rw [Nat.shiftLeft_eq, Nat.shiftLeft_eq, Nat.pow_zero, Nat.mul_one, Nat.pow_succ]
  have hp := Nat.pow_pos (n := z) (show 0 < 2 by omega)
  generalize 2 ^ z = p at *
  have h3 : 4503599627370496 * (1 * 2) ≤ 4503599627370496 * (p * 2) := Nat.mul_le_mul_left _ (by omega)
  generalize 4503599627370496 * (p * 2) = x at *
  cases neg b
  · simp; omega
  · simp; omega
/-- Beyond the bounds. -/
theorem order_out (b : Nat) (hb : b < 18446744073709551616) (h1 : 1086 ≤ ex b) (h2 : ex b < 2047) (hne : b ≠ lowB) : D.order b lowB = some .lt ∨ D.order b highB = some .gt ∨ D.order b highB = some .eq := by
  have hf := fr_lt b
  have hp := parts b
  have hm1 : 4503599627370496 ≤ mag b := by unfold mag; omega
  unfold Format.order
  rw [read_low, read_high, read_norm b (by omega) h2]
  unfold Datum.order
  simp only []
  have e1 : (11 - min ((ex b : Int) - 1075) 11).toNat = 0 := by omega
  obtain ⟨z, hz⟩ : ∃ z, z = ((ex b : Int) - 1075 - min ((ex b : Int) - 1075) 11).toNat := ⟨_, rfl⟩
  rw [e1, ← hz]
  unfold signed
  rw [Nat.shiftLeft_eq, Nat.shiftLeft_eq, Nat.pow_zero, Nat.mul_one]
  have hpz := Nat.pow_pos (n := z) (show 0 < 2 by omega)
  have hge : mag b ≤ mag b * 2 ^ z := Nat.le_mul_of_pos_right _ hpz
  cases hn : neg b
  · right
    by_cases he : mag b * 2 ^ z = 4503599627370496
    · right; exact congrArg some (compare_eq.2 (by rw [he]))
    · left; refine congrArg some (gt_compare ?_)
      generalize mag b * 2 ^ z = x at *
      rw [if_neg (by decide), if_neg (by decide)]
      omega
  · left
    refine congrArg some (lt_compare ?_)
    have hgt : 4503599627370496 < mag b * 2 ^ z := by
      refine Nat.lt_of_le_of_ne (Nat.le_trans hm1 hge) fun he => ?_
      have hm : mag b = 4503599627370496 := by omega
      have hz0 : z = 0 := by
        refine Nat.eq_zero_of_not_pos fun hpos => ?_
        have h3 : (2 : Nat) ^ 1 ≤ 2 ^ z := Nat.pow_le_pow_right (by omega) hpos
        rw [hm] at he
        have h4 : 4503599627370496 * 2 ≤ 4503599627370496 * 2 ^ z := Nat.mul_le_mul_left _ h3
        omega
      have hex : ex b = 1086 := by
        have h6 : (z : Int) = (ex b : Int) - 1075 - min ((ex b : Int) - 1075) 11 := by omega
        omega
      have hfr : fr b = 0 := by unfold mag at hm; omega
      have hng : b / 9223372036854775808 % 2 = 1 := by
        unfold neg at hn
        simpa using hn
      apply hne
      show b = 14114281232179134464
      rw [hex, hfr] at hp
      omega
    generalize mag b * 2 ^ z = x at *
    simp; omega

theorem whole_lt (b : Nat) (h2 : ex b ≤ 1085) : whole b < 9223372036854775808 := by
  have hf := fr_lt b
  have hm2 : mag b < 9007199254740992 := by unfold mag; omega
  unfold whole
  split
  · exact Nat.lt_of_le_of_lt (Nat.div_le_self _ _) (by omega)
  · have h3 : 2 ^ (ex b - 1075) ≤ 2 ^ 10 := Nat.pow_le_pow_right (by omega) (by omega)
    have h10 : (2 : Nat) ^ 10 = 1024 := by decide
    rw [h10] at h3
    have h4 : mag b * 2 ^ (ex b - 1075) ≤ mag b * 1024 := Nat.mul_le_mul_left _ h3
    omega
/-- What it is turned into. -/
theorem to_int (b : Nat) (h1 : 1 ≤ ex b) (h2 : ex b ≤ 1085) : floatToIntVal .f64 b .i64 = some (if neg b then -(whole b : Int) else (whole b : Int)) := by
  have hw := whole_lt b h2
  unfold floatToIntVal
  have hd : FloatKind.f64.decode b = D.read b := rfl
  have hi : (D.read b).toInt .zero = some (if neg b then -(whole b : Int) else (whole b : Int)) := by
    unfold Datum.toInt
    rw [integral_norm b h1 (by omega)]
    simp only []
    unfold signed
    rw [Nat.shiftLeft_eq, Nat.pow_zero, Nat.mul_one]
  rw [hd, hi]
  have hmin : IntKind.i64.min = -9223372036854775808 := by decide
  have hmax : IntKind.i64.max = 9223372036854775807 := by decide
  simp only [hmin, hmax]
  rw [if_pos]
  cases neg b
  · simp; omega
  · simp; omega
end Flt
end Go.Proofs.Ytfcmkbeilpclmaa

namespace Go.Proofs.Ytfcmkbeilpclmaa
set_option linter.unusedVariables false
open Ieee

namespace Flt
/-- Finite: one form for all. -/
def en (b : Nat) : Nat := if ex b = 0 then 1 else ex b
def mn (b : Nat) : Nat := if ex b = 0 then fr b else mag b
theorem read_fin (b : Nat) (h : ex b < 2047) : D.read b = .number (neg b) (mn b) ((en b : Int) - 1075) := by
  unfold en mn
  by_cases h0 : ex b = 0
  · rw [if_pos h0, if_pos h0, read_sub b h0, parts b, h0, Nat.zero_mul, Nat.zero_add]
    rfl
  · rw [if_neg h0, if_neg h0, read_norm b (by omega) h]
theorem mn_lt (b : Nat) : mn b < 9007199254740992 := by
  have := fr_lt b
  unfold mn mag; split <;> omega
theorem mn_ge (b : Nat) (h : 1 < en b) : 4503599627370496 ≤ mn b := by
  unfold en at h
  unfold mn mag
  split
  · rename_i h0; rw [if_pos h0] at h; omega
  · omega
theorem en_ge (b : Nat) : 1 ≤ en b := by unfold en; split <;> omega
theorem same_rung {a b : Nat} (h1 : en a = en b) (h2 : mn a = mn b) : a % 9223372036854775808 = b % 9223372036854775808 := by
  have fa := fr_lt a
  have fb := fr_lt b
  rw [parts a, parts b]
  unfold en at h1
  unfold mn mag at h2
  by_cases ha : ex a = 0 <;> by_cases hb : ex b = 0 <;> simp only [ha, hb, if_true, if_false] at h1 h2 ⊢ <;> omega

theorem signed_sign {s t : Bool} {m n x y : Nat} (h : signed s m x = signed t n y) : m * 2 ^ x = n * 2 ^ y ∧ (s = t ∨ m * 2 ^ x = 0) := by
  unfold signed at h
  rw [Nat.shiftLeft_eq, Nat.shiftLeft_eq] at h
  generalize m * 2 ^ x = a at *
  generalize n * 2 ^ y = c at *
  cases s <;> cases t <;> simp at h ⊢ <;> omega

theorem order_fin (a b : Nat) (ha : ex a < 2047) (hb : ex b < 2047) : D.order a b = some .eq ↔ (a % 9223372036854775808 = b % 9223372036854775808 ∧ (neg a = neg b ∨ a % 9223372036854775808 = 0)) := by
  have key : D.order a b = some (compare (signed (neg a) (mn a) ((en a : Int) - 1075 - min ((en a : Int) - 1075) ((en b : Int) - 1075)).toNat) (signed (neg b) (mn b) ((en b : Int) - 1075 - min ((en a : Int) - 1075) ((en b : Int) - 1075)).toNat)) := by
    unfold Format.order
    rw [read_fin a ha, read_fin b hb]
    rfl
  rw [key]
  have ma := mn_lt a
  have mb := mn_lt b
  constructor
  · intro h
    injection h with h
    obtain ⟨h1, h2⟩ := signed_sign (compare_eq.1 h)
    have he : en a = en b := by
      refine Decidable.byContradiction fun hne => ?_
      by_cases hlt : en a < en b
      · have e1 : ((en a : Int) - 1075 - min ((en a : Int) - 1075) ((en b : Int) - 1075)).toNat = 0 := by omega
        obtain ⟨z, hz⟩ : ∃ z, ((en b : Int) - 1075 - min ((en a : Int) - 1075) ((en b : Int) - 1075)).toNat = z + 1 := ⟨((en b : Int) - 1075 - min ((en a : Int) - 1075) ((en b : Int) - 1075)).toNat - 1, by omega⟩
        rw [e1, hz, Nat.pow_zero, Nat.mul_one, Nat.pow_succ] at h1
        have hg := mn_ge b (by have := en_ge a; omega)
        have hp := Nat.pow_pos (n := z) (show 0 < 2 by omega)
        have h3 : mn b * (1 * 2) ≤ mn b * (2 ^ z * 2) := Nat.mul_le_mul_left _ (by omega)
        omega
      · have e1 : ((en b : Int) - 1075 - min ((en a : Int) - 1075) ((en b : Int) - 1075)).toNat = 0 := by omega
        obtain ⟨z, hz⟩ : ∃ z, ((en a : Int) - 1075 - min ((en a : Int) - 1075) ((en b : Int) - 1075)).toNat = z + 1 := ⟨((en a : Int) - 1075 - min ((en a : Int) - 1075) ((en b : Int) - 1075)).toNat - 1, by omega⟩
        rw [e1, hz, Nat.pow_zero, Nat.mul_one, Nat.pow_succ] at h1
        have hg := mn_ge a (by have := en_ge b; omega)
        have hp := Nat.pow_pos (n := z) (show 0 < 2 by omega)
        have h3 : mn a * (1 * 2) ≤ mn a * (2 ^ z * 2) := Nat.mul_le_mul_left _ (by omega)
        omega
    have e1 : ((en a : Int) - 1075 - min ((en a : Int) - 1075) ((en b : Int) - 1075)).toNat = 0 := by omega
    have e2 : ((en b : Int) - 1075 - min ((en a : Int) - 1075) ((en b : Int) - 1075)).toNat = 0 := by omega
    rw [e1, e2, Nat.pow_zero, Nat.mul_one, Nat.mul_one] at h1
    rw [e1, Nat.pow_zero, Nat.mul_one] at h2
    refine ⟨same_rung he h1, ?_⟩
    rcases h2 with h2 | h2
    · exact Or.inl h2
    · right
      rw [parts a]
      have fa := fr_lt a
      unfold mn mag at h2
      by_cases h0 : ex a = 0
      · rw [if_pos h0] at h2; rw [h0, h2]
      · rw [if_neg h0] at h2; omega
  · rintro ⟨h1, h2⟩
    have hexe : ex a = ex b := by unfold ex; rw [h1]
    have hfre : fr a = fr b := by unfold fr; omega
    have hen : en a = en b := by unfold en; rw [hexe]
    have hmn : mn a = mn b := by unfold mn mag; rw [hexe, hfre]
    rw [hen, hmn]
    refine congrArg some (compare_eq.2 ?_)
    rcases h2 with h2 | h2
    · rw [h2]
    · have h0 : mn b = 0 := by
        have hp := parts b
        have hz : ex b = 0 := by
          rw [← h1, h2] at hp
          omega
        have hf : fr b = 0 := by
          rw [← h1, h2] at hp
          omega
        unfold mn; rw [if_pos hz, hf]
      rw [h0, signed_zero, signed_zero]

theorem read_inf (b : Nat) (h : b % 9223372036854775808 = 9218868437227405312) : D.read b = .infinity (neg b) := by
  unfold Format.read
  simp only [sw, bin, inf, lp, h]
  rw [if_neg (by omega), if_neg (by omega)]
  exact if_pos trivial
theorem read_nan : D.read 9221120237041090561 = .nan false 2251799813685249 := by decide

theorem nan_bits {b : Nat} (hc : Val.cbits b = b) (h : Val.nan b = true) : b = 9221120237041090561 := by
  unfold Val.cbits at hc
  rw [if_pos h] at hc
  exact hc.symm
theorem ex_lt {b : Nat} (h : Val.nan b = false) (h2 : b % 9223372036854775808 ≠ 9218868437227405312) : ex b < 2047 := by
  unfold Val.nan at h
  have := of_decide_eq_false h
  unfold ex
  omega

/-- Equal as numbers. -/
theorem order_eq (a b : Nat) (ha : a < 18446744073709551616) (hb : b < 18446744073709551616) (ca : Val.cbits a = a) (cb : Val.cbits b = b) :
    (D.order a b == some .eq) = (!Val.nan a && !Val.nan b && (decide (a = b) || (decide (a % 9223372036854775808 = 0) && decide (b % 9223372036854775808 = 0)))) := by
  cases na : Val.nan a
  rotate_left
  · rw [nan_bits ca na]
    unfold Format.order
    rw [read_nan]
    cases D.read b <;> rfl
  cases nb : Val.nan b
  rotate_left
  · rw [nan_bits cb nb]
    unfold Format.order
    rw [read_nan]
    cases D.read a <;> rfl
  rw [Bool.eq_iff_iff]
  simp only [beq_iff_eq, Bool.not_false, Bool.true_and, Bool.or_eq_true, Bool.and_eq_true, decide_eq_true_eq]
  have ngv : ∀ c, c < 18446744073709551616 → (neg c = true ↔ 9223372036854775808 ≤ c) := fun c hc => by
    unfold neg
    rw [beq_iff_eq]
    omega
  have na1 := ngv a ha
  have nb1 := ngv b hb
  by_cases ia : a % 9223372036854775808 = 9218868437227405312
  · by_cases ib : b % 9223372036854775808 = 9218868437227405312
    · unfold Format.order
      rw [read_inf a ia, read_inf b ib]
      cases hna : neg a <;> cases hnb : neg b <;> simp only [hna, hnb, Bool.false_eq_true, false_iff, true_iff] at na1 nb1
      · refine ⟨fun _ => Or.inl (by omega), fun _ => by decide⟩
      · refine ⟨fun h => absurd h (by decide), fun h => ?_⟩
        rcases h with h | ⟨h, _⟩ <;> omega
      · refine ⟨fun h => absurd h (by decide), fun h => ?_⟩
        rcases h with h | ⟨h, _⟩ <;> omega
      · refine ⟨fun _ => Or.inl (by omega), fun _ => by decide⟩
    · unfold Format.order
      rw [read_inf a ia, read_fin b (ex_lt nb ib)]
      refine ⟨fun h => ?_, fun h => ?_⟩
      · unfold Datum.order at h
        simp only [Option.some.injEq] at h
        split at h <;> cases h
      · rcases h with h | ⟨h, _⟩ <;> omega
  · by_cases ib : b % 9223372036854775808 = 9218868437227405312
    · unfold Format.order
      rw [read_inf b ib, read_fin a (ex_lt na ia)]
      refine ⟨fun h => ?_, fun h => ?_⟩
      · unfold Datum.order at h
        simp only [Option.some.injEq] at h
        split at h <;> cases h
      · rcases h with h | ⟨_, h⟩ <;> omega
    · rw [order_fin a b (ex_lt na ia) (ex_lt nb ib)]
      cases hna : neg a <;> cases hnb : neg b <;> simp only [hna, hnb, Bool.false_eq_true, false_iff, true_iff, true_or, and_true, false_or, reduceCtorEq] at na1 nb1 ⊢ <;> omega
end Flt
end Go.Proofs.Ytfcmkbeilpclmaa

namespace Go.Proofs.Ytfcmkbeilpclmaa
set_option linter.unusedVariables false
open Ieee

namespace Flt
/-- Cut towards zero, as bits. -/
def cutB (b : Nat) : Nat := if Val.nan b = true then b else D.write ((D.read b).integral .zero)
/-- The whole number that a float is. -/
def wh (b : Nat) : Int × Bool :=
  if b % 9223372036854775808 = 0 then (0, true)
  else if b = 14114281232179134464 then (-9223372036854775808, true)
  else if ex b < 1023 ∨ 1085 < ex b then (0, false)
  else if ex b < 1075 ∧ mag b % 2 ^ (1075 - ex b) ≠ 0 then (0, false)
  else (if neg b then -(whole b : Int) else (whole b : Int), true)

theorem wh_none (b : Nat) (hb : b < 18446744073709551616) (hc : Val.cbits b = b) (h : (D.order b (cutB b) != some .eq) = true ∨ (D.order b 14114281232179134464 == some .lt) = true ∨ (D.order b 4890909195324358656 == some .gt || D.order b 4890909195324358656 == some .eq) = true) :
    wh b = (0, false) := by
  unfold wh
  by_cases h0 : b % 9223372036854775808 = 0
  · exfalso
    have hbb : b = 0 ∨ b = 9223372036854775808 := by omega
    rcases hbb with rfl | rfl
    · revert h; decide
    · revert h; decide
  rw [if_neg h0]
  by_cases hl : b = 14114281232179134464
  · exfalso
    subst hl
    revert h; decide
  rw [if_neg hl]
  by_cases h1 : ex b < 1023 ∨ 1085 < ex b
  · rw [if_pos h1]
  rw [if_neg h1]
  by_cases h2 : ex b < 1075 ∧ mag b % 2 ^ (1075 - ex b) ≠ 0
  · rw [if_pos h2]
  exfalso
  have hn : Val.nan b = false := by
    refine Bool.eq_false_iff.2 fun hn => ?_
    rw [nan_bits hc hn] at h1
    revert h1; decide
  have ht : cutB b = b := by
    unfold cutB
    rw [hn, if_neg (by decide)]
    exact trunc_exact b hb (by omega) (by omega) (fun hlt => Decidable.byContradiction fun hne => h2 ⟨hlt, hne⟩)
  have ho := order_self b (by omega)
  have hlo := order_low b (by omega) (by omega)
  have hhi := order_high b (by omega) (by omega)
  have e1 : lowB = 14114281232179134464 := rfl
  have e2 : highB = 4890909195324358656 := rfl
  rw [e1] at hlo
  rw [e2] at hhi
  rw [ht, ho, hhi] at h
  rcases h with h | h | h
  · exact absurd h (by decide)
  · exact hlo (by simpa using h)
  · exact absurd h (by decide)

theorem wh_some (b : Nat) (hb : b < 18446744073709551616) (hc : Val.cbits b = b) (h1 : (D.order b (cutB b) != some .eq) = false) (h2 : (D.order b 14114281232179134464 == some .lt) = false)
    (h3 : (D.order b 4890909195324358656 == some .gt || D.order b 4890909195324358656 == some .eq) = false) : ∃ n, floatToIntVal .f64 b .i64 = some n ∧ wh b = (n, true) := by
  unfold wh
  by_cases h0 : b % 9223372036854775808 = 0
  · rw [if_pos h0]
    have hbb : b = 0 ∨ b = 9223372036854775808 := by omega
    rcases hbb with rfl | rfl
    · exact ⟨0, by decide, rfl⟩
    · exact ⟨0, by decide, rfl⟩
  rw [if_neg h0]
  by_cases hl : b = 14114281232179134464
  · rw [if_pos hl]
    subst hl
    exact ⟨_, by decide, rfl⟩
  rw [if_neg hl]
  have hn : Val.nan b = false := by
    refine Bool.eq_false_iff.2 fun hn => ?_
    rw [nan_bits hc hn] at h1
    revert h1; decide
  have hcut : cutB b = D.write ((D.read b).integral .zero) := by
    unfold cutB; rw [hn, if_neg (by decide)]
  by_cases hi : b % 9223372036854775808 = 9218868437227405312
  · exfalso
    have hbb : b = 9218868437227405312 ∨ b = 18442240474082181120 := by omega
    rcases hbb with rfl | rfl
    · revert h3; decide
    · revert h2; decide
  have hex := ex_lt hn hi
  by_cases g1 : ex b < 1023 ∨ 1085 < ex b
  · exfalso
    rcases g1 with g1 | g1
    · have := trunc_small b g1 h0
      rw [← hcut] at this
      revert h1
      simpa using this
    · rcases order_out b hb (by omega) hex hl with g | g | g
      · rw [show lowB = 14114281232179134464 from rfl] at g
        rw [g] at h2; exact absurd h2 (by decide)
      · rw [show highB = 4890909195324358656 from rfl] at g
        rw [g] at h3; exact absurd h3 (by decide)
      · rw [show highB = 4890909195324358656 from rfl] at g
        rw [g] at h3; exact absurd h3 (by decide)
  rw [if_neg g1]
  by_cases g2 : ex b < 1075 ∧ mag b % 2 ^ (1075 - ex b) ≠ 0
  · exfalso
    have := trunc_inexact b (by omega) g2.1 g2.2
    rw [← hcut] at this
    revert h1
    simpa using this
  rw [if_neg g2]
  exact ⟨_, to_int b (by omega) (by omega), rfl⟩
end Flt
end Go.Proofs.Ytfcmkbeilpclmaa
