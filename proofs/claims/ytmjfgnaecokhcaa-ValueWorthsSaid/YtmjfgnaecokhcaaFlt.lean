/-
  A float as a whole number, by its bits: what the model's own words for floats come to. No program stands here.
-/
import Derived.WalkKit
import Derived.Laws.FloatArith
import Ieee.Arith
namespace Go.Proofs.Ytmjfgnaecokhcaa
set_option linter.unusedVariables false
open Ieee

namespace Flt
abbrev D : Format := Ieee.double
theorem sw : D.signWeight = 9223372036854775808 := by decide
theorem bin : D.binade = 4503599627370496 := by decide
theorem inf : D.infRung = 9218868437227405312 := by decide
theorem lp : D.leastPlace = -1074 := by decide

/-- A float's sign, its exponent's field, its fraction. -/
def neg (b : Nat) : Bool := b / 9223372036854775808 % 2 == 1
def ex (b : Nat) : Nat := b % 9223372036854775808 / 4503599627370496
def fr (b : Nat) : Nat := b % 4503599627370496
def mag (b : Nat) : Nat := 4503599627370496 + fr b

theorem fr_lt (b : Nat) : fr b < 4503599627370496 := Nat.mod_lt _ (by decide)
theorem parts (b : Nat) : b % 9223372036854775808 = ex b * 4503599627370496 + fr b := by
  unfold ex fr; omega

theorem read_norm (b : Nat) (h1 : 1 ≤ ex b) (h2 : ex b < 2047) : D.read b = .number (neg b) (mag b) ((ex b : Int) - 1075) := by
  have hp := parts b
  have hf := fr_lt b
  unfold Format.read
  simp only [sw, bin, inf, lp]
  rw [if_neg (by omega), if_pos (by omega)]
  have e1 : b % 9223372036854775808 % 4503599627370496 = fr b := by unfold fr; omega
  have e2 : b % 9223372036854775808 / 4503599627370496 = ex b := rfl
  rw [e1, e2]
  have e3 : (-1074 : Int) + ((ex b - 1 : Nat) : Int) = (ex b : Int) - 1075 := by omega
  rw [e3]
  rfl
theorem read_sub (b : Nat) (h : ex b = 0) : D.read b = .number (neg b) (b % 9223372036854775808) (-1074) := by
  have hp := parts b
  have hf := fr_lt b
  unfold Format.read
  simp only [sw, bin, inf, lp]
  rw [if_pos (by omega)]
  rfl

theorem cut_zero (s : Bool) (n d : Nat) : Toward.zero.cut s n d = n / 2 ^ d := by
  unfold Toward.cut
  simp only [Bool.toNat_false, Nat.add_zero]
  rw [Nat.one_shiftLeft]
  by_cases h : d ≤ n.log2 + 2
  · rw [Nat.min_eq_left h]
  · rw [Nat.min_eq_right (by omega)]
    have h1 : n < 2 ^ (n.log2 + 1) := Nat.lt_log2_self
    have h2 : 2 ^ (n.log2 + 1) ≤ 2 ^ (n.log2 + 2) := Nat.pow_le_pow_right (by omega) (by omega)
    have h3 : 2 ^ (n.log2 + 2) ≤ 2 ^ d := Nat.pow_le_pow_right (by omega) (by omega)
    rw [Nat.div_eq_of_lt (by omega), Nat.div_eq_of_lt (by omega)]
theorem cut_even_exact (s : Bool) (k d : Nat) : Toward.even.cut s (k * 2 ^ d) d = k := by
  by_cases hk : k = 0
  · subst hk
    unfold Toward.cut
    simp
  · unfold Toward.cut
    have hpos : 0 < k := Nat.pos_of_ne_zero hk
    have hlog : d ≤ (k * 2 ^ d).log2 := by
      rw [Nat.le_log2 (by have := Nat.pow_pos (n := d) (show 0 < 2 by omega); exact Nat.mul_ne_zero hk (by omega))]
      exact Nat.le_mul_of_pos_left _ hpos
    rw [Nat.min_eq_left (by omega), Nat.one_shiftLeft]
    have hp : 0 < 2 ^ d := Nat.pow_pos (by omega)
    simp only [Nat.mul_mod_left, Nat.mul_div_cancel _ hp]
    simp

/-- A number of 53 digits, at a place of its own, is written just so. -/
theorem nearest_exact (s : Bool) (q k : Nat) (j : Int) (h1 : 4503599627370496 ≤ k) (h2 : k < 9007199254740992) (hj : -1074 ≤ j) (hj2 : j ≤ 900)
    (hq : (0 ≤ j ∧ q = k * 2 ^ j.toNat) ∨ (j ≤ 0 ∧ k = q * 2 ^ (-j).toNat)) :
    D.nearest s q 0 = D.word s ((j + 1074).toNat * 4503599627370496 + k) := by
  have h53 : (2 : Nat) ^ 53 = 9007199254740992 := by decide
  have h52 : (2 : Nat) ^ 52 = 4503599627370496 := by decide
  have hq0 : q ≠ 0 := by
    rcases hq with ⟨_, rfl⟩ | ⟨_, hk⟩
    · have := Nat.pow_pos (n := j.toNat) (show 0 < 2 by omega)
      exact Nat.mul_ne_zero (by omega) (by omega)
    · rintro rfl; rw [Nat.zero_mul] at hk; omega
  have hlog : (q.log2 : Int) = j + 52 := by
    rcases hq with ⟨h0, rfl⟩ | ⟨h0, hk⟩
    · have : (k * 2 ^ j.toNat).log2 = 52 + j.toNat := by
        rw [Nat.log2_eq_iff (by assumption)]
        have e1 : 2 ^ (52 + j.toNat) = 4503599627370496 * 2 ^ j.toNat := by rw [Nat.pow_add, h52]
        have e2 : 2 ^ (52 + j.toNat + 1) = 9007199254740992 * 2 ^ j.toNat := by
          rw [show 52 + j.toNat + 1 = 53 + j.toNat by omega, Nat.pow_add, h53]
        rw [e1, e2]
        have hp := Nat.pow_pos (n := j.toNat) (show 0 < 2 by omega)
        exact ⟨Nat.mul_le_mul_right _ h1, (Nat.mul_lt_mul_right hp).2 h2⟩
      rw [this]; omega
    · have hd : (-j).toNat ≤ 52 := by
        refine Nat.le_of_not_lt fun hgt => ?_
        have h3 : 2 ^ 53 ≤ 2 ^ (-j).toNat := Nat.pow_le_pow_right (by omega) (by omega)
        have h4 : 2 ^ (-j).toNat ≤ q * 2 ^ (-j).toNat := Nat.le_mul_of_pos_left _ (by omega)
        omega
      have : q.log2 = 52 - (-j).toNat := by
        rw [Nat.log2_eq_iff hq0]
        have hp := Nat.pow_pos (n := (-j).toNat) (show 0 < 2 by omega)
        have e1 : 2 ^ (52 - (-j).toNat) * 2 ^ (-j).toNat = 4503599627370496 := by
          rw [← Nat.pow_add, Nat.sub_add_cancel hd, h52]
        constructor
        · refine Nat.le_of_mul_le_mul_right ?_ hp
          rw [e1, ← hk]; exact h1
        · refine Nat.lt_of_mul_lt_mul_right (a := 2 ^ (-j).toNat) ?_
          rw [Nat.pow_succ, Nat.mul_right_comm, e1, ← hk]; omega
      rw [this]; omega
  unfold Format.nearest
  rw [if_neg hq0]
  have hlast : max (0 + (q.log2 : Int) - (D.fractionBits : Int)) D.leastPlace = j := by
    rw [hlog, lp]
    show max (0 + (j + 52) - (52 : Int)) (-1074) = j
    omega
  simp only [hlast]
  rw [lp, bin, inf]
  have hkept : Toward.even.cut s (q <<< (0 - j).toNat) (j - 0).toNat = k := by
    rw [Nat.shiftLeft_eq]
    rcases hq with ⟨h0, rfl⟩ | ⟨h0, hk⟩
    · have e1 : (0 - j).toNat = 0 := by omega
      have e2 : (j - 0).toNat = j.toNat := by omega
      rw [e1, e2, Nat.pow_zero, Nat.mul_one, cut_even_exact]
    · have e1 : (0 - j).toNat = (-j).toNat := by omega
      have e2 : (j - 0).toNat = 0 := by omega
      rw [e1, e2, ← hk]
      have := cut_even_exact s k 0
      rwa [Nat.pow_zero, Nat.mul_one] at this
  rw [hkept]
  have e4 : (j - -1074).toNat = (j + 1074).toNat := by omega
  rw [e4, Nat.min_eq_left (by omega)]

/-- Cut towards zero. -/
def whole (b : Nat) : Nat := if ex b < 1075 then mag b / 2 ^ (1075 - ex b) else mag b * 2 ^ (ex b - 1075)
theorem integral_norm (b : Nat) (h1 : 1 ≤ ex b) (h2 : ex b < 2047) : (D.read b).integral .zero = .number (neg b) (whole b) 0 := by
  rw [read_norm b h1 h2]
  unfold Datum.integral whole
  simp only []
  rw [cut_zero, Nat.shiftLeft_eq]
  by_cases h : ex b < 1075
  · have e1 : ((ex b : Int) - 1075).toNat = 0 := by omega
    have e2 : (-((ex b : Int) - 1075)).toNat = 1075 - ex b := by omega
    rw [if_pos h, e1, e2, Nat.pow_zero, Nat.mul_one]
  · have e1 : ((ex b : Int) - 1075).toNat = ex b - 1075 := by omega
    have e2 : (-((ex b : Int) - 1075)).toNat = 0 := by omega
    rw [if_neg h, e1, e2, Nat.pow_zero, Nat.div_one]
theorem integral_sub (b : Nat) (h : ex b = 0) : (D.read b).integral .zero = .number (neg b) 0 0 := by
  have hp := parts b
  have hf := fr_lt b
  rw [read_sub b h]
  unfold Datum.integral
  simp only []
  rw [cut_zero, Nat.shiftLeft_eq]
  have e1 : ((-1074 : Int)).toNat = 0 := by decide
  have hz : 52 ≤ (-(-1074 : Int)).toNat := by decide
  generalize (-(-1074 : Int)).toNat = z at hz ⊢
  rw [e1, Nat.pow_zero, Nat.mul_one, Nat.div_eq_of_lt]
  have h3 : (2 : Nat) ^ 52 ≤ 2 ^ z := Nat.pow_le_pow_right (by omega) hz
  have h52 : (2 : Nat) ^ 52 = 4503599627370496 := by decide
  omega

/-- The bits again. -/
theorem word_self (b : Nat) (hb : b < 18446744073709551616) : D.word (neg b) (b % 9223372036854775808) = b := by
  unfold Format.word neg
  rw [sw]
  by_cases h : b / 9223372036854775808 % 2 = 1
  · rw [if_pos (by simpa using h)]; omega
  · rw [if_neg (by simpa using h)]; omega

/-- Whole already: cut and written it is itself. -/
theorem trunc_exact (b : Nat) (hb : b < 18446744073709551616) (h1 : 1023 ≤ ex b) (h2 : ex b ≤ 1085) (hx : ex b < 1075 → mag b % 2 ^ (1075 - ex b) = 0) :
    D.write ((D.read b).integral .zero) = b := by
  rw [integral_norm b (by omega) (by omega)]
  show D.nearest (neg b) (whole b) 0 = b
  have hf := fr_lt b
  have hm1 : 4503599627370496 ≤ mag b := by unfold mag; omega
  have hm2 : mag b < 9007199254740992 := by unfold mag; omega
  rw [nearest_exact (neg b) (whole b) (mag b) ((ex b : Int) - 1075) hm1 hm2 (by omega) (by omega)]
  · have e : ((ex b : Int) - 1075 + 1074).toNat * 4503599627370496 + mag b = b % 9223372036854775808 := by
      rw [parts b]
      obtain ⟨n, hn⟩ : ∃ n, ex b = n + 1 := ⟨ex b - 1, by omega⟩
      have h4 : ((ex b : Int) - 1075 + 1074).toNat = n := by omega
      rw [h4, hn, Nat.succ_mul]
      unfold mag
      omega
    rw [e, word_self b hb]
  · unfold whole
    by_cases h : ex b < 1075
    · right
      rw [if_pos h]
      refine ⟨by omega, ?_⟩
      have e2 : (-((ex b : Int) - 1075)).toNat = 1075 - ex b := by omega
      rw [e2]
      have := Nat.div_add_mod (mag b) (2 ^ (1075 - ex b))
      rw [hx h, Nat.add_zero, Nat.mul_comm] at this
      exact this.symm
    · left
      rw [if_neg h]
      have e2 : ((ex b : Int) - 1075).toNat = ex b - 1075 := by omega
      exact ⟨by omega, by rw [e2]⟩

theorem order_self (b : Nat) (h : ex b < 2047) : D.order b b = some .eq := by
  have key : ∀ (s : Bool) (m : Nat) (i : Int), (Datum.number s m i).order (.number s m i) = some .eq := by
    intro s m i
    unfold Datum.order
    simp
  unfold Format.order
  by_cases h1 : 1 ≤ ex b
  · rw [read_norm b h1 h]; exact key _ _ _
  · rw [read_sub b (by omega)]; exact key _ _ _

theorem signed_zero (s : Bool) (j : Nat) : signed s 0 j = 0 := by
  unfold signed
  cases s <;> simp
theorem signed_eq_zero {s : Bool} {m j : Nat} (h : signed s m j = 0) : m = 0 := by
  unfold signed at h
  rw [Nat.shiftLeft_eq] at h
  have hp := Nat.pow_pos (n := j) (show 0 < 2 by omega)
  have h0 : m * 2 ^ j = 0 := by
    generalize m * 2 ^ j = x at h
    cases s <;> simp at h <;> omega
  rcases Nat.mul_eq_zero.1 h0 with h | h
  · exact h
  · omega
theorem compare_eq {a b : Int} : compare a b = .eq ↔ a = b := by
  constructor
  · intro h
    exact Std.LawfulEqOrd.eq_of_compare h
  · rintro rfl; exact Std.ReflCmp.compare_self
end Flt
end Go.Proofs.Ytmjfgnaecokhcaa
