/-
  SumM: the texts SumA, SumB, SumC, SumD, SumE, SumF in one.
-/
import Derived.Laws.FloatArith
import Derived.Laws.NewFold
import Derived.Deep.Draws
namespace Go.Proofs.Ytfcmkbeilpclmaa
set_option linter.unusedVariables false
set_option maxRecDepth 100000
namespace Flo

theorem lp : Ieee.double.leastPlace = -1074 := by decide
theorem bn : Ieee.double.binade = 4503599627370496 := by decide
theorem ir : Ieee.double.infRung = 9218868437227405312 := by decide
theorem sw : Ieee.double.signWeight = 9223372036854775808 := by decide
theorem log_shift {m : Nat} (hm : m ≠ 0) (k : Nat) : (m <<< k).log2 = m.log2 + k := by
  have h := (Nat.log2_eq_iff hm (k := m.log2)).1 rfl
  rw [Nat.shiftLeft_eq]
  refine (Nat.log2_eq_iff (Nat.mul_ne_zero hm (Nat.pos_iff_ne_zero.1 (Nat.two_pow_pos k)))).2 ⟨?_, ?_⟩
  · rw [Nat.pow_add]; exact Nat.mul_le_mul_right _ h.1
  · rw [show m.log2 + k + 1 = (m.log2 + 1) + k from by omega, Nat.pow_add]
    exact Nat.mul_lt_mul_of_pos_right h.2 (Nat.two_pow_pos k)
theorem cut_shift (neg : Bool) (m d : Nat) : Ieee.Toward.even.cut neg (m <<< d) d = m := by
  unfold Ieee.Toward.cut
  by_cases hm : m = 0
  · subst hm
    simp
  · have e : min d ((m <<< d).log2 + 2) = d := by rw [log_shift hm]; omega
    rw [e]
    have hg : 1 <<< d = 2 ^ d := by rw [Nat.shiftLeft_eq, Nat.one_mul]
    have hp := Nat.two_pow_pos d
    have h1 : m <<< d / 1 <<< d = m := by rw [hg, Nat.shiftLeft_eq]; exact Nat.mul_div_cancel _ hp
    have h2 : m <<< d % 1 <<< d = 0 := by rw [hg, Nat.shiftLeft_eq]; exact Nat.mul_mod_left _ _
    dsimp only
    rw [h1, h2, hg]
    have h3 : decide (2 ^ d < 2 * 0) = false := by simp
    have h4 : (2 ^ d == 2 * 0) = false := beq_eq_false_iff_ne.2 (by omega)
    simp [h4]
/-- A significand at its place, told with k more digits. -/
theorem near_exact (neg : Bool) (m k e : Nat) (hm : m ≠ 0) (h : m < 9007199254740992) (he : e = 0 ∨ 4503599627370496 ≤ m) :
    Ieee.double.nearest neg (m <<< k) (-1074 + (e : Int) - (k : Int)) = Ieee.double.word neg (min (e * 4503599627370496 + m) 9218868437227405312) := by
  have hne : m <<< k ≠ 0 := by rw [Nat.shiftLeft_eq]; exact Nat.mul_ne_zero hm (Nat.pos_iff_ne_zero.1 (Nat.two_pow_pos k))
  have hlog : m.log2 ≤ 52 := by
    have := Nat.log2_lt hm (k := 53)
    have := this.2 (by simpa using h)
    omega
  have hlog2 : e = 0 ∨ m.log2 = 52 := he.imp (fun h => h) (fun h1 => by
    have h2 := (Nat.le_log2 hm (k := 52)).2 (by simpa using h1)
    omega)
  unfold Ieee.Format.nearest
  rw [if_neg hne, lp, bn, ir, log_shift hm]
  have hf : (Ieee.double.fractionBits : Int) = 52 := rfl
  have hlast : max (-1074 + (e : Int) - (k : Int) + ((m.log2 + k : Nat) : Int) - (Ieee.double.fractionBits : Int)) (-1074) = -1074 + (e : Int) := by rw [hf]; omega
  rw [hlast]
  have h1 : (-1074 + (e : Int) - (k : Int) - (-1074 + (e : Int))).toNat = 0 := by omega
  have h2 : (-1074 + (e : Int) - (-1074 + (e : Int) - (k : Int))).toNat = k := by omega
  have h3 : (-1074 + (e : Int) - -1074).toNat = e := by omega
  simp only [h1, h2, h3, Nat.shiftLeft_zero, cut_shift]
/-- What a finite word stands for. -/
theorem read_fin (x : Nat) (hx : x < 18446744073709551616) (hf : x % 9223372036854775808 < 9218868437227405312) :
    ∃ m e : Nat, Ieee.double.read x = .number (decide (9223372036854775808 ≤ x)) m (-1074 + (e : Int)) ∧ m < 9007199254740992 ∧ (e = 0 ∨ 4503599627370496 ≤ m) ∧ e * 4503599627370496 + m = x % 9223372036854775808 ∧ e ≤ 2045 := by
  have hs : (x / 9223372036854775808 % 2 == 1) = decide (9223372036854775808 ≤ x) := by
    by_cases h : 9223372036854775808 ≤ x
    · rw [decide_eq_true h]
      have : x / 9223372036854775808 = 1 := by omega
      rw [this]
      rfl
    · rw [decide_eq_false h]
      have : x / 9223372036854775808 = 0 := by omega
      rw [this]
      rfl
  unfold Ieee.Format.read
  rw [sw, bn, ir, lp]
  simp only [hs]
  by_cases h : x % 9223372036854775808 < 4503599627370496
  · rw [if_pos h]
    exact ⟨_, 0, rfl, by omega, Or.inl rfl, by omega, by omega⟩
  · rw [if_neg h, if_pos hf]
    refine ⟨_, x % 9223372036854775808 / 4503599627370496 - 1, rfl, by omega, Or.inr (by omega), ?_, by omega⟩
    have h1 := Nat.div_add_mod (x % 9223372036854775808) 4503599627370496
    have h2 : 1 ≤ x % 9223372036854775808 / 4503599627370496 := by omega
    generalize x % 9223372036854775808 / 4503599627370496 = q at h1 h2 ⊢
    omega
theorem read_inf (x : Nat) (hx : x < 18446744073709551616) (hf : x % 9223372036854775808 = 9218868437227405312) : Ieee.double.read x = .infinity (decide (9223372036854775808 ≤ x)) := by
  have hs : (x / 9223372036854775808 % 2 == 1) = decide (9223372036854775808 ≤ x) := by
    by_cases h : 9223372036854775808 ≤ x
    · rw [decide_eq_true h, show x / 9223372036854775808 = 1 from by omega]; rfl
    · rw [decide_eq_false h, show x / 9223372036854775808 = 0 from by omega]; rfl
  unfold Ieee.Format.read
  rw [sw, bn, ir, lp]
  simp only [hs]
  rw [if_neg (by omega), if_neg (by omega), if_pos hf]
theorem read_nan (x : Nat) (hf : 9218868437227405312 < x % 9223372036854775808) : ∃ s t, Ieee.double.read x = .nan s t := by
  unfold Ieee.Format.read
  rw [sw, bn, ir, lp]
  refine ⟨x / 9223372036854775808 % 2 == 1, x % 9223372036854775808 - 9218868437227405312, ?_⟩
  dsimp only
  rw [if_neg (by omega), if_neg (by omega), if_neg (by omega)]
theorem word_of (x : Nat) (hx : x < 18446744073709551616) : Ieee.double.word (decide (9223372036854775808 ≤ x)) (x % 9223372036854775808) = x := by
  unfold Ieee.Format.word
  rw [sw]
  by_cases h : 9223372036854775808 ≤ x
  · rw [decide_eq_true h, if_pos rfl]; omega
  · rw [decide_eq_false h, if_neg (by decide)]; omega
/-- A finite word's number, told with k more digits, is written as that word. -/
theorem write_back (x : Nat) (hx : x < 18446744073709551616) (m e k : Nat) (hm : m ≠ 0) (h1 : m < 9007199254740992) (h2 : e = 0 ∨ 4503599627370496 ≤ m) (h3 : e * 4503599627370496 + m = x % 9223372036854775808) (hf : x % 9223372036854775808 < 9218868437227405312) :
    Ieee.double.nearest (decide (9223372036854775808 ≤ x)) (m <<< k) (-1074 + (e : Int) - (k : Int)) = x := by
  rw [near_exact _ m k e hm h1 h2, h3, Nat.min_eq_left (by omega), word_of x hx]
theorem zero_read : Ieee.double.read 0 = .number false 0 (-1074) := by decide
theorem one_read : Ieee.double.read 4607182418800017408 = .number false 4503599627370496 (-52) := by decide
theorem word_zero : Ieee.double.nearest false 0 (-1074) = 0 := by decide
/-- Nothing and a finite float is that float, and zero of either sign is zero. -/
theorem add_zero (x : Nat) (hx : x < 18446744073709551616) (hf : x % 9223372036854775808 < 9218868437227405312) : Ieee.double.add 0 x = some (if x % 9223372036854775808 = 0 then 0 else x) := by
  obtain ⟨m, e, hr, h1, h2, h3, h4⟩ := read_fin x hx hf
  unfold Ieee.Format.add
  rw [zero_read, hr]
  have hb : min (-1074 : Int) (-1074 + (e : Int)) = -1074 := by omega
  have e1 : (-1074 + (e : Int) - -1074).toNat = e := by omega
  have hsum : ∀ s : Bool, Ieee.Datum.sum (.number false 0 (-1074)) (.number s m (-1074 + (e : Int))) = some (.number (if Ieee.signed s m e = 0 then false else decide (Ieee.signed s m e < 0)) (Ieee.signed s m e).natAbs (-1074)) := by
    intro s
    show some (Ieee.Datum.number (if Ieee.signed false 0 (-1074 - min (-1074 : Int) (-1074 + (e : Int))).toNat + Ieee.signed s m (-1074 + (e : Int) - min (-1074 : Int) (-1074 + (e : Int))).toNat = 0 then false && s else decide (Ieee.signed false 0 (-1074 - min (-1074 : Int) (-1074 + (e : Int))).toNat + Ieee.signed s m (-1074 + (e : Int) - min (-1074 : Int) (-1074 + (e : Int))).toNat < 0)) _ _) = _
    rw [hb, e1]
    have z : Ieee.signed false 0 (-1074 - -1074 : Int).toNat = 0 := by decide
    rw [z, Int.zero_add, Bool.false_and]
  rw [hsum]
  have hmz : x % 9223372036854775808 = 0 ↔ m = 0 := by
    rcases h2 with h2 | h2
    · subst h2; omega
    · omega
  by_cases hm : m = 0
  · rw [if_pos (hmz.2 hm)]
    subst hm
    have h0 : ∀ s : Bool, Ieee.signed s 0 e = 0 := by intro s; unfold Ieee.signed; cases s <;> simp
    rw [h0, if_pos rfl]
    show some (Ieee.double.nearest false 0 (-1074)) = some 0
    rw [word_zero]
  · rw [if_neg (fun h => hm (hmz.1 h))]
    have hnz : m <<< e ≠ 0 := by rw [Nat.shiftLeft_eq]; exact Nat.mul_ne_zero hm (Nat.pos_iff_ne_zero.1 (Nat.two_pow_pos e))
    have hw := write_back x hx m e e hm h1 h2 h3 hf
    rw [show (-1074 + (e : Int) - (e : Int)) = -1074 from by omega] at hw
    have key : ∀ s : Bool, (Ieee.Datum.number (if Ieee.signed s m e = 0 then false else decide (Ieee.signed s m e < 0)) (Ieee.signed s m e).natAbs (-1074)) = .number s (m <<< e) (-1074) := by
      intro s
      unfold Ieee.signed
      generalize m <<< e = M at hnz
      cases s
      · simp only [Bool.false_eq_true, if_false]
        rw [if_neg (by omega), decide_eq_false (by omega), show (M : Int).natAbs = M from by omega]
      · simp only [if_true]
        rw [if_neg (by omega), decide_eq_true (by omega), show (-(M : Int)).natAbs = M from by omega]
    rw [key]
    show some (Ieee.double.nearest (decide (9223372036854775808 ≤ x)) (m <<< e) (-1074)) = some x
    rw [hw]
end Flo
end Go.Proofs.Ytfcmkbeilpclmaa

namespace Go.Proofs.Ytfcmkbeilpclmaa
set_option linter.unusedVariables false
set_option maxRecDepth 100000
namespace Flo

theorem cut_none (neg : Bool) (m : Nat) : Ieee.Toward.even.cut neg m 0 = m := by
  have h := cut_shift neg m 0
  rwa [Nat.shiftLeft_zero] at h
theorem cut_le (neg : Bool) (m d : Nat) (h : d ≤ m.log2 + 2) : Ieee.Toward.even.cut neg m d = m / 2 ^ d ∨ Ieee.Toward.even.cut neg m d = m / 2 ^ d + 1 := by
  unfold Ieee.Toward.cut
  dsimp only
  rw [Nat.min_eq_left h, show 1 <<< d = 2 ^ d from by rw [Nat.shiftLeft_eq, Nat.one_mul]]
  generalize (decide (2 ^ d < 2 * (m % 2 ^ d)) || 2 ^ d == 2 * (m % 2 ^ d) && m / 2 ^ d % 2 == 1) = c
  cases c
  · exact Or.inl rfl
  · exact Or.inr rfl
/-- The rung of a significand of 53 digits, or of one more that has just become one, at its place. -/
theorem rung_units (t kept : Nat) (h1 : t = 0 ∨ 4503599627370496 ≤ kept) (h2 : kept ≤ 9007199254740992) (ht : t ≤ 2044) (s : Bool) :
    ∃ m e : Nat, Ieee.double.read (Ieee.double.word s (t * 4503599627370496 + kept)) = .number s m (-1074 + (e : Int)) ∧ m <<< e = kept <<< t ∧ Ieee.double.word s (t * 4503599627370496 + kept) < 18446744073709551616 ∧ Ieee.double.word s (t * 4503599627370496 + kept) % 9223372036854775808 < 9218868437227405312 ∧ t * 4503599627370496 + kept < 9218868437227405312 := by
  have hr : t * 4503599627370496 + kept < 9218868437227405312 := by omega
  have hw : Ieee.double.word s (t * 4503599627370496 + kept) = (if s = true then 9223372036854775808 else 0) + (t * 4503599627370496 + kept) := by
    unfold Ieee.Format.word
    rw [sw]
    cases s <;> simp
  have hx : Ieee.double.word s (t * 4503599627370496 + kept) < 18446744073709551616 := by rw [hw]; cases s <;> simp <;> omega
  have hmod : Ieee.double.word s (t * 4503599627370496 + kept) % 9223372036854775808 = t * 4503599627370496 + kept := by rw [hw]; cases s <;> simp <;> omega
  have hsg : decide (9223372036854775808 ≤ Ieee.double.word s (t * 4503599627370496 + kept)) = s := by
    rw [hw]
    cases s
    · exact decide_eq_false (by simp; omega)
    · exact decide_eq_true (by simp)
  obtain ⟨m, e, hrd, h3, h4, h5, h6⟩ := read_fin _ hx (by rw [hmod]; exact hr)
  rw [hmod] at h5
  rw [hsg] at hrd
  refine ⟨m, e, hrd, ?_, hx, by rw [hmod]; exact hr, hr⟩
  by_cases hk : kept = 9007199254740992
  · have he : e = t + 1 ∧ m = 4503599627370496 := by
      rcases h4 with h4 | h4
      · subst h4; omega
      · omega
    obtain ⟨rfl, rfl⟩ := he
    subst hk
    rw [Nat.shiftLeft_eq, Nat.shiftLeft_eq, Nat.pow_succ]
    omega
  · have he : e = t ∧ m = kept := by
      rcases h4 with h4 | h4
      · subst h4; omega
      · omega
    obtain ⟨rfl, rfl⟩ := he
    rfl
/-- A number that is not too great is written as a finite word, at most twice as great. -/
theorem near_bound (s : Bool) (M b : Nat) (hM : M ≠ 0) (N : Nat) (hN : N ≤ 2097) (hU : M <<< b < 2 ^ N) :
    ∃ m e : Nat, Ieee.double.read (Ieee.double.nearest s M (-1074 + (b : Int))) = .number s m (-1074 + (e : Int)) ∧ m <<< e ≤ 2 * (M <<< b) ∧ Ieee.double.nearest s M (-1074 + (b : Int)) < 18446744073709551616 ∧ Ieee.double.nearest s M (-1074 + (b : Int)) % 9223372036854775808 < 9218868437227405312 := by
  obtain ⟨L, hLe⟩ : ∃ L, M.log2 = L := ⟨_, rfl⟩
  obtain ⟨hl1, hl2⟩ := (Nat.log2_eq_iff hM).1 hLe
  have hb := Nat.two_pow_pos b
  rw [Nat.shiftLeft_eq] at hU
  have hLb : L + b < N := by
    have h1 : 2 ^ (L + b) < 2 ^ N := by
      rw [Nat.pow_add]
      exact Nat.lt_of_le_of_lt (Nat.mul_le_mul_right _ hl1) hU
    exact (Nat.pow_lt_pow_iff_right (by decide)).1 h1
  unfold Ieee.Format.nearest
  rw [if_neg hM, lp, bn, ir, hLe]
  have hf : (Ieee.double.fractionBits : Int) = 52 := rfl
  rw [hf]
  by_cases hc : b + L ≤ 52
  · have hlast : max (-1074 + (b : Int) + (L : Int) - 52) (-1074) = -1074 := by omega
    rw [hlast]
    have g1 : (-1074 + (b : Int) - -1074).toNat = b := by omega
    have g2 : (-1074 - (-1074 + (b : Int)) : Int).toNat = 0 := by omega
    have g3 : (-1074 - -1074 : Int).toNat = 0 := by omega
    simp only [g1, g2, g3, cut_none]
    have hk : M <<< b ≤ 9007199254740992 := by
      rw [Nat.shiftLeft_eq]
      have h1 : M * 2 ^ b ≤ 2 ^ (L + 1) * 2 ^ b := Nat.mul_le_mul_right _ (Nat.le_of_lt hl2)
      rw [← Nat.pow_add] at h1
      have h2 : 2 ^ (L + 1 + b) ≤ 2 ^ 53 := Nat.pow_le_pow_right (by decide) (by omega)
      have h3 : (2 : Nat) ^ 53 = 9007199254740992 := by decide
      omega
    obtain ⟨m, e, r1, r2, r3, r4, r5⟩ := rung_units 0 (M <<< b) (Or.inl rfl) hk (by omega) s
    rw [Nat.min_eq_left (Nat.le_of_lt r5)]
    exact ⟨m, e, r1, by rw [r2, Nat.shiftLeft_zero]; omega, r3, r4⟩
  · obtain ⟨t, ht⟩ : ∃ t, t + 52 = b + L := ⟨b + L - 52, by omega⟩
    have hlast : max (-1074 + (b : Int) + (L : Int) - 52) (-1074) = -1074 + (t : Int) := by omega
    rw [hlast]
    have g3 : (-1074 + (t : Int) - -1074).toNat = t := by omega
    have p52 : (2 : Nat) ^ 52 = 4503599627370496 := by decide
    have p53 : (2 : Nat) ^ 53 = 9007199254740992 := by decide
    by_cases hd : L ≤ 52
    · have g1 : (-1074 + (b : Int) - (-1074 + (t : Int))).toNat = 52 - L := by omega
      have g2 : (-1074 + (t : Int) - (-1074 + (b : Int))).toNat = 0 := by omega
      simp only [g1, g2, g3, cut_none]
      have hk1 : 4503599627370496 ≤ M <<< (52 - L) := by
        rw [Nat.shiftLeft_eq, ← p52, show 52 = L + (52 - L) from by omega, Nat.pow_add, show L + (52 - L) - L = 52 - L from by omega]
        exact Nat.mul_le_mul_right _ hl1
      have hk2 : M <<< (52 - L) ≤ 9007199254740992 := by
        rw [Nat.shiftLeft_eq]
        have h1 : M * 2 ^ (52 - L) ≤ 2 ^ (L + 1) * 2 ^ (52 - L) := Nat.mul_le_mul_right _ (Nat.le_of_lt hl2)
        rw [← Nat.pow_add, show L + 1 + (52 - L) = 53 from by omega, p53] at h1
        exact h1
      obtain ⟨m, e, r1, r2, r3, r4, r5⟩ := rung_units t (M <<< (52 - L)) (Or.inr hk1) hk2 (by omega) s
      rw [Nat.min_eq_left (Nat.le_of_lt r5)]
      refine ⟨m, e, r1, ?_, r3, r4⟩
      rw [r2, ← Nat.shiftLeft_add, show 52 - L + t = b from by omega]
      omega
    · obtain ⟨d, hdd⟩ : ∃ d, d + 52 = L := ⟨L - 52, by omega⟩
      have g1 : (-1074 + (b : Int) - (-1074 + (t : Int))).toNat = 0 := by omega
      have g2 : (-1074 + (t : Int) - (-1074 + (b : Int))).toNat = d := by omega
      simp only [g1, g2, g3, Nat.shiftLeft_zero]
      have hpd := Nat.two_pow_pos d
      have hq1 : 4503599627370496 ≤ M / 2 ^ d := by
        rw [Nat.le_div_iff_mul_le hpd, ← p52, ← Nat.pow_add, show 52 + d = L from by omega]
        exact hl1
      have hq2 : M / 2 ^ d < 9007199254740992 := by
        rw [Nat.div_lt_iff_lt_mul hpd, ← p53, ← Nat.pow_add, show 53 + d = L + 1 from by omega]
        exact hl2
      have hqm : M / 2 ^ d * 2 ^ d ≤ M := Nat.div_mul_le_self _ _
      have hcut := cut_le s M d (by rw [hLe]; omega)
      obtain ⟨kept, hkept⟩ : ∃ k, Ieee.Toward.even.cut s M d = k := ⟨_, rfl⟩
      rw [hkept] at hcut ⊢
      obtain ⟨m, e, r1, r2, r3, r4, r5⟩ := rung_units t kept (Or.inr (by omega)) (by omega) (by omega) s
      rw [Nat.min_eq_left (Nat.le_of_lt r5)]
      refine ⟨m, e, r1, ?_, r3, r4⟩
      rw [r2, Nat.shiftLeft_eq, Nat.shiftLeft_eq, show t = d + b from by omega, Nat.pow_add, ← Nat.mul_assoc, ← Nat.mul_assoc]
      refine Nat.mul_le_mul_right _ ?_
      have h1 : kept ≤ 2 * (M / 2 ^ d) := by omega
      have h2 : kept * 2 ^ d ≤ 2 * (M / 2 ^ d) * 2 ^ d := Nat.mul_le_mul_right _ h1
      rw [Nat.mul_assoc] at h2
      omega
/-- How many of the least units a finite word is: its number without its sign. -/
def Fin (x u : Nat) : Prop := x < 18446744073709551616 ∧ x % 9223372036854775808 < 9218868437227405312 ∧ ∃ m e : Nat, Ieee.double.read x = .number (decide (9223372036854775808 ≤ x)) m (-1074 + (e : Int)) ∧ m <<< e = u
theorem Fin.zero : Fin 0 0 := ⟨by decide, by decide, 0, 0, by decide, by decide⟩
/-- The sum of two finite floats that are not too great is finite, and at most twice as great as both together. -/
theorem add_fin {x y u v N : Nat} (hx : Fin x u) (hy : Fin y v) (hN : N ≤ 2097) (h : u + v < 2 ^ N) : ∃ z w, Ieee.double.add x y = some z ∧ Fin z w ∧ w ≤ 2 * (u + v) := by
  obtain ⟨-, -, m1, e1, r1, rfl⟩ := hx
  obtain ⟨-, -, m2, e2, r2, rfl⟩ := hy
  unfold Ieee.Format.add
  rw [r1, r2]
  generalize decide (9223372036854775808 ≤ x) = s
  generalize decide (9223372036854775808 ≤ y) = t
  obtain ⟨b, hb⟩ : ∃ b : Nat, min (-1074 + (e1 : Int)) (-1074 + (e2 : Int)) = -1074 + (b : Int) := ⟨min e1 e2, by omega⟩
  have hb1 : b ≤ e1 := by omega
  have hb2 : b ≤ e2 := by omega
  obtain ⟨T, hT⟩ : ∃ T : Int, Ieee.signed s m1 (e1 - b) + Ieee.signed t m2 (e2 - b) = T := ⟨_, rfl⟩
  have hsum : Ieee.Datum.sum (.number s m1 (-1074 + (e1 : Int))) (.number t m2 (-1074 + (e2 : Int))) = some (.number (if T = 0 then s && t else decide (T < 0)) T.natAbs (-1074 + (b : Int))) := by
    show some (Ieee.Datum.number (if Ieee.signed s m1 (-1074 + (e1 : Int) - min (-1074 + (e1 : Int)) (-1074 + (e2 : Int))).toNat + Ieee.signed t m2 (-1074 + (e2 : Int) - min (-1074 + (e1 : Int)) (-1074 + (e2 : Int))).toNat = 0 then s && t else _) _ _) = _
    rw [hb, show (-1074 + (e1 : Int) - (-1074 + (b : Int))).toNat = e1 - b from by omega, show (-1074 + (e2 : Int) - (-1074 + (b : Int))).toNat = e2 - b from by omega, hT]
  rw [hsum]
  have habs : T.natAbs ≤ m1 <<< (e1 - b) + m2 <<< (e2 - b) := by
    rw [← hT]
    unfold Ieee.signed
    generalize m1 <<< (e1 - b) = A
    generalize m2 <<< (e2 - b) = B
    cases s <;> cases t <;> simp <;> omega
  have hle : T.natAbs <<< b ≤ m1 <<< e1 + m2 <<< e2 := by
    have h1 : T.natAbs <<< b ≤ (m1 <<< (e1 - b) + m2 <<< (e2 - b)) <<< b := by
      rw [Nat.shiftLeft_eq, Nat.shiftLeft_eq]
      exact Nat.mul_le_mul_right _ habs
    have h2 : (m1 <<< (e1 - b) + m2 <<< (e2 - b)) <<< b = m1 <<< e1 + m2 <<< e2 := by
      rw [Nat.shiftLeft_eq, Nat.add_mul, ← Nat.shiftLeft_eq, ← Nat.shiftLeft_eq, ← Nat.shiftLeft_add, ← Nat.shiftLeft_add, Nat.sub_add_cancel hb1, Nat.sub_add_cancel hb2]
    omega
  generalize (if T = 0 then s && t else decide (T < 0)) = sg
  by_cases hz : T.natAbs = 0
  · refine ⟨_, 0, rfl, ?_, Nat.zero_le _⟩
    rw [hz]
    show Fin (Ieee.double.nearest sg 0 _) 0
    unfold Ieee.Format.nearest
    rw [if_pos rfl]
    cases sg
    · exact Fin.zero
    · exact ⟨by decide, by decide, 0, 0, by decide, by decide⟩
  · obtain ⟨m, e, q1, q2, q3, q4⟩ := near_bound sg T.natAbs b hz N hN (by omega)
    refine ⟨Ieee.double.nearest sg T.natAbs (-1074 + (b : Int)), m <<< e, rfl, ⟨q3, q4, m, e, ?_, rfl⟩, by omega⟩
    obtain ⟨m', e', p1, -⟩ := read_fin _ q3 q4
    have hsg := q1.symm.trans p1
    injection hsg with hsg _ _
    rw [← hsg]
    exact q1
theorem fin_of (x : Nat) (hx : x < 18446744073709551616) (N : Nat) (hN : N ≤ 2046) (h : x % 9223372036854775808 < (N + 1) * 4503599627370496) : ∃ u, Fin x u ∧ u < 2 ^ (N + 53) := by
  have hf : x % 9223372036854775808 < 9218868437227405312 := by omega
  obtain ⟨m, e, r1, r2, r3, r4, r5⟩ := read_fin x hx hf
  refine ⟨m <<< e, ⟨hx, hf, m, e, r1, rfl⟩, ?_⟩
  have he : e ≤ N := by
    rcases r3 with r3 | r3
    · omega
    · omega
  rw [Nat.shiftLeft_eq]
  have p53 : (2 : Nat) ^ 53 = 9007199254740992 := by decide
  have h1 : m * 2 ^ e < 2 ^ 53 * 2 ^ e := Nat.mul_lt_mul_of_pos_right (by omega) (Nat.two_pow_pos e)
  rw [← Nat.pow_add] at h1
  exact Nat.lt_of_lt_of_le h1 (Nat.pow_le_pow_right (by decide) (by omega))
end Flo
end Go.Proofs.Ytfcmkbeilpclmaa

namespace Go.Proofs.Ytfcmkbeilpclmaa
set_option linter.unusedVariables false
set_option maxRecDepth 100000
namespace Flo

def Nan (x : Nat) : Prop := 9218868437227405312 < x % 9223372036854775808
def Inf (x : Nat) : Prop := x < 18446744073709551616 ∧ x % 9223372036854775808 = 9218868437227405312
def Fine (x : Nat) : Prop := x < 18446744073709551616 ∧ x % 9223372036854775808 < 9218868437227405312
theorem inf_word {x : Nat} (h : Inf x) : Ieee.double.word (decide (9223372036854775808 ≤ x)) 9218868437227405312 = x := by
  have := word_of x h.1
  rwa [h.2] at this
theorem inf_two {x : Nat} (h : Inf x) : x = 9218868437227405312 ∨ x = 18442240474082181120 := by
  obtain ⟨h1, h2⟩ := h
  omega
theorem add_nanl {x : Nat} (h : Nan x) (y : Nat) : Ieee.double.add x y = none := by
  obtain ⟨s, t, hr⟩ := read_nan x h
  unfold Ieee.Format.add
  rw [hr]
  cases Ieee.double.read y <;> rfl
theorem add_nanr {y : Nat} (h : Nan y) (x : Nat) : Ieee.double.add x y = none := by
  obtain ⟨s, t, hr⟩ := read_nan y h
  unfold Ieee.Format.add
  rw [hr]
  cases Ieee.double.read x <;> rfl
theorem add_if {x y : Nat} (hx : Inf x) (hy : Fine y) : Ieee.double.add x y = some x := by
  obtain ⟨m, e, hr, -⟩ := read_fin y hy.1 hy.2
  unfold Ieee.Format.add
  rw [hr, read_inf x hx.1 hx.2]
  show some (Ieee.double.word _ Ieee.double.infRung) = some x
  rw [ir, inf_word hx]
theorem add_fi {x y : Nat} (hx : Inf x) (hy : Fine y) : Ieee.double.add y x = some x := by
  obtain ⟨m, e, hr, -⟩ := read_fin y hy.1 hy.2
  unfold Ieee.Format.add
  rw [hr, read_inf x hx.1 hx.2]
  show some (Ieee.double.word _ Ieee.double.infRung) = some x
  rw [ir, inf_word hx]
theorem add_ii {x y : Nat} (hx : Inf x) (hy : Inf y) : Ieee.double.add x y = if x = y then some x else none := by
  rcases inf_two hx with rfl | rfl <;> rcases inf_two hy with rfl | rfl <;> decide
/-- Whatever is added that is a number, nothing comes that is written as no number. -/
theorem write_good (d : Ieee.Datum) (h : d.isNaN = false) : Fine (Ieee.double.write d) ∨ Inf (Ieee.double.write d) := by
  have hw : ∀ (s : Bool) (r : Nat), r ≤ 9218868437227405312 → Fine (Ieee.double.word s r) ∨ Inf (Ieee.double.word s r) := by
    intro s r hr
    have e : Ieee.double.word s r = (if s = true then 9223372036854775808 else 0) + r := by
      unfold Ieee.Format.word
      rw [sw]
      cases s <;> simp
    rw [e]
    unfold Fine Inf
    cases s
    · simp only [Bool.false_eq_true, if_false]; omega
    · simp only [if_true]; omega
  cases d with
  | nan s t => cases h
  | infinity s =>
    show Fine (Ieee.double.word s Ieee.double.infRung) ∨ Inf (Ieee.double.word s Ieee.double.infRung)
    rw [ir]
    exact hw s _ (Nat.le_refl _)
  | number s m i =>
    show Fine (Ieee.double.nearest s m i) ∨ Inf (Ieee.double.nearest s m i)
    unfold Ieee.Format.nearest
    split
    · exact hw s 0 (by decide)
    · rw [ir]
      exact hw s _ (Nat.min_le_right _ _)
/-- A float by one is that float. -/
theorem div_one (x : Nat) (hx : Fine x) : Ieee.double.div x 4607182418800017408 = some x := by
  obtain ⟨m, e, hr, h1, h2, h3, h4⟩ := read_fin x hx.1 hx.2
  unfold Ieee.Format.div
  rw [hr, one_read]
  have hfb : Ieee.double.fractionBits + 2 = 54 := rfl
  rw [hfb]
  have l52 : (4503599627370496 : Nat).log2 = 52 := by decide
  have hq : ∀ s : Bool, Ieee.Datum.quotient 54 (.number s m (-1074 + (e : Int))) (.number false 4503599627370496 (-52)) =
      some (.number s (2 * (m <<< (54 + 52 - m.log2) / 4503599627370496) + (m <<< (54 + 52 - m.log2) % 4503599627370496 != 0).toNat) (-1074 + (e : Int) - (-52) - ((54 + 52 - m.log2 : Nat) : Int) - 1)) := by
    intro s
    unfold Ieee.Datum.quotient
    dsimp only
    rw [if_neg (by decide), l52]
    cases s <;> rfl
  rw [hq]
  by_cases hm : m = 0
  · subst hm
    have he : e = 0 := by omega
    subst he
    rw [Nat.zero_shiftLeft]
    show some (Ieee.double.nearest _ (2 * (0 / 4503599627370496) + (0 % 4503599627370496 != 0).toNat) _) = some x
    have hz : 2 * (0 / 4503599627370496) + (0 % 4503599627370496 != 0).toNat = 0 := by decide
    rw [hz]
    unfold Ieee.Format.nearest
    rw [if_pos rfl]
    have := word_of x hx.1
    rw [← h3] at this
    rw [show 0 * 4503599627370496 + 0 = 0 from rfl] at this
    rw [this]
  · have hl : m.log2 ≤ 52 := by
      have := (Nat.log2_lt hm (k := 53)).2 (by simpa using h1)
      omega
    obtain ⟨k, hk⟩ : ∃ k, 54 + 52 - m.log2 = k + 52 := ⟨54 - m.log2, by omega⟩
    rw [hk]
    have p52 : (2 : Nat) ^ 52 = 4503599627370496 := by decide
    have e1 : m <<< (k + 52) = m <<< k * 4503599627370496 := by rw [Nat.shiftLeft_add, Nat.shiftLeft_eq (m <<< k), p52]
    rw [e1, Nat.mul_div_cancel _ (by decide), Nat.mul_mod_left]
    have e2 : 2 * (m <<< k) + ((0 : Nat) != 0).toNat = m <<< (k + 1) := by
      rw [Nat.shiftLeft_eq, Nat.shiftLeft_eq, Nat.pow_succ]
      show 2 * (m * 2 ^ k) + 0 = _
      rw [← Nat.mul_assoc m]
      omega
    rw [e2]
    have hw := write_back x hx.1 m e (k + 1) hm h1 h2 h3 hx.2
    show some (Ieee.double.nearest _ (m <<< (k + 1)) (-1074 + (e : Int) - (-52) - ((k + 52 : Nat) : Int) - 1)) = some x
    rw [show (-1074 + (e : Int) - (-52) - ((k + 52 : Nat) : Int) - 1) = -1074 + (e : Int) - ((k + 1 : Nat) : Int) from by omega, hw]
end Flo
end Go.Proofs.Ytfcmkbeilpclmaa

namespace Go.Proofs.Ytfcmkbeilpclmaa
set_option linter.unusedVariables false
set_option maxRecDepth 100000
namespace Flo

/-- A sum so far, or none where it is no number, and one float more. -/
def addO (a : Option Nat) (b : Nat) : Option Nat := a.bind fun x => Ieee.double.add x b
def sums (a : Option Nat) (l : List Nat) : Option Nat := l.foldl addO a
def total (l : List Nat) : Option Nat := sums (some 0) l
def mean (l : List Nat) : Option Nat := (total l).bind fun x => Ieee.double.div x (floatOfInt .f64 (l.length : Int))
theorem sums_snoc (a : Option Nat) (l : List Nat) (b : Nat) : sums a (l ++ [b]) = addO (sums a l) b := by unfold sums; rw [List.foldl_append]; rfl
theorem sums_cons (a : Option Nat) (b : Nat) (l : List Nat) : sums a (b :: l) = sums (addO a b) l := rfl
theorem sums_none (l : List Nat) : sums none l = none := by
  induction l with
  | nil => rfl
  | cons b l ih => exact ih
theorem fine_zero : Fine 0 := ⟨by decide, by decide⟩
/-- A sum is never what is no number. -/
theorem add_good {x y z : Nat} (h : Ieee.double.add x y = some z) : Fine z ∨ Inf z := by
  unfold Ieee.Format.add at h
  cases hs : (Ieee.double.read x).sum (Ieee.double.read y) with
  | none => rw [hs] at h; cases h
  | some d =>
    rw [hs] at h
    injection h with h
    subst h
    refine write_good d ?_
    cases d with
    | nan s t =>
      exfalso
      revert hs
      cases Ieee.double.read x <;> cases Ieee.double.read y <;> simp [Ieee.Datum.sum]
    | infinity s => rfl
    | number s m i => rfl
theorem sums_good : ∀ (l : List Nat) {a : Nat} {z : Nat}, (Fine a ∨ Inf a) → sums (some a) l = some z → Fine z ∨ Inf z := by
  intro l
  induction l with
  | nil => intro a z ha h; injection h with h; subst h; exact ha
  | cons b l ih =>
    intro a z ha h
    rw [sums_cons] at h
    cases hb : Ieee.double.add a b with
    | none =>
      have e : addO (some a) b = none := hb
      rw [e, sums_none] at h
      cases h
    | some c =>
      have e : addO (some a) b = some c := hb
      rw [e] at h
      exact ih (add_good hb) h
theorem addO_nan (a : Option Nat) {b : Nat} (h : Nan b) : addO a b = none := by
  cases a with
  | none => rfl
  | some x => exact add_nanr h x
theorem sums_nan {l : List Nat} (a : Option Nat) {b : Nat} (hb : b ∈ l) (h : Nan b) : sums a l = none := by
  induction l generalizing a with
  | nil => cases hb
  | cons c l ih =>
    rw [sums_cons]
    rcases List.mem_cons.1 hb with rfl | hb
    · rw [addO_nan a h, sums_none]
    · exact ih (addO a c) hb
/-- Behind an infinity the sum is that one, or none. -/
theorem addO_inf {x : Nat} (hx : Inf x) (a : Option Nat) (ha : ∀ z, a = some z → Fine z ∨ Inf z) : addO a x = none ∨ addO a x = some x := by
  cases a with
  | none => exact Or.inl rfl
  | some z =>
    show Ieee.double.add z x = none ∨ Ieee.double.add z x = some x
    rcases ha z rfl with h | h
    · exact Or.inr (add_fi hx h)
    · rw [add_ii h hx]
      by_cases e : z = x
      · rw [if_pos e, e]; exact Or.inr rfl
      · rw [if_neg e]; exact Or.inl rfl
theorem addO_stay {x b : Nat} (hx : Inf x) (hb : Fine b ∨ Inf b) (a : Option Nat) (ha : a = none ∨ a = some x) : addO a b = none ∨ (addO a b = some x ∧ (Inf b → b = x)) := by
  rcases ha with rfl | rfl
  · exact Or.inl rfl
  · show Ieee.double.add x b = none ∨ (Ieee.double.add x b = some x ∧ _)
    rcases hb with h | h
    · exact Or.inr ⟨add_if hx h, fun h2 => by unfold Fine at h; unfold Inf at h2; omega⟩
    · rw [add_ii hx h]
      by_cases e : x = b
      · rw [if_pos e]; exact Or.inr ⟨rfl, fun _ => e.symm⟩
      · rw [if_neg e]; exact Or.inl rfl
theorem sums_stay {x : Nat} (hx : Inf x) : ∀ (l : List Nat), (∀ b ∈ l, Fine b ∨ Inf b) → ∀ a, (a = none ∨ a = some x) → (sums a l = none ∨ (sums a l = some x ∧ ∀ b ∈ l, Inf b → b = x)) := by
  intro l
  induction l with
  | nil => intro _ a ha; exact ha.imp (fun h => h) (fun h => ⟨h, fun b hb => by cases hb⟩)
  | cons b l ih =>
    intro hl a ha
    rw [sums_cons]
    rcases addO_stay hx (hl b (List.mem_cons_self ..)) a ha with h | ⟨h, hbx⟩
    · rw [h, sums_none]; exact Or.inl rfl
    · rcases ih (fun c hc => hl c (List.mem_cons_of_mem _ hc)) (addO a b) (Or.inr h) with h2 | ⟨h2, h3⟩
      · exact Or.inl h2
      · refine Or.inr ⟨h2, fun c hc hi => ?_⟩
        rcases List.mem_cons.1 hc with rfl | hc
        · exact hbx hi
        · exact h3 c hc hi
/-- Both infinities: no number. -/
theorem sums_both {x y : Nat} (hx : Inf x) (hy : Inf y) (hne : x ≠ y) : ∀ (l : List Nat), (∀ b ∈ l, Fine b ∨ Inf b) → x ∈ l → y ∈ l → ∀ a, (∀ z, a = some z → Fine z ∨ Inf z) → sums a l = none := by
  intro l
  induction l with
  | nil => intro _ h; cases h
  | cons b l ih =>
    intro hl hxl hyl a ha
    rw [sums_cons]
    have hl' : ∀ c ∈ l, Fine c ∨ Inf c := fun c hc => hl c (List.mem_cons_of_mem _ hc)
    have key : ∀ {x y : Nat}, Inf x → Inf y → x ≠ y → y ∈ l → sums (addO a x) l = none := by
      intro x y hx hy hne hyl
      rcases sums_stay hx l hl' (addO a x) (addO_inf hx a ha) with h | ⟨-, h⟩
      · exact h
      · exact absurd (h y hyl hy).symm hne
    rcases List.mem_cons.1 hxl with e1 | h1
    · subst e1
      rcases List.mem_cons.1 hyl with e2 | h2
      · exact absurd e2.symm hne
      · exact key hx hy hne h2
    · rcases List.mem_cons.1 hyl with e2 | h2
      · subst e2
        exact key hy hx (fun e => hne e.symm) h1
      · refine ih hl' h1 h2 _ (fun z hz => ?_)
        cases a with
        | none => cases hz
        | some w => exact add_good hz
theorem total_both {x y : Nat} (hx : Inf x) (hy : Inf y) (hne : x ≠ y) {l : List Nat} (hl : ∀ b ∈ l, Fine b ∨ Inf b) (h1 : x ∈ l) (h2 : y ∈ l) : total l = none :=
  sums_both hx hy hne l hl h1 h2 (some 0) (fun z hz => by injection hz with hz; subst hz; exact Or.inl fine_zero)
/-- Zeros alone: zero. -/
theorem total_zeros : ∀ (l : List Nat), (∀ b ∈ l, b < 18446744073709551616 ∧ b % 9223372036854775808 = 0) → total l = some 0 := by
  intro l
  induction l with
  | nil => intro _; rfl
  | cons b l ih =>
    intro hl
    obtain ⟨h1, h2⟩ := hl b (List.mem_cons_self ..)
    have e : addO (some 0) b = some 0 := by
      show Ieee.double.add 0 b = some 0
      rw [add_zero b h1 (by omega), if_pos h2]
    show sums (some 0) (b :: l) = some 0
    rw [sums_cons, e]
    exact ih (fun c hc => hl c (List.mem_cons_of_mem _ hc))
theorem total_one {x : Nat} (hx : Fine x ∨ Inf x) : total [x] = some (if x % 9223372036854775808 = 0 then 0 else x) := by
  show Ieee.double.add 0 x = _
  rcases hx with h | h
  · exact add_zero x h.1 h.2
  · rw [add_fi h fine_zero, if_neg (by unfold Inf at h; omega)]
/-- Sums of small floats stay finite; with an infinity of one sign they are it. -/
theorem sums_small {x : Nat} (hx : Inf x) (N : Nat) : ∀ (l : List Nat), (∀ b ∈ l, (∃ u, Fin b u ∧ u < 2 ^ N) ∨ b = x) → x ∈ l → ∀ (k : Nat) (a u : Nat), Fin a u → u + 2 * 2 ^ N ≤ 2 ^ (N + k) → N + k + l.length ≤ 2097 → sums (some a) l = some x := by
  intro l
  induction l with
  | nil => intro _ h; cases h
  | cons b l ih =>
    intro hl hxl k a u ha hu hN
    rw [sums_cons]
    have hl' : ∀ c ∈ l, Fine c ∨ c = x := fun c hc => by
      rcases hl c (List.mem_cons_of_mem _ hc) with ⟨u, h, -⟩ | h
      · exact Or.inl ⟨h.1, h.2.1⟩
      · exact Or.inr h
    have fin_x : b = x → sums (addO (some a) b) l = some x := fun e => by
      rw [e]
      have h1 : addO (some a) x = some x := add_fi hx ⟨ha.1, ha.2.1⟩
      rw [h1]
      have h2 : ∀ (m : List Nat), (∀ c ∈ m, Fine c ∨ c = x) → sums (some x) m = some x := by
        intro m
        induction m with
        | nil => intro _; rfl
        | cons c m ihm =>
          intro hm
          rw [sums_cons]
          have h3 : addO (some x) c = some x := by
            rcases hm c (List.mem_cons_self ..) with h | h
            · exact add_if hx h
            · show Ieee.double.add x c = some x
              rw [h, add_ii hx hx, if_pos rfl]
          rw [h3]
          exact ihm (fun d hd => hm d (List.mem_cons_of_mem _ hd))
      exact h2 l hl'
    by_cases e : b = x
    · exact fin_x e
    · have hxl' : x ∈ l := (List.mem_cons.1 hxl).resolve_left (fun h => e h.symm)
      obtain ⟨v, hv, hvN⟩ := (hl b (List.mem_cons_self ..)).resolve_right e
      have hlen : (b :: l).length = l.length + 1 := rfl
      have p2 : 2 ^ (N + (k + 1)) = 2 ^ (N + k) * 2 := by rw [← Nat.add_assoc, Nat.pow_succ]
      obtain ⟨z, w, hz, hw, hwle⟩ := add_fin ha hv (N := N + k) (by omega) (by omega)
      have hadd : addO (some a) b = some z := hz
      rw [hadd]
      exact ih (fun c hc => hl c (List.mem_cons_of_mem _ hc)) hxl' (k + 1) z w hw (by rw [p2]; omega) (by omega)
theorem small_start (N : Nat) : 0 + 2 * 2 ^ N ≤ 2 ^ (N + 1) := by rw [Nat.pow_succ]; omega
end Flo
end Go.Proofs.Ytfcmkbeilpclmaa

namespace Go.Proofs.Ytfcmkbeilpclmaa
set_option linter.unusedVariables false
set_option maxRecDepth 100000
namespace Flo

def plus (d : Ieee.Datum) : Bool :=
  match d with
  | .number false (_ + 1) _ => true
  | _ => false
theorem plus_of {d : Ieee.Datum} (h : plus d = true) : ∃ m i, d = .number false m i ∧ m ≠ 0 := by
  cases d with
  | nan s t => cases h
  | infinity s => cases h
  | number s m i =>
    cases s with
    | true => cases h
    | false =>
      cases m with
      | zero => cases h
      | succ m => exact ⟨m + 1, i, rfl, Nat.succ_ne_zero _⟩
theorem n_all : ∀ k ∈ List.range 31, k = 0 ∨ plus (Ieee.double.read (floatOfInt .f64 (k : Int))) = true := by decide
theorem n_read {n : Nat} (h0 : n ≠ 0) (h : n ≤ 30) : ∃ m i, Ieee.double.read (floatOfInt .f64 (n : Int)) = .number false m i ∧ m ≠ 0 :=
  plus_of ((n_all n (List.mem_range.2 (by omega))).resolve_left h0)
theorem n_one : floatOfInt .f64 (1 : Int) = 4607182418800017408 := by decide
theorem div_zero {n : Nat} (h0 : n ≠ 0) (h : n ≤ 30) : Ieee.double.div 0 (floatOfInt .f64 (n : Int)) = some 0 := by
  obtain ⟨m, i, hr, hm⟩ := n_read h0 h
  unfold Ieee.Format.div
  rw [zero_read, hr]
  unfold Ieee.Datum.quotient
  dsimp only
  rw [if_neg hm, Nat.zero_shiftLeft, Nat.zero_div, Nat.zero_mod]
  show some (Ieee.double.nearest (false ^^ false) 0 _) = some 0
  unfold Ieee.Format.nearest
  rw [if_pos rfl]
  decide
theorem div_inf {x n : Nat} (hx : Inf x) (h0 : n ≠ 0) (h : n ≤ 30) : Ieee.double.div x (floatOfInt .f64 (n : Int)) = some x := by
  obtain ⟨m, i, hr, hm⟩ := n_read h0 h
  unfold Ieee.Format.div
  rw [read_inf x hx.1 hx.2, hr]
  generalize hs : decide (9223372036854775808 ≤ x) = s
  show some (Ieee.double.word (s ^^ false) Ieee.double.infRung) = some x
  rw [ir, Bool.xor_false, ← hs, inf_word hx]
theorem div_good {x y z : Nat} (h : Ieee.double.div x y = some z) : Fine z ∨ Inf z := by
  unfold Ieee.Format.div at h
  cases hs : (Ieee.double.read x).quotient (Ieee.double.fractionBits + 2) (Ieee.double.read y) with
  | none => rw [hs] at h; cases h
  | some d =>
    rw [hs] at h
    injection h with h
    subst h
    refine write_good d ?_
    cases d with
    | nan s t =>
      exfalso
      revert hs
      cases Ieee.double.read x <;> cases Ieee.double.read y <;> simp [Ieee.Datum.quotient] <;> (repeat' split) <;> simp
    | infinity s => rfl
    | number s m i => rfl
theorem mean_good {l : List Nat} {z : Nat} (h : mean l = some z) : Fine z ∨ Inf z := by
  unfold mean at h
  cases ht : total l with
  | none => rw [ht] at h; cases h
  | some x =>
    rw [ht] at h
    exact div_good h
theorem mean_nan {l : List Nat} {b : Nat} (hb : b ∈ l) (h : Nan b) : mean l = none := by
  unfold mean total
  rw [sums_nan _ hb h]
  rfl
theorem mean_both {x y : Nat} (hx : Inf x) (hy : Inf y) (hne : x ≠ y) {l : List Nat} (hl : ∀ b ∈ l, Fine b ∨ Inf b) (h1 : x ∈ l) (h2 : y ∈ l) : mean l = none := by
  unfold mean
  rw [total_both hx hy hne hl h1 h2]
  rfl
theorem mean_zeros {l : List Nat} (hl : ∀ b ∈ l, b < 18446744073709551616 ∧ b % 9223372036854775808 = 0) (h0 : l ≠ []) (h30 : l.length ≤ 30) : mean l = some 0 := by
  unfold mean
  rw [total_zeros l hl]
  exact div_zero (fun h => h0 (List.length_eq_zero_iff.1 h)) h30
theorem mean_one {x : Nat} (hx : Fine x ∨ Inf x) : mean [x] = some (if x % 9223372036854775808 = 0 then 0 else x) := by
  unfold mean
  rw [total_one hx]
  show Ieee.double.div _ (floatOfInt .f64 ((1 : Nat) : Int)) = _
  by_cases hz : x % 9223372036854775808 = 0
  · rw [if_pos hz]
    exact div_zero (by decide) (by decide)
  · rw [if_neg hz]
    rcases hx with h | h
    · show Ieee.double.div x (floatOfInt .f64 (1 : Int)) = some x
      rw [n_one]
      exact div_one x h
    · exact div_inf h (by decide) (by decide)
theorem mean_small {x : Nat} (hx : Inf x) {l : List Nat} (hl : ∀ b ∈ l, (b < 18446744073709551616 ∧ b % 9223372036854775808 < 2001 * 4503599627370496) ∨ b = x) (hxl : x ∈ l) (h30 : l.length ≤ 30) : mean l = some x := by
  obtain ⟨N, hN⟩ : ∃ N, N = 2000 := ⟨_, rfl⟩
  have hs : sums (some 0) l = some x := sums_small hx (N + 53) l (fun b hb => (hl b hb).imp (fun h => fin_of b h.1 N (by omega) (by rw [hN]; exact h.2)) (fun h => h)) hxl 1 0 0 Fin.zero (small_start _) (by omega)
  unfold mean total
  rw [hs]
  exact div_inf hx (fun h => by rw [List.length_eq_zero_iff.1 h] at hxl; cases hxl) h30
end Flo
end Go.Proofs.Ytfcmkbeilpclmaa

namespace Go.Proofs.Ytfcmkbeilpclmaa
set_option linter.unusedVariables false
set_option maxRecDepth 100000
namespace Flo

/-- Bits stand for a sum so far. -/
def Bits (a : Option Nat) (b : Nat) : Prop := b < 18446744073709551616 ∧ (a = some b ∧ (Fine b ∨ Inf b) ∨ a = none ∧ Nan b)
theorem cut_nan (x y n : Nat) : Nan ((Question.nanBits .f64 x y).cut n) ∧ (Question.nanBits .f64 x y).cut n < 18446744073709551616 := by
  have e : (Question.nanBits .f64 x y).cut n = (n % 2) * 2 ^ 63 + 0x7ff0000000000000 + 1 + (n / 2) % (2 ^ 52 - 1) := rfl
  rw [e]
  unfold Nan
  have p63 : (2 : Nat) ^ 63 = 9223372036854775808 := by decide
  have p52 : (2 : Nat) ^ 52 - 1 = 4503599627370495 := by decide
  rw [p63, p52]
  have h1 : n % 2 = 0 ∨ n % 2 = 1 := by omega
  have h2 : n / 2 % 4503599627370495 < 4503599627370495 := Nat.mod_lt _ (by decide)
  generalize n / 2 % 4503599627370495 = r at h2
  rcases h1 with h1 | h1
  · rw [h1]; omega
  · rw [h1]; omega
theorem run_add {P : Program} (t : TypeId) (a : Option Nat) {x y : Nat} (hx : Bits a x) (w : World) :
    ∃ z n, (binOp .add t (.float .f64 x) (.float .f64 y)).run P w = .ok (.float .f64 z) (w.drewN n) ∧ Bits (addO a y) z := by
  cases h : Ieee.double.add x y with
  | some z =>
    refine ⟨z, 0, run_float_arith w .add t .f64 x y z h, ?_⟩
    rcases hx.2 with ⟨rfl, hg⟩ | ⟨rfl, hn⟩
    · have hz := add_good h
      exact ⟨by rcases hz with h | h <;> exact h.1, Or.inl ⟨h, hz⟩⟩
    · rw [add_nanl hn y] at h; cases h
  | none =>
    have hf : FloatKind.f64.format.add x y = none := h
    refine ⟨(Question.nanBits .f64 x y).cut (w.tape w.drawn (Question.nanBits .f64 x y)), 1, ?_, (cut_nan x y _).2, Or.inr ⟨?_, (cut_nan x y _).1⟩⟩
    · simp [binOp, Op.floatArith, hf, Question.forced]
      rfl
    · rcases hx.2 with ⟨rfl, -⟩ | ⟨rfl, -⟩
      · exact h
      · rfl
theorem run_quo {P : Program} (t : TypeId) (a : Option Nat) {x y : Nat} (hx : Bits a x) (w : World) :
    ∃ z n, (binOp .quo t (.float .f64 x) (.float .f64 y)).run P w = .ok (.float .f64 z) (w.drewN n) ∧ Bits (a.bind fun x => Ieee.double.div x y) z := by
  cases h : Ieee.double.div x y with
  | some z =>
    refine ⟨z, 0, run_float_arith w .quo t .f64 x y z h, ?_⟩
    rcases hx.2 with ⟨rfl, hg⟩ | ⟨rfl, hn⟩
    · have hz := div_good h
      exact ⟨by rcases hz with h | h <;> exact h.1, Or.inl ⟨h, hz⟩⟩
    · obtain ⟨s, f, hr⟩ := read_nan x hn
      unfold Ieee.Format.div at h
      rw [hr] at h
      cases hd : Ieee.double.read y <;> rw [hd] at h <;> cases h
  | none =>
    have hf : FloatKind.f64.format.div x y = none := h
    refine ⟨(Question.nanBits .f64 x y).cut (w.tape w.drawn (Question.nanBits .f64 x y)), 1, ?_, (cut_nan x y _).2, Or.inr ⟨?_, (cut_nan x y _).1⟩⟩
    · simp [binOp, Op.floatArith, hf, Question.forced]
      rfl
    · rcases hx.2 with ⟨rfl, -⟩ | ⟨rfl, -⟩
      · exact h
      · rfl
end Flo
end Go.Proofs.Ytfcmkbeilpclmaa
