/-
  The order of values, plain.
-/
import Derived.Test.YtfcmkbeilpclmaaValH
namespace Go.Proofs.Ytfcmkbeilpclmaa
open Go.RowKit
set_option linter.unusedVariables false
open Go.Op (bytesLess)

theorem bl_nil (l : List UInt8) : bytesLess l [] = false := by cases l <;> rfl
theorem bl_cons (a b : UInt8) (l m : List UInt8) : bytesLess (a :: l) (b :: m) = (decide (a < b) || (a == b && bytesLess l m)) := rfl
theorem bl_irrefl : ∀ l, bytesLess l l = false := by
  intro l
  induction l with
  | nil => rfl
  | cons a l ih => rw [bl_cons, ih]; simp
theorem u8_lt (a b : UInt8) : a < b ↔ a.toNat < b.toNat := Iff.rfl
theorem u8_eq (a b : UInt8) : a = b ↔ a.toNat = b.toNat := ⟨fun h => by rw [h], fun h => UInt8.toNat_inj.1 h⟩
theorem bl_true {a b : UInt8} {l m : List UInt8} : bytesLess (a :: l) (b :: m) = true ↔ a.toNat < b.toNat ∨ (a = b ∧ bytesLess l m = true) := by
  rw [bl_cons, Bool.or_eq_true, decide_eq_true_eq, Bool.and_eq_true, beq_iff_eq, u8_lt]
theorem bl_asymm : ∀ (l m : List UInt8), bytesLess l m = true → bytesLess m l = false := by
  intro l
  induction l with
  | nil => intro m _; exact bl_nil m
  | cons a l ih =>
    intro m h
    cases m with
    | nil => rw [bl_nil] at h; cases h
    | cons b m =>
      rw [bl_true] at h
      refine Bool.eq_false_iff.2 fun h2 => ?_
      rw [bl_true] at h2
      rcases h with h | ⟨rfl, h⟩
      · rcases h2 with h2 | ⟨rfl, h2⟩ <;> omega
      · rcases h2 with h2 | ⟨_, h2⟩
        · omega
        · rw [ih m h] at h2; cases h2
theorem bl_total : ∀ (l m : List UInt8), bytesLess l m = false → bytesLess m l = false → l = m := by
  intro l
  induction l with
  | nil =>
    intro m h _
    cases m with
    | nil => rfl
    | cons b m => cases h
  | cons a l ih =>
    intro m h1 h2
    cases m with
    | nil => cases h2
    | cons b m =>
      have n1 := mt bl_true.2 (by rw [h1]; simp)
      have n2 := mt bl_true.2 (by rw [h2]; simp)
      have e : a = b := (u8_eq a b).2 (by omega)
      subst e
      have h3 : bytesLess l m = false := Bool.eq_false_iff.2 fun h => n1 (Or.inr ⟨rfl, h⟩)
      have h4 : bytesLess m l = false := Bool.eq_false_iff.2 fun h => n2 (Or.inr ⟨rfl, h⟩)
      rw [ih m h3 h4]
theorem bl_le_trans : ∀ (l m n : List UInt8), bytesLess m l = false → bytesLess n m = false → bytesLess n l = false := by
  intro l
  induction l with
  | nil => intro m n _ _; exact bl_nil n
  | cons a l ih =>
    intro m n h1 h2
    cases m with
    | nil => cases h1
    | cons b m =>
      cases n with
      | nil => cases h2
      | cons c n =>
        have n1 := mt bl_true.2 (by rw [h1]; simp)
        have n2 := mt bl_true.2 (by rw [h2]; simp)
        refine Bool.eq_false_iff.2 fun h => ?_
        rw [bl_true] at h
        rcases h with h | ⟨rfl, h⟩
        · by_cases hbc : c.toNat < b.toNat
          · exact n2 (Or.inl hbc)
          · exact n1 (Or.inl (by omega))
        · by_cases hcb : c = b
          · subst hcb
            have h3 : bytesLess m l = false := Bool.eq_false_iff.2 fun h => n1 (Or.inr ⟨rfl, h⟩)
            have h4 : bytesLess n m = false := Bool.eq_false_iff.2 fun h => n2 (Or.inr ⟨rfl, h⟩)
            rw [ih m n h3 h4] at h; cases h
          · have : c.toNat ≠ b.toNat := fun e => hcb ((u8_eq c b).2 e)
            by_cases hbc : c.toNat < b.toNat
            · exact n2 (Or.inl hbc)
            · exact n1 (Or.inl (by omega))

/-- Three ways to stand to one another. -/
def cmpOf (lt gt : Bool) : Int := if lt = true then -1 else if gt = true then 1 else 0
/-- A float's place among floats. -/
def rank (b : Nat) : Nat := if 9223372036854775808 ≤ Val.cbits b then 18446744073709551615 - Val.cbits b else Val.cbits b + 9223372036854775808
/-- Is a value ahead of another one? -/
def Val.less (a b : Val) : Bool :=
  if a.kind = b.kind then
    if a.kind = 1 then !a.flag && b.flag
    else if a.kind = 2 then decide (a.int < b.int)
    else if a.kind = 3 then decide (rank a.bits < rank b.bits)
    else if a.kind = 4 then bytesLess a.text b.text
    else false
  else decide (a.kind < b.kind)
def Val.cmp (a b : Val) : Int := cmpOf (Val.less a b) (Val.less b a)

theorem less_asymm (a b : Val) (h : Val.less a b = true) : Val.less b a = false := by
  unfold Val.less at *
  by_cases hk : a.kind = b.kind
  · rw [if_pos hk] at h
    rw [if_pos hk.symm, ← hk]
    by_cases h1 : a.kind = 1
    · rw [if_pos h1] at *; revert h; cases a.flag <;> cases b.flag <;> simp
    rw [if_neg h1] at *
    by_cases h2 : a.kind = 2
    · rw [if_pos h2] at *; simp at *; omega
    rw [if_neg h2] at *
    by_cases h3 : a.kind = 3
    · rw [if_pos h3] at *; simp at *; omega
    rw [if_neg h3] at *
    by_cases h4 : a.kind = 4
    · rw [if_pos h4] at *; exact bl_asymm _ _ h
    · rw [if_neg h4] at *
  · rw [if_neg hk] at h
    rw [if_neg (fun e => hk e.symm)]
    simp at *; omega
theorem cmp_anti (a b : Val) : Val.cmp b a = - Val.cmp a b := by
  have h1 := less_asymm a b
  have h2 := less_asymm b a
  unfold Val.cmp cmpOf
  cases hx : Val.less a b <;> cases hy : Val.less b a <;> simp_all
theorem cmp_le (a b : Val) : Val.cmp a b ≤ 0 ↔ Val.less b a = false := by
  have h1 := less_asymm a b
  unfold Val.cmp cmpOf
  cases hx : Val.less a b <;> cases hy : Val.less b a <;> simp_all
theorem rank_inj {a b : Nat} (ha : a < 18446744073709551616) (hb : b < 18446744073709551616) (hca : Val.cbits a = a) (hcb : Val.cbits b = b) (h : rank a = rank b) : a = b := by
  unfold rank at h
  rw [hca, hcb] at h
  split at h <;> split at h <;> omega
theorem cmp_zero {a b : Val} (ha : a.ok) (hb : b.ok) (hra : a.right = true) (hrb : b.right = true) : Val.cmp a b = 0 ↔ a = b := by
  have hz : Val.cmp a b = 0 ↔ Val.less a b = false ∧ Val.less b a = false := by
    unfold Val.cmp cmpOf
    cases hx : Val.less a b <;> cases hy : Val.less b a <;> simp
  rw [hz]
  constructor
  · rintro ⟨h1, h2⟩
    obtain ⟨a0, a4, -, hca⟩ := Val.right_le hra
    obtain ⟨b0, b4, -, hcb⟩ := Val.right_le hrb
    unfold Val.less at h1 h2
    by_cases hk : a.kind = b.kind
    · rw [if_pos hk] at h1
      rw [if_pos hk.symm, ← hk] at h2
      rw [hca, hcb]
      unfold Val.clean
      rw [← hk]
      by_cases k1 : a.kind = 1
      · rw [if_pos k1] at h1 h2 ⊢
        rw [if_pos k1]
        have : a.flag = b.flag := by revert h1 h2; cases a.flag <;> cases b.flag <;> simp
        rw [this]
      rw [if_neg k1] at h1 h2 ⊢
      rw [if_neg k1]
      by_cases k2 : a.kind = 2
      · rw [if_pos k2] at h1 h2 ⊢
        rw [if_pos k2]
        simp at h1 h2
        have : a.int = b.int := by omega
        rw [this]
      rw [if_neg k2] at h1 h2 ⊢
      rw [if_neg k2]
      by_cases k3 : a.kind = 3
      · rw [if_pos k3] at h1 h2 ⊢
        rw [if_pos k3]
        simp at h1 h2
        have hrk : rank a.bits = rank b.bits := by omega
        have e : Val.cbits a.bits = Val.cbits b.bits := by
          unfold rank at hrk
          have la : Val.cbits a.bits < 18446744073709551616 := by unfold Val.cbits; have := ha.1; split <;> omega
          have lb : Val.cbits b.bits < 18446744073709551616 := by unfold Val.cbits; have := hb.1; split <;> omega
          split at hrk <;> split at hrk <;> omega
        rw [e]
      rw [if_neg k3] at h1 h2 ⊢
      rw [if_neg k3]
      by_cases k4 : a.kind = 4
      · rw [if_pos k4] at h1 h2 ⊢
        rw [if_pos k4]
        rw [bl_total _ _ h1 h2]
      · rw [if_neg k4, if_neg k4]
    · rw [if_neg hk] at h1
      rw [if_neg (fun e => hk e.symm)] at h2
      simp at h1 h2
      exact absurd (by omega) hk
  · rintro rfl
    have : Val.less a a = false := by
      refine Bool.eq_false_iff.2 fun h => ?_
      have := less_asymm a a h
      rw [h] at this; cases this
    exact ⟨this, this⟩
theorem cmp_trans (a b c : Val) (h1 : Val.cmp a b ≤ 0) (h2 : Val.cmp b c ≤ 0) : Val.cmp a c ≤ 0 := by
  rw [cmp_le] at *
  unfold Val.less at *
  by_cases hab : b.kind = a.kind
  · rw [if_pos hab] at h1
    by_cases hbc : c.kind = b.kind
    · rw [if_pos hbc] at h2
      rw [if_pos (hbc.trans hab)]
      rw [hbc] at h2 ⊢
      by_cases k1 : b.kind = 1
      · rw [if_pos k1] at *; revert h1 h2; cases a.flag <;> cases b.flag <;> cases c.flag <;> simp
      rw [if_neg k1] at *
      by_cases k2 : b.kind = 2
      · rw [if_pos k2] at *; simp at *; omega
      rw [if_neg k2] at *
      by_cases k3 : b.kind = 3
      · rw [if_pos k3] at *; simp at *; omega
      rw [if_neg k3] at *
      by_cases k4 : b.kind = 4
      · rw [if_pos k4] at *; exact bl_le_trans _ _ _ h1 h2
      · rw [if_neg k4] at *
    · rw [if_neg hbc] at h2
      rw [if_neg (by omega)]
      simp at *; omega
  · rw [if_neg hab] at h1
    by_cases hbc : c.kind = b.kind
    · rw [if_neg (by omega)]
      simp at *; omega
    · rw [if_neg hbc] at h2
      simp at h1 h2
      rw [if_neg (by omega)]
      simp; omega
end Go.Proofs.Ytfcmkbeilpclmaa
