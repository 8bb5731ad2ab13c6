/-
  What lies below a place of a heap; the first in order that suits. No program stands here.
-/
import Derived.Test.YtjmdpepghnhpkaaHeapLs
namespace Go.Proofs.Ytjmdpepghnhpkaa
set_option linter.unusedVariables false
namespace Du

/-- k lies at i, or below. -/
inductive Sub : Nat → Nat → Prop
  | here (i : Nat) : Sub i i
  | left {i k : Nat} : Sub (2 * i + 1) k → Sub i k
  | right {i k : Nat} : Sub (2 * i + 1 + 1) k → Sub i k
theorem Sub.kid {i k m : Nat} (h : Sub i k) (hm : m < 2) : Sub i (2 * k + 1 + m) := by
  have h01 : m = 0 ∨ m = 1 := by omega
  induction h with
  | here j =>
    rcases h01 with rfl | rfl
    · exact .left (.here _)
    · exact .right (.here _)
  | left _ ih => exact .left ih
  | right _ ih => exact .right ih
theorem Sub.all (k : Nat) : Sub 0 k := by
  induction k using Nat.strongRecOn with
  | ind k ih =>
    by_cases h0 : k = 0
    · rw [h0]; exact .here 0
    · have hp : par k < k := by unfold par; omega
      have := (ih (par k) hp).kid (m := (k - 1) % 2) (Nat.mod_lt _ (by decide))
      unfold par at this
      rwa [show 2 * ((k - 1) / 2) + 1 + (k - 1) % 2 = k by omega] at this
theorem Sub.ge {i k : Nat} (h : Sub i k) : i ≤ k := by
  induction h with
  | here j => exact Nat.le_refl _
  | left _ ih => omega
  | right _ ih => omega
theorem Sub.cases {i k : Nat} (h : Sub i k) : k = i ∨ ∃ m, m < 2 ∧ Sub (2 * i + 1 + m) k := by
  cases h with
  | here => exact Or.inl rfl
  | left h => exact Or.inr ⟨0, by omega, h⟩
  | right h => exact Or.inr ⟨1, by omega, h⟩
theorem Sub.of {i k m : Nat} (hm : m < 2) (h : Sub (2 * i + 1 + m) k) : Sub i k := by
  have h01 : m = 0 ∨ m = 1 := by omega
  rcases h01 with rfl | rfl
  · exact .left h
  · exact .right h
theorem Sub.min {l : List Du} (hh : Heap l) {i k : Nat} (h : Sub i k) : k < l.length → le (g l i) (g l k) := by
  induction h with
  | here j => exact fun _ => le_refl _
  | @left i k hs ih =>
    intro hk
    have h1 := hs.ge
    have := hh (2 * i + 1) (by omega) (by omega)
    rw [show par (2 * i + 1) = i by unfold par; omega] at this
    exact le_trans this (ih hk)
  | @right i k hs ih =>
    intro hk
    have h1 := hs.ge
    have := hh (2 * i + 1 + 1) (by omega) (by omega)
    rw [show par (2 * i + 1 + 1) = i by unfold par; omega] at this
    exact le_trans this (ih hk)
/-- The place of the first in order that suits, at i and below; -1: there is none. -/
def Best (l : List Du) (P : Du → Bool) (i : Nat) (v : Int) : Prop :=
  (v = -1 ∧ ∀ k, Sub i k → k < l.length → P (g l k) = false) ∨ ∃ k : Nat, v = (k : Int) ∧ k < l.length ∧ Sub i k ∧ P (g l k) = true ∧ ∀ j, Sub i j → j < l.length → P (g l j) = true → le (g l k) (g l j)
/-- .. at the first c places below i, and below them. -/
def BestOf (l : List Du) (P : Du → Bool) (i c : Nat) (v : Int) : Prop :=
  (v = -1 ∧ ∀ m, m < c → ∀ k, Sub (2 * i + 1 + m) k → k < l.length → P (g l k) = false) ∨ ∃ k : Nat, v = (k : Int) ∧ k < l.length ∧ (∃ m, m < c ∧ Sub (2 * i + 1 + m) k) ∧ P (g l k) = true ∧ ∀ m, m < c → ∀ j, Sub (2 * i + 1 + m) j → j < l.length → P (g l j) = true → le (g l k) (g l j)
theorem BestOf.none (l : List Du) (P : Du → Bool) (i : Nat) : BestOf l P i 0 (-1) := Or.inl ⟨rfl, fun m hm => by omega⟩
theorem best_out {l : List Du} {P : Du → Bool} {i : Nat} (h : l.length ≤ i) : Best l P i (-1) := Or.inl ⟨rfl, fun k hs hk => by have := hs.ge; omega⟩
theorem best_late {l : List Du} {now : Int} {p : Du → Bool} {i : Nat} (hh : Heap l) (h : now < (g l i).due) : Best l (fun d => decide (d.due ≤ now) && p d) i (-1) := Or.inl ⟨rfl, fun k hs hk => by
  have := hs.min hh hk
  rw [le_iff] at this
  have : ¬ (g l k).due ≤ now := by omega
  show (decide ((g l k).due ≤ now) && p (g l k)) = false
  rw [decide_eq_false this]; rfl⟩
theorem best_here {l : List Du} {P : Du → Bool} {i : Nat} (hh : Heap l) (hi : i < l.length) (h : P (g l i) = true) : Best l P i (i : Int) := Or.inr ⟨i, rfl, hi, .here i, h, fun j hs hj _ => hs.min hh hj⟩
theorem best_below {l : List Du} {P : Du → Bool} {i : Nat} {v : Int} (h : P (g l i) = false) (hb : BestOf l P i 2 v) : Best l P i v := by
  rcases hb with ⟨rfl, h1⟩ | ⟨k, rfl, hk, ⟨m, hm, hs⟩, hp, h1⟩
  · refine Or.inl ⟨rfl, fun k hs hk => ?_⟩
    rcases hs.cases with rfl | ⟨m, hm, hs⟩
    · exact h
    · exact h1 m hm k hs hk
  · refine Or.inr ⟨k, rfl, hk, .of hm hs, hp, fun j hj hjl hpj => ?_⟩
    rcases hj.cases with rfl | ⟨m', hm', hs'⟩
    · rw [h] at hpj; cases hpj
    · exact h1 m' hm' j hs' hjl hpj
theorem bestOf_none {l : List Du} {P : Du → Bool} {i c : Nat} {v u : Int} (h : BestOf l P i c v) (hu : Best l P (2 * i + 1 + c) u) (hn : ¬ 0 ≤ u) : BestOf l P i (c + 1) v := by
  rcases hu with ⟨rfl, h1⟩ | ⟨k, rfl, _⟩
  · rcases h with ⟨rfl, h2⟩ | ⟨k, rfl, hk, ⟨m, hm, hs⟩, hp, h2⟩
    · refine Or.inl ⟨rfl, fun m hm k hs hk => ?_⟩
      by_cases e : m = c
      · subst e; exact h1 k hs hk
      · exact h2 m (by omega) k hs hk
    · refine Or.inr ⟨k, rfl, hk, ⟨m, by omega, hs⟩, hp, fun m' hm' j hj hjl hpj => ?_⟩
      by_cases e : m' = c
      · subst e; rw [h1 j hj hjl] at hpj; cases hpj
      · exact h2 m' (by omega) j hj hjl hpj
  · omega
theorem bestOf_first {l : List Du} {P : Du → Bool} {i c : Nat} {v u : Int} (h : BestOf l P i c v) (hu : Best l P (2 * i + 1 + c) u) (h0 : 0 ≤ u) (hv : v < 0) : BestOf l P i (c + 1) u := by
  rcases h with ⟨rfl, h2⟩ | ⟨k, rfl, _⟩
  · rcases hu with ⟨rfl, _⟩ | ⟨k, rfl, hk, hs, hp, h1⟩
    · omega
    · refine Or.inr ⟨k, rfl, hk, ⟨c, by omega, hs⟩, hp, fun m' hm' j hj hjl hpj => ?_⟩
      by_cases e : m' = c
      · subst e; exact h1 j hj hjl hpj
      · rw [h2 m' (by omega) j hj hjl] at hpj; cases hpj
  · omega
theorem bestOf_lt {l : List Du} {P : Du → Bool} {i c : Nat} {k f : Nat} (h : BestOf l P i c (f : Int)) (hu : Best l P (2 * i + 1 + c) (k : Int)) (hl : lt (g l k) (g l f) = true) : BestOf l P i (c + 1) (k : Int) := by
  rcases h with ⟨e, _⟩ | ⟨f', e, _, _, _, h2⟩
  · omega
  · obtain rfl : f = f' := by omega
    rcases hu with ⟨e, _⟩ | ⟨k', e', hk, hs, hp, h1⟩
    · omega
    · obtain rfl : k = k' := by omega
      refine Or.inr ⟨k, rfl, hk, ⟨c, by omega, hs⟩, hp, fun m' hm' j hj hjl hpj => ?_⟩
      by_cases e : m' = c
      · subst e; exact h1 j hj hjl hpj
      · exact le_trans (le_of_lt hl) (h2 m' (by omega) j hj hjl hpj)
theorem bestOf_ge {l : List Du} {P : Du → Bool} {i c : Nat} {k f : Nat} (h : BestOf l P i c (f : Int)) (hu : Best l P (2 * i + 1 + c) (k : Int)) (hl : lt (g l k) (g l f) = false) : BestOf l P i (c + 1) (f : Int) := by
  rcases h with ⟨e, _⟩ | ⟨f', e, hf, ⟨m, hm, hs⟩, hp, h2⟩
  · omega
  · obtain rfl : f = f' := by omega
    rcases hu with ⟨e, _⟩ | ⟨k', e', hk, hs', hp', h1⟩
    · omega
    · obtain rfl : k = k' := by omega
      refine Or.inr ⟨f, rfl, hf, ⟨m, by omega, hs⟩, hp, fun m' hm' j hj hjl hpj => ?_⟩
      by_cases e : m' = c
      · subst e; exact le_trans hl (h1 j hj hjl hpj)
      · exact h2 m' (by omega) j hj hjl hpj
theorem BestOf.lt {l : List Du} {P : Du → Bool} {i c f : Nat} (h : BestOf l P i c (f : Int)) : f < l.length := by
  rcases h with ⟨e, _⟩ | ⟨f', e, hf, _⟩
  · omega
  · omega
theorem Best.lt {l : List Du} {P : Du → Bool} {i k : Nat} (h : Best l P i (k : Int)) : k < l.length := by
  rcases h with ⟨e, _⟩ | ⟨f', e, hf, _⟩
  · omega
  · omega
theorem Best.nat {l : List Du} {P : Du → Bool} {i : Nat} {v : Int} (h : Best l P i v) (h0 : 0 ≤ v) : ∃ k : Nat, v = (k : Int) := ⟨v.toNat, by omega⟩
end Du
end Go.Proofs.Ytjmdpepghnhpkaa
