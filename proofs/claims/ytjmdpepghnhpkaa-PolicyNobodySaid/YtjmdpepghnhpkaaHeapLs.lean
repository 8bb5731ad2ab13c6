/-
  The least of a place and its children. No program stands here.
-/
import Derived.Test.YtjmdpepghnhpkaaDuePure
namespace Go.Proofs.Ytjmdpepghnhpkaa
namespace Du

/-- The least of i and its first j children. -/
def ls (l : List Du) (i : Nat) : Nat → Nat
  | 0 => i
  | j + 1 => if 2 * i + 1 + j < l.length ∧ lt (g l (2 * i + 1 + j)) (g l (ls l i j)) = true then 2 * i + 1 + j else ls l i j
theorem ls_yes {l : List Du} {i j : Nat} (h1 : 2 * i + 1 + j < l.length) (h2 : lt (g l (2 * i + 1 + j)) (g l (ls l i j)) = true) : ls l i (j + 1) = 2 * i + 1 + j := by
  show (if _ then _ else _) = _
  rw [if_pos ⟨h1, h2⟩]
theorem ls_no {l : List Du} {i j : Nat} (h : ¬ (2 * i + 1 + j < l.length) ∨ lt (g l (2 * i + 1 + j)) (g l (ls l i j)) = false) : ls l i (j + 1) = ls l i j := by
  show (if _ then _ else _) = _
  rw [if_neg]
  rintro ⟨h1, h2⟩
  rcases h with h | h
  · exact h h1
  · rw [h] at h2; cases h2
theorem ls_lt {l : List Du} {i : Nat} (hi : i < l.length) : ∀ j, ls l i j < l.length
  | 0 => hi
  | j + 1 => by
    show (if _ then _ else _) < _
    split
    · rename_i h; exact h.1
    · exact ls_lt hi j
theorem ls_or {l : List Du} {i : Nat} : ∀ j, j ≤ 2 → ls l i j = i ∨ (0 < ls l i j ∧ par (ls l i j) = i)
  | 0, _ => Or.inl rfl
  | j + 1, hj => by
    by_cases h : 2 * i + 1 + j < l.length ∧ lt (g l (2 * i + 1 + j)) (g l (ls l i j)) = true
    · rw [ls_yes h.1 h.2]
      right
      refine ⟨by omega, ?_⟩
      unfold par
      omega
    · have hn : ls l i (j + 1) = ls l i j := by
        show (if _ then _ else _) = _
        rw [if_neg h]
      rw [hn]
      exact ls_or j (by omega)
theorem lt_le_lt {a b c : Du} (h : lt a b = true) (k : le b c) : lt a c = true := by rw [lt_iff] at *; rw [le_iff] at k; omega
theorem ls_strict {l : List Du} {i : Nat} : ∀ j, ls l i j = i ∨ lt (g l (ls l i j)) (g l i) = true
  | 0 => Or.inl rfl
  | j + 1 => by
    by_cases h : 2 * i + 1 + j < l.length ∧ lt (g l (2 * i + 1 + j)) (g l (ls l i j)) = true
    · rw [ls_yes h.1 h.2]
      right
      rcases ls_strict j with e | e
      · have := h.2; rwa [e] at this
      · exact lt_le_lt h.2 (le_of_lt e)
    · have hn : ls l i (j + 1) = ls l i j := by
        show (if _ then _ else _) = _
        rw [if_neg h]
      rw [hn]
      exact ls_strict j
theorem ls_low {l : List Du} {i : Nat} : ∀ j m, m < j → 2 * i + 1 + m < l.length → le (g l (ls l i j)) (g l (2 * i + 1 + m))
  | 0, m, hm, _ => by omega
  | j + 1, m, hm, hl => by
    by_cases h : 2 * i + 1 + j < l.length ∧ lt (g l (2 * i + 1 + j)) (g l (ls l i j)) = true
    · rw [ls_yes h.1 h.2]
      by_cases e : m = j
      · subst e; exact le_refl _
      · exact le_trans (le_of_lt h.2) (ls_low j m (by omega) hl)
    · have hn : ls l i (j + 1) = ls l i j := by
        show (if _ then _ else _) = _
        rw [if_neg h]
      rw [hn]
      by_cases e : m = j
      · subst e
        unfold le
        cases hx : lt (g l (2 * i + 1 + m)) (g l (ls l i m)) with
        | false => rfl
        | true => exact absurd ⟨hl, hx⟩ h
      · exact ls_low j m (by omega) hl
theorem ls_kids {l : List Du} {i : Nat} (k : Nat) (h0 : 0 < k) (hk : k < l.length) (hp : par k = i) : le (g l (ls l i 2)) (g l k) := by
  unfold par at hp
  by_cases e : k = 2 * i + 1
  · subst e; exact ls_low 2 0 (by omega) hk
  · have e2 : k = 2 * i + 1 + 1 := by omega
    rw [e2] at hk ⊢
    exact ls_low 2 1 (by omega) hk
/-- No child stands ahead of i. -/
def Calm (l : List Du) (i : Nat) : Prop := ∀ k, 0 < k → k < l.length → par k = i → le (g l i) (g l k)
theorem calm_ls {l : List Du} {i : Nat} (h : Calm l i) (hi : i < l.length) : ls l i 2 = i := by
  rcases ls_or (l := l) (i := i) 2 (Nat.le_refl _) with e | ⟨h0, hp⟩
  · exact e
  · rcases ls_strict (l := l) (i := i) 2 with e | e
    · exact e
    · have := h _ h0 (ls_lt hi 2) hp
      unfold le at this
      rw [e] at this; cases this
theorem down_stop {l : List Du} {i : Nat} (h : DownAt l i) (e : ls l i 2 = i) : Heap l := down_done h (fun k h0 hk hp => by have := ls_kids k h0 hk hp; rwa [e] at this)
theorem down_go {l : List Du} {i : Nat} (h : DownAt l i) (hi : i < l.length) (e : ls l i 2 ≠ i) : DownAt (sw l i (ls l i 2)) (ls l i 2) := by
  rcases ls_or (l := l) (i := i) 2 (Nat.le_refl _) with h1 | ⟨h0, hp⟩
  · exact absurd h1 e
  · rcases ls_strict (l := l) (i := i) 2 with h2 | h2
    · exact absurd h2 e
    · exact down_step h h0 (ls_lt hi 2) hp h2 (fun k k0 hk hpk => ls_kids k k0 hk hpk)
end Du
end Go.Proofs.Ytjmdpepghnhpkaa
