/-
  Merkle trees, purely: the roots of the complete trees of a growing list. No program stands here.
-/
import Derived.Test.YtphhaiccpllnpaaDoorMkPure
namespace Go.Proofs.YtphhaiccpllnpaaDoor
set_option linter.unusedVariables false

namespace Mk
/-- The greatest power of two that is at most n (n from 1 on). -/
def most (n : Nat) : Nat := 2 ^ Nat.log2 n
theorem most_pos (n : Nat) : 0 < most n := Nat.two_pow_pos _
theorem most_le {n : Nat} (h : 1 ≤ n) : most n ≤ n := Nat.log2_self_le (by omega)
theorem most_lt {n : Nat} (h : 1 ≤ n) : n < 2 * most n := by
  have h1 : n < 2 ^ (Nat.log2 n + 1) := Nat.lt_log2_self
  rw [Nat.pow_succ] at h1
  unfold most; omega
theorem most_eq {n e : Nat} (h1 : 2 ^ e ≤ n) (h2 : n < 2 * 2 ^ e) : most n = 2 ^ e := by
  have hp := Nat.two_pow_pos e
  unfold most
  have : Nat.log2 n = e := by
    rw [Nat.log2_eq_iff (by omega), Nat.pow_succ]; omega
  rw [this]
theorem below_most {n : Nat} (h : 2 ≤ n) (hne : most n ≠ n) : below n = most n := by
  have h1 := most_le (n := n) (by omega)
  have h2 := most_lt (n := n) (by omega)
  unfold most at *
  exact below_eq (by omega) (by omega)
theorem below_pow (e : Nat) : below (2 ^ (e + 1)) = 2 ^ e := by
  have := Nat.two_pow_pos e
  exact below_eq (by rw [Nat.pow_succ]; omega) (by rw [Nat.pow_succ]; omega)
/-- The roots of the complete trees, the greatest first. -/
def peaks (l : List Mill.En) (L : List T) : List T :=
  if h : 1 ≤ L.length then root l (L.take (most L.length)) :: peaks l (L.drop (most L.length)) else []
termination_by L.length
decreasing_by rw [List.length_drop]; have := most_pos L.length; omega
theorem peaks_nil (l : List Mill.En) : peaks l [] = [] := by rw [peaks]; rfl
theorem peaks_more (l : List Mill.En) (L : List T) (h : 1 ≤ L.length) : peaks l L = root l (L.take (most L.length)) :: peaks l (L.drop (most L.length)) := by rw [peaks, dif_pos h]
/-- The root of all, of the complete trees' roots. -/
def fold (l : List Mill.En) : List T → T
  | [] => nil l
  | [x] => x
  | x :: y :: r => node l x (fold l (y :: r))
theorem fold_more (l : List Mill.En) (x : T) (P : List T) (h : P ≠ []) : fold l (x :: P) = node l x (fold l P) := by
  match P, h with
  | y :: r, _ => rfl
theorem peaks_ne (l : List Mill.En) (L : List T) (h : 1 ≤ L.length) : peaks l L ≠ [] := by rw [peaks_more l L h]; exact List.cons_ne_nil _ _
theorem root_peaks (l : List Mill.En) : ∀ (n : Nat) (L : List T), L.length = n → fold l (peaks l L) = root l L := by
  intro n
  induction n using Nat.strongRecOn with
  | ind n ih =>
    intro L hn
    by_cases h1 : 1 ≤ n
    · have hp := most_pos n
      have hl := most_le h1
      rw [peaks_more l L (by omega), hn]
      by_cases he : most n = n
      · rw [he, List.drop_of_length_le (by omega), peaks_nil, List.take_of_length_le (by omega)]
        rfl
      · have h2 : 2 ≤ n := by
          rcases Nat.lt_or_ge n 2 with h | h
          · exact absurd (by have : n = 1 := by omega
                             subst this; rfl) he
          · exact h
        rw [fold_more l _ _ (peaks_ne l _ (by rw [List.length_drop]; omega)), ih (n - most n) (by omega) _ (by rw [List.length_drop]; omega), root_more l L (by omega), hn, below_most h2 he]
    · have h0 : L = [] := List.length_eq_zero_iff.mp (by omega)
      rw [h0, peaks_nil, root_nil]; rfl
/-- A tree's root is carried through the complete trees of as many leaves. -/
def carry (l : List Mill.En) (m : Nat) (P : List T) (x : T) : List T :=
  if h : m % 2 = 1 then carry l (m / 2) P.dropLast (node l (P.getLastD []) x) else P ++ [x]
termination_by m
decreasing_by omega
theorem carry_even (l : List Mill.En) (m : Nat) (P : List T) (x : T) (h : ¬ m % 2 = 1) : carry l m P x = P ++ [x] := by rw [carry, dif_neg h]
theorem carry_odd (l : List Mill.En) (m : Nat) (P : List T) (x y : T) (h : m % 2 = 1) : carry l m (P ++ [y]) x = carry l (m / 2) P (node l y x) := by
  rw [carry, dif_pos h, List.dropLast_concat, last_snoc]
theorem peaks_full (l : List Mill.En) (X : List T) (j : Nat) (h : X.length = 2 ^ j) : peaks l X = [root l X] := by
  have hp := Nat.two_pow_pos j
  have hm : most X.length = X.length := by rw [h]; exact most_eq (Nat.le_refl _) (by omega)
  rw [peaks_more l X (by omega), hm, List.drop_of_length_le (Nat.le_refl _), peaks_nil, List.take_of_length_le (Nat.le_refl _)]
/-- A power of two that a number below its double is a multiple of half of leaves room. -/
theorem room {e j n : Nat} (c : Nat) (hc : n = c * 2 ^ (j + 1)) (h1 : 2 ^ e ≤ n) (h2 : n < 2 * 2 ^ e) : n + 2 ^ j < 2 * 2 ^ e := by
  have hj := Nat.two_pow_pos j
  have hs : 2 ^ (j + 1) = 2 * 2 ^ j := by rw [Nat.pow_succ]; omega
  rcases Nat.lt_or_ge e j with h | h
  · have h3 : 2 ^ (e + 1) ≤ 2 ^ j := Nat.pow_le_pow_right (by omega) (by omega)
    rw [Nat.pow_succ] at h3
    rcases Nat.eq_zero_or_pos c with h4 | h4
    · rw [h4, Nat.zero_mul] at hc; have := Nat.two_pow_pos e; omega
    · have h5 : 1 * 2 ^ (j + 1) ≤ c * 2 ^ (j + 1) := Nat.mul_le_mul_right _ h4
      omega
  · obtain ⟨d, rfl⟩ := Nat.exists_eq_add_of_le h
    have h3 : 2 * 2 ^ (j + d) = 2 ^ d * 2 ^ (j + 1) := by rw [Nat.pow_add, hs]; rw [Nat.mul_comm (2 ^ d), Nat.mul_assoc]
    rw [h3, hc] at h2
    have h4 : c < 2 ^ d := Nat.lt_of_mul_lt_mul_right h2
    have h5 : (c + 1) * 2 ^ (j + 1) ≤ 2 ^ d * 2 ^ (j + 1) := Nat.mul_le_mul_right _ h4
    rw [Nat.add_mul] at h5
    omega
theorem peaks_even (l : List Mill.En) (X : List T) (j : Nat) (hX : X.length = 2 ^ j) : ∀ (n : Nat) (L : List T) (c : Nat), L.length = n → n = c * 2 ^ (j + 1) → peaks l (L ++ X) = peaks l L ++ [root l X] := by
  intro n
  induction n using Nat.strongRecOn with
  | ind n ih =>
    intro L c hn hc
    have hj := Nat.two_pow_pos j
    by_cases h1 : 1 ≤ n
    · have hm := most_le h1
      have hl := most_lt h1
      have hp := most_pos n
      have hr : n + 2 ^ j < 2 * most n := room c hc hm hl
      have hmm : most (n + 2 ^ j) = most n := by
        unfold most at hm hl hr ⊢
        exact most_eq (by omega) hr
      -- what is left is a multiple, too
      have hd : ∃ d, n - most n = d * 2 ^ (j + 1) := by
        have hje : j + 1 ≤ Nat.log2 n := by
          rcases Nat.lt_or_ge (Nat.log2 n) (j + 1) with h | h
          · have h3 : 2 ^ (Nat.log2 n + 1) ≤ 2 ^ (j + 1) := Nat.pow_le_pow_right (by omega) (by omega)
            rw [Nat.pow_succ] at h3
            rcases Nat.eq_zero_or_pos c with h4 | h4
            · rw [h4, Nat.zero_mul] at hc; omega
            · have h5 : 1 * 2 ^ (j + 1) ≤ c * 2 ^ (j + 1) := Nat.mul_le_mul_right _ h4
              unfold most at hl; omega
          · exact h
        obtain ⟨d, hd⟩ := Nat.exists_eq_add_of_le hje
        refine ⟨c - 2 ^ d, ?_⟩
        rw [Nat.sub_mul, ← hc]
        congr 1
        unfold most
        rw [hd, Nat.pow_add, Nat.mul_comm]
      obtain ⟨d, hd⟩ := hd
      rw [peaks_more l (L ++ X) (by rw [List.length_append]; omega), peaks_more l L (by omega), List.length_append, hn, hX, hmm, List.take_append_of_le_length (by omega), List.drop_append_of_le_length (by omega), ih (n - most n) (by omega) (L.drop (most n)) d (by rw [List.length_drop]; omega) hd]
      rfl
    · have h0 : L = [] := List.length_eq_zero_iff.mp (by omega)
      rw [h0, List.nil_append, peaks_nil, List.nil_append]
      exact peaks_full l X j hX
/-- A leaf more: its root is carried. -/
theorem peaks_carry (l : List Mill.En) : ∀ (m j : Nat) (L X : List T), L.length = m * 2 ^ j → X.length = 2 ^ j → peaks l (L ++ X) = carry l m (peaks l L) (root l X) := by
  intro m
  induction m using Nat.strongRecOn with
  | ind m ih =>
    intro j L X hL hX
    have hj := Nat.two_pow_pos j
    have hs : 2 ^ (j + 1) = 2 * 2 ^ j := by rw [Nat.pow_succ]; omega
    by_cases h : m % 2 = 1
    · have hc : (m - 1) * 2 ^ j = m / 2 * 2 ^ (j + 1) := by
        rw [hs, ← Nat.mul_assoc]; congr 1; omega
      have hm : m * 2 ^ j = (m - 1) * 2 ^ j + 2 ^ j := by
        have : m = (m - 1) + 1 := by omega
        rw [this, Nat.add_mul, Nat.one_mul]; rfl
      have hL1 : (L.take ((m - 1) * 2 ^ j)).length = (m - 1) * 2 ^ j := by rw [List.length_take]; omega
      have hL2 : (L.drop ((m - 1) * 2 ^ j)).length = 2 ^ j := by rw [List.length_drop]; omega
      have hsplit : L.take ((m - 1) * 2 ^ j) ++ L.drop ((m - 1) * 2 ^ j) = L := List.take_append_drop _ _
      generalize L.take ((m - 1) * 2 ^ j) = A at hL1 hsplit
      generalize L.drop ((m - 1) * 2 ^ j) = Y at hL2 hsplit
      subst hsplit
      have hroot : node l (root l Y) (root l X) = root l (Y ++ X) := by
        rw [root_more l (Y ++ X) (by rw [List.length_append]; omega), List.length_append, hL2, hX, show 2 ^ j + 2 ^ j = 2 ^ (j + 1) from by omega, below_pow, List.take_append_of_le_length (by omega), List.take_of_length_le (by omega), List.drop_append_of_le_length (by omega), List.drop_of_length_le (by omega), List.nil_append]
      rw [peaks_even l Y j hL2 _ A (m / 2) hL1 hc, carry_odd l m _ _ _ h, hroot, List.append_assoc]
      exact ih (m / 2) (by omega) (j + 1) A (Y ++ X) (by rw [hL1, hc]) (by rw [List.length_append]; omega)
    · rw [carry_even l m _ _ h]
      exact peaks_even l X j hX _ L (m / 2) rfl (by rw [hL, hs, ← Nat.mul_assoc]; congr 1; omega)
theorem peaks_add (l : List Mill.En) (L : List T) (x : T) : peaks l (L ++ [x]) = carry l L.length (peaks l L) x := by
  have := peaks_carry l L.length 0 L [x] (by simp) rfl
  rw [root_one] at this
  exact this
/-- A proof walked from its leaf: what is beside the way is to the left where the place's bit says so, or where the way is the last one. -/
theorem root_fold (l : List Mill.En) (L : List T) : root l L = fold l (peaks l L) := (root_peaks l L.length L rfl).symm
end Mk
end Go.Proofs.YtphhaiccpllnpaaDoor
