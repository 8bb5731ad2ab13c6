/-
  A list in order that keeps equals in their order is one alone: and insertion from the end makes it. Plain; no program stands here.
-/
import Derived.Test.YtfcmkbeilpclmaaValCmp
namespace Go.Proofs.Ytfcmkbeilpclmaa
set_option linter.unusedVariables false
open Go.Op (bytesLess)

namespace Stab
variable {α : Type} (key : α → List UInt8)

/-- In order. -/
def Sorted (l : List α) : Prop := l.Pairwise fun a b => bytesLess (key b) (key a) = false
/-- Those of one key. -/
def of (n : List UInt8) (l : List α) : List α := l.filter fun a => key a == n

theorem of_cons_same {n : List UInt8} {a : α} {l : List α} (h : key a = n) : of key n (a :: l) = a :: of key n l := by
  unfold of; rw [List.filter_cons_of_pos (by simpa using h)]
theorem of_cons_other {n : List UInt8} {a : α} {l : List α} (h : key a ≠ n) : of key n (a :: l) = of key n l := by
  unfold of; rw [List.filter_cons_of_neg (by simpa using h)]
theorem of_append (n : List UInt8) (l m : List α) : of key n (l ++ m) = of key n l ++ of key n m := by
  unfold of; exact List.filter_append ..

/-- What is in order, with the same of each key in the same order, is the same. -/
theorem unique : ∀ (l m : List α), Sorted key l → Sorted key m → (∀ n, of key n l = of key n m) → l = m := by
  intro l
  induction l with
  | nil =>
    intro m _ _ h
    cases m with
    | nil => rfl
    | cons b m =>
      have := h (key b)
      rw [of_cons_same key rfl] at this
      cases this
  | cons a l ih =>
    intro m hl hm h
    cases m with
    | nil =>
      have := h (key a)
      rw [of_cons_same key rfl] at this
      cases this
    | cons b m =>
      have hl' := List.pairwise_cons.1 hl
      have hm' := List.pairwise_cons.1 hm
      have hab : key a = key b := by
        refine Decidable.byContradiction fun hne => ?_
        have mem1 : a ∈ b :: m := by
          have h1 := h (key a)
          rw [of_cons_same key rfl] at h1
          have : a ∈ of key (key a) (b :: m) := by rw [← h1]; exact List.mem_cons_self
          exact (List.mem_filter.1 this).1
        have mem2 : b ∈ a :: l := by
          have h1 := h (key b)
          rw [of_cons_same key (a := b) rfl] at h1
          have : b ∈ of key (key b) (a :: l) := by rw [h1]; exact List.mem_cons_self
          exact (List.mem_filter.1 this).1
        have m1 : a ∈ m := by
          rcases List.mem_cons.1 mem1 with e | e
          · rw [e] at hne; exact absurd rfl hne
          · exact e
        have m2 : b ∈ l := by
          rcases List.mem_cons.1 mem2 with e | e
          · rw [e] at hne; exact absurd rfl hne
          · exact e
        exact hne (bl_total _ _ (hm'.1 a m1) (hl'.1 b m2))
      have hh := h (key a)
      rw [of_cons_same key rfl, of_cons_same key hab.symm] at hh
      injection hh with e1 e2
      subst e1
      rw [ih m hl'.2 hm'.2 fun n => by
        by_cases hn : key a = n
        · have h1 := h n
          rw [of_cons_same key hn, of_cons_same key hn] at h1
          injection h1
        · have h1 := h n
          rwa [of_cons_other key hn, of_cons_other key hn] at h1]

/-- Insertion from the end: behind the last that is not behind f. -/
def place (f : α) : List α → Nat
  | [] => 0
  | a :: l => if place f l = 0 ∧ bytesLess (key f) (key a) = true then 0 else place f l + 1
def ins (f : α) (l : List α) : List α := l.take (place key f l) ++ f :: l.drop (place key f l)
theorem place_le (f : α) : ∀ l, place key f l ≤ l.length := by
  intro l
  induction l with
  | nil => exact Nat.le_refl _
  | cons a l ih => unfold place; split <;> simp <;> omega
/-- Behind the place all are behind f; what stands just ahead of it is not. -/
theorem place_after (f : α) : ∀ l : List α, ∀ a ∈ l.drop (place key f l), bytesLess (key f) (key a) = true := by
  intro l
  induction l with
  | nil => intro a h; cases h
  | cons b l ih =>
    intro a h
    unfold place at h
    split at h
    · rename_i hc
      rw [List.drop_zero] at h
      rcases List.mem_cons.1 h with rfl | h
      · exact hc.2
      · have h0 := ih
        rw [hc.1, List.drop_zero] at h0
        exact h0 a h
    · rw [List.drop_succ_cons] at h
      exact ih a h
theorem place_before (f : α) : ∀ l : List α, place key f l ≠ 0 → ∃ a, l[place key f l - 1]? = some a ∧ bytesLess (key f) (key a) = false := by
  intro l
  induction l with
  | nil => intro h; exact absurd rfl h
  | cons b l ih =>
    intro h
    unfold place at h ⊢
    by_cases hc : place key f l = 0 ∧ bytesLess (key f) (key b) = true
    · rw [if_pos hc] at h; exact absurd rfl h
    · rw [if_neg hc]
      by_cases h0 : place key f l = 0
      · refine ⟨b, by rw [h0]; rfl, ?_⟩
        exact Bool.eq_false_iff.2 fun hb => hc ⟨h0, hb⟩
      · obtain ⟨a, ha, hb⟩ := ih h0
        refine ⟨a, ?_, hb⟩
        have : place key f l + 1 - 1 = (place key f l - 1) + 1 := by omega
        rw [this, List.getElem?_cons_succ]
        exact ha
theorem ins_sorted (f : α) (l : List α) (h : Sorted key l) : Sorted key (ins key f l) := by
  unfold ins Sorted
  have hs : (l.take (place key f l) ++ l.drop (place key f l)).Pairwise fun a b => bytesLess (key b) (key a) = false := by rw [List.take_append_drop]; exact h
  rw [List.pairwise_append] at hs ⊢
  obtain ⟨h1, h2, h3⟩ := hs
  refine ⟨h1, List.pairwise_cons.2 ⟨fun a ha => bl_asymm _ _ (place_after key f l a ha), h2⟩, fun a ha b hb => ?_⟩
  rcases List.mem_cons.1 hb with rfl | hb
  · by_cases h0 : place key b l = 0
    · rw [h0] at ha; cases ha
    · obtain ⟨c, hc, hcf⟩ := place_before key b l h0
      obtain ⟨i, hi, rfl⟩ := List.mem_iff_getElem.1 ha
      rw [List.length_take] at hi
      have hlt : place key b l - 1 < l.length := by have := place_le key b l; omega
      have hcc : c = l[place key b l - 1] := by
        rw [List.getElem?_eq_getElem hlt] at hc
        injection hc with hc; exact hc.symm
      rw [List.getElem_take]
      by_cases hie : i = place key b l - 1
      · subst hie; rw [← hcc]; exact hcf
      · have hp := (List.pairwise_iff_getElem.1 h) i (place key b l - 1) (by omega) hlt (by omega)
        rw [← hcc] at hp
        exact bl_le_trans _ _ _ hp hcf
  · exact h3 a ha b hb
theorem ins_of (f : α) (l : List α) (n : List UInt8) : of key n (ins key f l) = of key n (l ++ [f]) := by
  unfold ins
  rw [of_append, of_append]
  have hsplit : of key n l = of key n (l.take (place key f l)) ++ of key n (l.drop (place key f l)) := by
    rw [← of_append, List.take_append_drop]
  rw [hsplit]
  by_cases hn : key f = n
  · have hd : of key n (l.drop (place key f l)) = [] := by
      unfold of
      rw [List.filter_eq_nil_iff]
      intro a ha he
      have h1 := place_after key f l a ha
      rw [beq_iff_eq] at he
      rw [he, hn, bl_irrefl] at h1
      cases h1
    rw [of_cons_same key hn, hd, of_cons_same key hn]
    simp [of]
  · rw [of_cons_other key hn, of_cons_other key hn]
    simp [of]

/-- All, inserted one after another. -/
def sort (l : List α) : List α := l.foldl (fun acc f => ins key f acc) []
theorem sort_snoc (l : List α) (f : α) : sort key (l ++ [f]) = ins key f (sort key l) := by
  unfold sort; rw [List.foldl_append]; rfl
theorem sort_spec (l : List α) : Sorted key (sort key l) ∧ ∀ n, of key n (sort key l) = of key n l := by
  have key' : ∀ (k : Nat), Sorted key (sort key (l.take k)) ∧ ∀ n, of key n (sort key (l.take k)) = of key n (l.take k) := by
    intro k
    induction k with
    | zero => exact ⟨List.Pairwise.nil, fun n => rfl⟩
    | succ k ih =>
      by_cases hk : k < l.length
      · rw [List.take_succ_eq_append_getElem hk, sort_snoc]
        refine ⟨ins_sorted key _ _ ih.1, fun n => ?_⟩
        rw [ins_of, of_append, ih.2, ← of_append]
      · have e : l.take (k + 1) = l.take k := by rw [List.take_of_length_le (by omega), List.take_of_length_le (by omega)]
        rw [e]; exact ih
  have := key' l.length
  rwa [List.take_length] at this
/-- Whatever sorts and keeps equals in their order has made just this. -/
theorem sort_unique (l m : List α) (h1 : Sorted key m) (h2 : ∀ n, of key n m = of key n l) : m = sort key l :=
  unique key m (sort key l) h1 (sort_spec key l).1 fun n => by rw [h2, (sort_spec key l).2]
end Stab
end Go.Proofs.Ytfcmkbeilpclmaa
