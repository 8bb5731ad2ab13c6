/-
  A stable order of places, plain: what inserting from behind makes of places that rise, and that it is the only one. No program stands here.
-/
import Derived.Test.YtfcmkbeilpclmaaMath
namespace Go.Proofs.Ytfcmkbeilpclmaa
set_option linter.unusedVariables false
namespace Fnd

/-- An order in which two may be alike. -/
structure Weak (lt : Nat → Nat → Bool) : Prop where
  asymm : ∀ a b, lt a b = true → lt b a = false
  trans : ∀ a b c, lt b a = false → lt c b = false → lt c a = false
/-- One stands ahead of another: it is not behind it, and of two that are alike it is the smaller place. -/
def Fst (lt : Nat → Nat → Bool) (a b : Nat) : Prop := lt b a = false ∧ (lt a b = false → a < b)
theorem Fst.anti {lt : Nat → Nat → Bool} {a b : Nat} (h1 : Fst lt a b) (h2 : Fst lt b a) : a = b := by
  have := h1.2 h2.1
  have := h2.2 h1.1
  omega
/-- A place is put ahead of the first that it is ahead of. -/
def ins (lt : Nat → Nat → Bool) (i : Nat) : List Nat → List Nat
  | [] => [i]
  | x :: l => if lt i x = true then i :: x :: l else x :: ins lt i l
def srt (lt : Nat → Nat → Bool) (xs : List Nat) : List Nat := xs.foldl (fun l i => ins lt i l) []
theorem srt_snoc (lt : Nat → Nat → Bool) (xs : List Nat) (i : Nat) : srt lt (xs ++ [i]) = ins lt i (srt lt xs) := by unfold srt; rw [List.foldl_append]; rfl
theorem ins_perm (lt : Nat → Nat → Bool) (i : Nat) (l : List Nat) : (ins lt i l).Perm (i :: l) := by
  induction l with
  | nil => exact List.Perm.refl _
  | cons x l ih =>
    unfold ins
    split
    · exact List.Perm.refl _
    · exact (List.Perm.cons x ih).trans (List.Perm.swap i x l)
theorem srt_perm (lt : Nat → Nat → Bool) (xs : List Nat) : (srt lt xs).Perm xs := by
  have h : ∀ (xs acc : List Nat), (xs.foldl (fun l i => ins lt i l) acc).Perm (acc ++ xs) := by
    intro xs
    induction xs with
    | nil => intro acc; simp
    | cons i xs ih =>
      intro acc
      rw [List.foldl_cons]
      refine (ih _).trans ?_
      refine ((ins_perm lt i acc).append_right xs).trans ?_
      exact List.perm_middle.symm
  simpa [srt] using h xs []
/-- In a row that is in order, what stands behind all that are not behind it is put there. -/
theorem ins_split {lt : Nat → Nat → Bool} (hw : Weak lt) (i : Nat) : ∀ (A B : List Nat), (A ++ B).Pairwise (fun a b => lt b a = false) → (∀ x ∈ A.getLast?, lt i x = false) → (∀ x ∈ B.head?, lt i x = true) → ins lt i (A ++ B) = A ++ i :: B := by
  intro A
  induction A with
  | nil =>
    intro B _ _ hB
    cases B with
    | nil => rfl
    | cons x l => show (if lt i x = true then _ else _) = _; rw [if_pos (hB x rfl)]; rfl
  | cons a A ih =>
    intro B hp hA hB
    have hia : lt i a = false := by
      cases A with
      | nil => exact hA a rfl
      | cons b A' =>
        obtain ⟨z, hz⟩ : ∃ z, (b :: A').getLast? = some z := by
          cases h : (b :: A').getLast? with
          | none => simp at h
          | some z => exact ⟨z, rfl⟩
        have hzl : lt i z = false := hA z (by rw [List.getLast?_cons_cons, hz]; rfl)
        have hza : lt z a = false := (List.pairwise_cons.1 hp).1 z (List.mem_append_left _ (List.mem_of_getLast? hz))
        exact hw.trans a z i hza hzl
    show (if lt i a = true then _ else a :: ins lt i (A ++ B)) = _
    rw [if_neg (by rw [hia]; decide)]
    have := ih B (List.pairwise_cons.1 hp).2 (fun x hx => hA x (by
      cases A with
      | nil => cases hx
      | cons b A' => rw [List.getLast?_cons_cons]; exact hx)) hB
    rw [this]
    rfl
theorem ins_fst {lt : Nat → Nat → Bool} (hw : Weak lt) {i : Nat} {l : List Nat} (hl : l.Pairwise (Fst lt)) (hi : ∀ x ∈ l, x < i) : (ins lt i l).Pairwise (Fst lt) := by
  induction l with
  | nil => exact List.pairwise_singleton _ _
  | cons x l ih =>
    obtain ⟨hx, hl'⟩ := List.pairwise_cons.1 hl
    unfold ins
    split
    · rename_i h
      refine List.pairwise_cons.2 ⟨fun y hy => ?_, hl⟩
      have hiy : lt i y = true := by
        rcases List.mem_cons.1 hy with rfl | hy
        · exact h
        · cases hq : lt i y with
          | true => rfl
          | false => have := hw.trans x y i (hx y hy).1 hq; rw [h] at this; cases this
      exact ⟨hw.asymm _ _ hiy, fun hn => by rw [hiy] at hn; cases hn⟩
    · rename_i h
      have h' : lt i x = false := by cases hq : lt i x with
        | true => exact absurd hq h
        | false => rfl
      refine List.pairwise_cons.2 ⟨fun y hy => ?_, ih hl' (fun y hy => hi y (List.mem_cons_of_mem _ hy))⟩
      rcases List.mem_cons.1 ((ins_perm lt i l).mem_iff.1 hy) with rfl | hy
      · exact ⟨h', fun _ => hi x (List.mem_cons_self ..)⟩
      · exact hx y hy
theorem srt_fst {lt : Nat → Nat → Bool} (hw : Weak lt) : ∀ (xs : List Nat), xs.Pairwise (· < ·) → (srt lt xs).Pairwise (Fst lt) := by
  have h : ∀ (xs acc : List Nat), xs.Pairwise (· < ·) → acc.Pairwise (Fst lt) → (∀ a ∈ acc, ∀ x ∈ xs, a < x) → (xs.foldl (fun l i => ins lt i l) acc).Pairwise (Fst lt) := by
    intro xs
    induction xs with
    | nil => intro acc _ h _; exact h
    | cons i xs ih =>
      intro acc hx ha hax
      obtain ⟨h1, h2⟩ := List.pairwise_cons.1 hx
      rw [List.foldl_cons]
      refine ih _ h2 (ins_fst hw ha (fun a ha' => hax a ha' i (List.mem_cons_self ..))) (fun a ha' x hx' => ?_)
      rcases List.mem_cons.1 ((ins_perm lt i acc).mem_iff.1 ha') with rfl | ha'
      · exact h1 x hx'
      · exact hax a ha' x (List.mem_cons_of_mem _ hx')
  intro xs hx
  exact h xs [] hx List.Pairwise.nil (fun a ha => by cases ha)
theorem srt_sorted {lt : Nat → Nat → Bool} (hw : Weak lt) {xs : List Nat} (hx : xs.Pairwise (· < ·)) : (srt lt xs).Pairwise (fun a b => lt b a = false) := (srt_fst hw xs hx).imp fun h => h.1
/-- The only row of the same places in which each stands ahead of all behind it. -/
theorem fst_unique {lt : Nat → Nat → Bool} : ∀ {l m : List Nat}, l.Perm m → l.Pairwise (Fst lt) → m.Pairwise (Fst lt) → l = m := by
  intro l
  induction l with
  | nil => intro m hp _ _; exact (List.Perm.nil_eq hp)
  | cons a l ih =>
    intro m hp hl hm
    cases m with
    | nil => exact absurd hp.length_eq (by simp)
    | cons b m =>
      have hab : a = b := by
        by_cases e : a = b
        · exact e
        · have h1 : a ∈ m := (List.mem_cons.1 (hp.mem_iff.1 (List.mem_cons_self ..))).resolve_left e
          have h2 : b ∈ l := (List.mem_cons.1 (hp.mem_iff.2 (List.mem_cons_self ..))).resolve_left (fun h => e h.symm)
          exact ((List.pairwise_cons.1 hl).1 b h2).anti ((List.pairwise_cons.1 hm).1 a h1)
      subst hab
      rw [ih (List.Perm.cons_inv hp) (List.pairwise_cons.1 hl).2 (List.pairwise_cons.1 hm).2]
theorem srt_unique {lt : Nat → Nat → Bool} (hw : Weak lt) {xs l : List Nat} (hx : xs.Pairwise (· < ·)) (hp : l.Perm xs) (hl : l.Pairwise (Fst lt)) : l = srt lt xs :=
  fst_unique (hp.trans (srt_perm lt xs).symm) hl (srt_fst hw xs hx)
/-- Where none is ahead of another, the places stay. -/
theorem ins_none {lt : Nat → Nat → Bool} (h : ∀ a b, lt a b = false) (i : Nat) (l : List Nat) : ins lt i l = l ++ [i] := by
  induction l with
  | nil => rfl
  | cons x l ih => unfold ins; rw [if_neg (by rw [h]; decide), ih]; rfl
theorem srt_none {lt : Nat → Nat → Bool} (h : ∀ a b, lt a b = false) (xs : List Nat) : srt lt xs = xs := by
  have h1 : ∀ (xs acc : List Nat), xs.foldl (fun l i => ins lt i l) acc = acc ++ xs := by
    intro xs
    induction xs with
    | nil => intro acc; simp
    | cons i xs ih => intro acc; rw [List.foldl_cons, ins_none h, ih]; simp
  exact h1 xs []
end Fnd
end Go.Proofs.Ytfcmkbeilpclmaa
