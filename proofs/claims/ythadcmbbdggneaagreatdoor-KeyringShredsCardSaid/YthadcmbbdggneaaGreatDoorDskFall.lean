/-
  What waits, in order; the power's fall as a walk over what waits. No program stands here.
-/
import Derived.Test.YthadcmbbdggneaaGreatDoorDskSpec
import Derived.Lib.SlKeysI
namespace Go.Proofs.YthadcmbbdggneaaGreatDoor
set_option linter.unusedVariables false

namespace Dsk
/-- The places that wait, in order, counted from o on. -/
def waitsFrom : Nat → List Sec → List Nat
  | _, [] => []
  | o, s :: r => if s.pend.isSome then o :: waitsFrom (o + 1) r else waitsFrom (o + 1) r
def waits (L : List Sec) : List Nat := waitsFrom 0 L
/-- What becomes of a sector whose turn is k. -/
def fsec (f : Fall) (k : Nat) (s : Sec) : Sec := match s.pend with | some p => fallOne f k s p | none => s
def fallFold (f : Fall) : Nat → List Nat → List Sec → List Sec
  | _, [], L => L
  | k, i :: is, L => fallFold f (k + 1) is (L.modify i (fsec f k))
def fallTo (f : Fall) (L : List Sec) (k : Nat) : List Sec := fallFold f 0 ((waits L).take k) L

theorem waitsFrom_mem : ∀ (L : List Sec) (o i : Nat), i ∈ waitsFrom o L ↔ o ≤ i ∧ ((L[i - o]?).bind Sec.pend).isSome = true := by
  intro L
  induction L with
  | nil => intro o i; simp [waitsFrom]
  | cons s r ih =>
    intro o i
    unfold waitsFrom
    have hcase : i ∈ waitsFrom (o + 1) r ↔ o + 1 ≤ i ∧ ((r[i - (o + 1)]?).bind Sec.pend).isSome = true := ih (o + 1) i
    by_cases hi : i = o
    · subst hi
      have hn : ¬ i ∈ waitsFrom (i + 1) r := fun h => by have := (hcase.1 h).1; omega
      by_cases hs : s.pend.isSome = true
      · rw [if_pos hs]; simp [hs]
      · rw [if_neg hs]; simp [hs, hn]
    · have he : o ≤ i ∧ ((((s :: r)[i - o]?).bind Sec.pend).isSome = true) ↔ o + 1 ≤ i ∧ ((r[i - (o + 1)]?).bind Sec.pend).isSome = true := by
        by_cases hlt : o + 1 ≤ i
        · have : i - o = (i - (o + 1)) + 1 := by omega
          rw [this, List.getElem?_cons_succ]
          constructor
          · rintro ⟨_, h⟩; exact ⟨hlt, h⟩
          · rintro ⟨_, h⟩; exact ⟨by omega, h⟩
        · constructor
          · rintro ⟨h, _⟩; omega
          · rintro ⟨h, _⟩; omega
      rw [he, ← hcase]
      split
      · rw [List.mem_cons]; constructor
        · rintro (h | h)
          · exact absurd h hi
          · exact h
        · exact Or.inr
      · rfl
theorem waitsFrom_ge (L : List Sec) (o : Nat) : ∀ i ∈ waitsFrom o L, o ≤ i := fun i h => ((waitsFrom_mem L o i).1 h).1
theorem waitsFrom_rising : ∀ (L : List Sec) (o : Nat), (waitsFrom o L).Pairwise (· < ·) := by
  intro L
  induction L with
  | nil => intro o; exact List.Pairwise.nil
  | cons s r ih =>
    intro o
    unfold waitsFrom
    split
    · exact List.Pairwise.cons (fun i hi => by have := waitsFrom_ge r (o + 1) i hi; omega) (ih (o + 1))
    · exact ih (o + 1)
theorem waits_rising (L : List Sec) : (waits L).Pairwise (· < ·) := waitsFrom_rising L 0
theorem waits_mem (L : List Sec) (i : Nat) : i ∈ waits L ↔ ((L[i]?).bind Sec.pend).isSome = true := by
  unfold waits
  rw [waitsFrom_mem]
  simp
theorem waits_nodup (L : List Sec) : (waits L).Nodup := (waits_rising L).imp (fun h => by omega)
theorem waitsFrom_len : ∀ (L : List Sec) (o : Nat), (waitsFrom o L).length ≤ L.length := by
  intro L
  induction L with
  | nil => intro o; exact Nat.le_refl _
  | cons s r ih =>
    intro o
    unfold waitsFrom
    have := ih (o + 1)
    split
    · rw [List.length_cons, List.length_cons]; omega
    · rw [List.length_cons]; omega
theorem waits_len (L : List Sec) : (waits L).length ≤ L.length := waitsFrom_len L 0
/-- The place number k of those that wait. -/
theorem waits_at (L : List Sec) (k : Nat) (h : k < (waits L).length) : ∃ s p, L[(waits L)[k]]? = some s ∧ s.pend = some p := by
  have hm := (waits_mem L _).1 (List.getElem_mem h)
  cases hs : L[(waits L)[k]]? with
  | none => rw [hs] at hm; simp at hm
  | some s =>
    rw [hs] at hm
    cases hp : s.pend with
    | none => simp [hp] at hm
    | some p => exact ⟨s, p, rfl, hp⟩
theorem waits_lt (L : List Sec) (k : Nat) (h : k < (waits L).length) : (waits L)[k] < L.length := by
  obtain ⟨s, p, hs, _⟩ := waits_at L k h
  exact (List.getElem?_eq_some_iff.1 hs).1

theorem fallFold_append (f : Fall) : ∀ (xs : List Nat) (k i : Nat) (L : List Sec), fallFold f k (xs ++ [i]) L = (fallFold f k xs L).modify i (fsec f (k + xs.length)) := by
  intro xs
  induction xs with
  | nil => intro k i L; rfl
  | cons x xs ih =>
    intro k i L
    show fallFold f (k + 1) (xs ++ [i]) (L.modify x (fsec f k)) = _
    rw [ih, List.length_cons, show k + 1 + xs.length = k + (xs.length + 1) by omega]
    rfl
theorem fallFold_other (f : Fall) : ∀ (xs : List Nat) (k i : Nat) (L : List Sec), i ∉ xs → (fallFold f k xs L)[i]? = L[i]? := by
  intro xs
  induction xs with
  | nil => intro k i L _; rfl
  | cons x xs ih =>
    intro k i L h
    rw [List.mem_cons, not_or] at h
    show (fallFold f (k + 1) xs (L.modify x (fsec f k)))[i]? = _
    rw [ih _ _ _ h.2, List.getElem?_modify]
    have : ¬ x = i := fun e => h.1 e.symm
    simp [this]
theorem fallFold_len (f : Fall) : ∀ (xs : List Nat) (k : Nat) (L : List Sec), (fallFold f k xs L).length = L.length := by
  intro xs
  induction xs with
  | nil => intro k L; rfl
  | cons x xs ih =>
    intro k L
    show (fallFold f (k + 1) xs (L.modify x (fsec f k))).length = _
    rw [ih, List.length_modify]
theorem modify_at {α : Type} (A : List α) (s : α) (r : List α) (g : α → α) : (A ++ s :: r).modify A.length g = (A ++ [g s]) ++ r := by
  induction A with
  | nil => rfl
  | cons a A ih =>
    show a :: (A ++ s :: r).modify A.length g = _
    rw [ih]
    rfl
theorem fallFold_go (f : Fall) : ∀ (r A : List Sec) (k : Nat), fallFold f k (waitsFrom A.length r) (A ++ r) = A ++ fallGo f k r := by
  intro r
  induction r with
  | nil => intro A k; rfl
  | cons s r ih =>
    intro A k
    cases hp : s.pend with
    | none =>
      have e1 : waitsFrom A.length (s :: r) = waitsFrom (A ++ [s]).length r := by
        conv => lhs; unfold waitsFrom
        rw [hp]; simp
      have e2 : fallGo f k (s :: r) = s :: fallGo f k r := by
        conv => lhs; unfold fallGo
        rw [hp]
      rw [e1, e2]
      have := ih (A ++ [s]) k
      rw [List.append_assoc] at this
      rw [show A ++ s :: r = A ++ ([s] ++ r) from rfl, this, List.append_assoc]
      rfl
    | some p =>
      have e1 : waitsFrom A.length (s :: r) = A.length :: waitsFrom (A ++ [fsec f k s]).length r := by
        conv => lhs; unfold waitsFrom
        rw [hp]; simp
      have e3 : fsec f k s = fallOne f k s p := by unfold fsec; rw [hp]
      have e2 : fallGo f k (s :: r) = fsec f k s :: fallGo f (k + 1) r := by
        conv => lhs; unfold fallGo
        rw [hp, e3]
      rw [e1, e2]
      show fallFold f (k + 1) _ ((A ++ s :: r).modify A.length (fsec f k)) = _
      rw [modify_at, ih (A ++ [fsec f k s]) (k + 1), List.append_assoc]
      rfl
theorem fallTo_zero (f : Fall) (L : List Sec) : fallTo f L 0 = L := rfl
theorem fallTo_len (f : Fall) (L : List Sec) (k : Nat) : (fallTo f L k).length = L.length := fallFold_len ..
theorem fallTo_all (f : Fall) (L : List Sec) : fallTo f L (waits L).length = fallGo f 0 L := by
  unfold fallTo
  rw [List.take_length]
  exact fallFold_go f L [] 0
theorem fallTo_at (f : Fall) (L : List Sec) (k : Nat) (h : k < (waits L).length) : (fallTo f L k)[(waits L)[k]]? = L[(waits L)[k]]? := by
  refine fallFold_other f _ 0 _ L fun hm => ?_
  obtain ⟨j, hj, he⟩ := List.mem_iff_getElem.1 hm
  rw [List.length_take] at hj
  rw [List.getElem_take] at he
  have := List.pairwise_iff_getElem.1 (waits_rising L) j k (by omega) h (by omega)
  omega
theorem fallTo_step (f : Fall) (L : List Sec) (k : Nat) (h : k < (waits L).length) : fallTo f L (k + 1) = (fallTo f L k).modify (waits L)[k] (fsec f k) := by
  unfold fallTo
  rw [List.take_succ_eq_append_getElem h, fallFold_append, List.length_take, Nat.min_eq_left (by omega), Nat.zero_add]
/-- One step more: the sector of place number k falls. -/
theorem fallTo_set (f : Fall) (L : List Sec) (k : Nat) (h : k < (waits L).length) {s : Sec} {p : T × Nat} (hs : L[(waits L)[k]]? = some s) (hp : s.pend = some p) :
    fallTo f L (k + 1) = (fallTo f L k).set (waits L)[k] (fallOne f k s p) := by
  rw [fallTo_step f L k h]
  apply List.ext_getElem?
  intro i
  rw [List.getElem?_modify, List.getElem?_set, fallTo_len]
  by_cases hi : (waits L)[k] = i
  · rw [if_pos hi]
    have hl := waits_lt L k h
    rw [if_pos hl, ← hi, fallTo_at f L k h, hs]
    simp [fsec, hp]
  · rw [if_neg hi]
    simp [hi]

theorem fsec_full (f : Fall) (k : Nat) {s : Sec} (h : Full s) : Full (fsec f k s) := by
  unfold fsec
  cases hp : s.pend with
  | none => exact h
  | some p => exact fallOne_full f k s p h.1 (h.2 p hp)
theorem fallFold_good (f : Fall) : ∀ (xs : List Nat) (k : Nat) (L : List Sec), (∀ s ∈ L, Full s) → ∀ s ∈ fallFold f k xs L, Full s := by
  intro xs
  induction xs with
  | nil => intro k L h; exact h
  | cons x xs ih =>
    intro k L h
    refine ih (k + 1) _ fun s hs => ?_
    obtain ⟨j, hj⟩ := List.getElem?_of_mem hs
    rw [List.getElem?_modify] at hj
    cases hL : L[j]? with
    | none => rw [hL] at hj; cases hj
    | some s0 =>
      rw [hL] at hj
      have h0 := h s0 (List.mem_of_getElem? hL)
      have hj := Option.some.inj hj
      subst hj
      split
      · exact fsec_full f k h0
      · exact h0
theorem fallTo_good (f : Fall) {d : St} (h : Good d) (k : Nat) : ∀ s ∈ fallTo f d.secs k, Full s := fallFold_good f _ 0 _ h

/-! what waits, of any place -/
def pendI (L : List Sec) (x : Int) : Option (T × Nat) := if 0 ≤ x then (L[x.toNat]?).bind Sec.pend else none
theorem pendI_nat (L : List Sec) (i : Nat) : pendI L (i : Int) = (L[i]?).bind Sec.pend := by
  unfold pendI
  rw [if_pos (by omega)]
  rfl
theorem mem_waitsI (L : List Sec) (x : Int) : x ∈ (waits L).map (fun i : Nat => (i : Int)) ↔ (pendI L x).isSome = true := by
  rw [List.mem_map]
  constructor
  · rintro ⟨i, hi, rfl⟩
    rw [pendI_nat]
    exact (waits_mem L i).1 hi
  · intro h
    unfold pendI at h
    split at h
    · exact ⟨x.toNat, (waits_mem L _).2 h, by omega⟩
    · simp at h
theorem waitsI_nodup (L : List Sec) : ((waits L).map (fun i : Nat => (i : Int))).Nodup := by
  refine List.pairwise_map.2 ((waits_rising L).imp fun h => ?_)
  omega
theorem waitsI_sorted (L : List Sec) : ((waits L).map (fun i : Nat => (i : Int))).mergeSort leI = (waits L).map (fun i : Nat => (i : Int)) := by
  refine List.mergeSort_of_pairwise ?_
  refine List.pairwise_map.2 ((waits_rising L).imp fun h => ?_)
  simp only [leI, decide_eq_true_eq]
  omega
theorem pendI_put (L : List Sec) (i : Nat) (h : i < L.length) (p : T × Nat) (x : Int) : pendI (L.modify i fun s => ⟨s.sure, s.at_, some p⟩) x = if x = (i : Int) then some p else pendI L x := by
  unfold pendI
  by_cases hx : 0 ≤ x
  · rw [if_pos hx, if_pos hx, List.getElem?_modify]
    by_cases he : x = (i : Int)
    · subst he
      rw [if_pos rfl]
      have : (i : Int).toNat = i := by omega
      rw [this, List.getElem?_eq_getElem h]
      simp
    · rw [if_neg he]
      have : ¬ i = x.toNat := by omega
      simp [this]
  · rw [if_neg hx, if_neg hx, if_neg (by omega)]
theorem pendI_none {L : List Sec} (h : ∀ s ∈ L, s.pend = none) (x : Int) : pendI L x = none := by
  unfold pendI
  split
  · cases hs : L[x.toNat]? with
    | none => rfl
    | some s => exact h s (List.mem_of_getElem? hs)
  · rfl
end Dsk
end Go.Proofs.YthadcmbbdggneaaGreatDoor
