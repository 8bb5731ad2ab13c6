/-
  A flush, place by place. No program stands here.
-/
import Derived.Test.YthadcmbbdggneaaGreatDoorDskFall
namespace Go.Proofs.YthadcmbbdggneaaGreatDoor
set_option linter.unusedVariables false

namespace Dsk
/-- Those places are flushed that are no longer left. -/
def flushTo (L : List Sec) (left : Lit → Bool) : List Sec := L.mapIdx fun i s => if left (.int .i64 (i : Int)) = true then s else flushed s
theorem flushTo_len (L : List Sec) (left : Lit → Bool) : (flushTo L left).length = L.length := by unfold flushTo; simp
theorem flushTo_get (L : List Sec) (left : Lit → Bool) (i : Nat) : (flushTo L left)[i]? = (L[i]?).map fun s => if left (.int .i64 (i : Int)) = true then s else flushed s := by
  unfold flushTo
  rw [List.getElem?_mapIdx]
theorem flushed_none {s : Sec} (h : s.pend = none) : flushed s = s := by unfold flushed; rw [h]
theorem flushTo_start {L : List Sec} {left : Lit → Bool} (h : ∀ (i : Nat) (s : Sec), L[i]? = some s → s.pend ≠ none → left (.int .i64 (i : Int)) = true) : flushTo L left = L := by
  apply List.ext_getElem?
  intro i
  rw [flushTo_get]
  cases hs : L[i]? with
  | none => rfl
  | some s =>
    by_cases hp : s.pend = none
    · simp [flushed_none hp]
    · simp [h i s hs hp]
theorem flushTo_end {L : List Sec} {left : Lit → Bool} (h : ∀ kl, left kl = false) : flushTo L left = L.map flushed := by
  apply List.ext_getElem?
  intro i
  rw [flushTo_get, List.getElem?_map]
  cases hs : L[i]? with
  | none => rfl
  | some s => simp [h]
theorem flushTo_step {L : List Sec} {left : Lit → Bool} {i : Nat} {s : Sec} (hs : L[i]? = some s) (hl : left (.int .i64 (i : Int)) = true) :
    flushTo L (fun z => left z && !z.sameKey (.int .i64 (i : Int))) = (flushTo L left).set i (flushed s) := by
  apply List.ext_getElem?
  intro j
  rw [flushTo_get, List.getElem?_set, flushTo_len, flushTo_get]
  have hi : i < L.length := (List.getElem?_eq_some_iff.1 hs).1
  by_cases hj : i = j
  · subst hj
    rw [if_pos rfl, if_pos hi, hs]
    have : (Lit.int .i64 (i : Int)).sameKey (.int .i64 (i : Int)) = true := Go.WideAt.sameKey_self trivial
    simp [this]
  · rw [if_neg hj]
    have hne : (Lit.int .i64 (j : Int)).sameKey (.int .i64 (i : Int)) = false := by
      rw [Bool.eq_false_iff]
      intro h
      have := Go.WideAt.sameKey_eq h
      injection this with _ this
      omega
    rw [hne]
    simp
theorem flushTo_full {L : List Sec} {left : Lit → Bool} (h : ∀ s ∈ L, Full s) : ∀ s ∈ flushTo L left, Full s := by
  intro s hs
  obtain ⟨i, hi⟩ := List.getElem?_of_mem hs
  rw [flushTo_get] at hi
  cases hq : L[i]? with
  | none => rw [hq] at hi; cases hi
  | some x =>
    rw [hq] at hi
    have hx := h x (List.mem_of_getElem? hq)
    have hi := Option.some.inj hi
    subst hi
    split
    · exact hx
    · exact flushed_full hx
end Dsk
end Go.Proofs.YthadcmbbdggneaaGreatDoor
