/-
  An own row of fields, as it grows. Out of XTidyMem.
-/
import Derived.Test.YtfcmkbeilpclmaaFind
import Derived.Laws.OwnMore
namespace Go.Proofs.Ytfcmkbeilpclmaa
open Go.RowKit Go.Sort Go.Lib
set_option linter.unusedVariables false

/-- The cells of fields. -/
def fl (l : List Fld) : List Value := l.flatMap Fld.cs
theorem fl_len (l : List Fld) : (fl l).length = l.length * 6 := by
  unfold fl
  induction l with
  | nil => rfl
  | cons x l ih => rw [List.flatMap_cons, List.length_append, ih, Fld.cs_len, List.length_cons]; omega
theorem fl_snoc (l : List Fld) (x : Fld) : fl (l ++ [x]) = fl l ++ x.cs := by simp [fl]
theorem fl_append (l m : List Fld) : fl (l ++ m) = fl l ++ fl m := by simp [fl]
theorem fl_one (l : List Fld) : ∀ u ∈ fl l, u.oneCell' = true := by
  intro u hu
  obtain ⟨x, _, hx⟩ := List.mem_flatMap.1 hu
  exact x.cs_one u hx
theorem fl_get (l : List Fld) : ∀ (i c : Nat) (hi : i < l.length), c < 6 → (fl l)[i * 6 + c]? = l[i].cs[c]? := by
  induction l with
  | nil => intro i c hi; cases hi
  | cons x l ih =>
    intro i c hi hc
    have e : fl (x :: l) = x.cs ++ fl l := by simp [fl]
    rw [e]
    cases i with
    | zero => rw [List.getElem?_append_left (by rw [Fld.cs_len]; omega)]; simp
    | succ i =>
      rw [List.getElem?_append_right (by rw [Fld.cs_len]; omega), Fld.cs_len, show (i + 1) * 6 + c - 6 = i * 6 + c by omega]
      simp only [List.getElem_cons_succ]
      exact ih i c (by simpa using hi) hc

theorem own_keep {w w' : World} {B e s n : Nat} {v : Value} {xs : List Value} (h : w.ownsRow B e s v n xs) (hk : ∀ k, v.ownBlock = some k → w'.heap[k]? = w.heap[k]?) : w'.ownsRow B e s v n xs := by
  refine ⟨h.1, ?_⟩
  rcases h.2 with hh | ⟨g, cap, cur, rfl, hB, hg, hr⟩
  · exact Or.inl hh
  · exact Or.inr ⟨g, cap, cur, rfl, hB, (hk g rfl).trans hg, hr⟩
/-- An own row, opened. -/
theorem own_fields {w : World} {B n : Nat} {v : Value} {L : List Fld} (h : w.ownsRow B 58 6 v n (fl L)) (hn : n = L.length) :
    (v = .slice none 0 0 ∧ L = []) ∨ ∃ g cap, v = .slice (some ⟨g, 0, none⟩) L.length cap ∧ B ≤ g ∧ g < w.heap.size ∧ HoldsK Fld.cs 6 w g 0 L.toArray := by
  subst hn
  rcases h.2 with ⟨rfl, h0⟩ | ⟨g, cap, cur, rfl, hB, hg, hr⟩
  · exact Or.inl ⟨rfl, List.eq_nil_of_length_eq_zero h0⟩
  · refine Or.inr ⟨g, cap, rfl, hB, (h.lt g rfl).2, ?_⟩
    intro t ht
    rw [size_flatK] at ht
    have ht' : t < L.length * 6 := by simpa using ht
    have h1 := h.cellAt t ht'
    have h2 := h.frozenAt t
    rw [Nat.zero_add]
    refine ⟨?_, h2⟩
    rw [h1, get_flatK _ _ _ t ht]
    have e := fl_get L (t / 6) (t % 6) (by omega) (Nat.mod_lt _ (by decide))
    rw [show t / 6 * 6 + t % 6 = t by omega] at e
    rw [e]
    have hq : L.toArray[t / 6]! = L[t / 6]'(by omega) := by
      rw [getElem!_pos L.toArray (t / 6) (by simpa using (show t / 6 < L.length by omega))]
      simp
    rw [hq]
    have h6 : t % 6 < (L[t / 6]'(by omega)).cs.length := by rw [Fld.cs_len]; exact Nat.mod_lt _ (by decide)
    rw [List.getElem?_eq_getElem h6, getElem!_pos (L[t / 6]'(by omega)).cs (t % 6) h6]
    rfl

theorem holds_fsl {W : World} {g : Nat} {L : List Fld} (h : HoldsK Fld.cs 6 W g 0 L.toArray) (hg : g < W.heap.size) : FSl W g (some ⟨g, 0, none⟩) L := fun _ => by
  refine ⟨0, rfl, hg, fun i hi => ?_⟩
  have hi' : i < L.toArray.size := by simpa using hi
  have hq : L.toArray[i]! = L[i] := by rw [getElem!_pos L.toArray i hi']; simp
  have hc := fun c hc => h.cell (i := i) (c := c) hi' hc
  rw [hq] at hc
  exact ⟨(hc 0 (by decide)).1, (hc 1 (by decide)).1, (hc 2 (by decide)).1, (hc 3 (by decide)).1, (hc 4 (by decide)).1, (hc 5 (by decide)).1⟩

end Go.Proofs.Ytfcmkbeilpclmaa
