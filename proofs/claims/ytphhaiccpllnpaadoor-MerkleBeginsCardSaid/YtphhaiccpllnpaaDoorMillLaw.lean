/-
  The contracts of the third layer's statements' own few, right, sum.
-/
import Derived.Test.YtphhaiccpllnpaaDoorMillTag
import Derived.Test.YtphhaiccpllnpaaDoorMillAwake
namespace Go.Proofs.YtphhaiccpllnpaaDoor
open Go.RowKit
set_option linter.unusedVariables false

/-- A slice that reads as entries. -/
def Ents (w : World) (A : Option Addr) (l : List Mill.En) : Prop := l ≠ [] → ∃ b off, A = some ⟨b, off, none⟩ ∧ ∀ (i : Nat) (h : i < l.length),
  w.cell? ⟨b, off + i * 4, none⟩ = some (.bool (l[i]'h).tag) ∧ w.cell? ⟨b, off + i * 4 + 1, none⟩ = some (.string (S (l[i]'h).key)) ∧ w.cell? ⟨b, off + i * 4 + 2, none⟩ = some (.string (S (l[i]'h).text)) ∧ w.cell? ⟨b, off + i * 4 + 3, none⟩ = some (.string (S (l[i]'h).out))
theorem Ents.below {w w' : World} {A : Option Addr} {l : List Mill.En} (h : Ents w A l) (hb : Below w.heap.size w w') : Ents w' A l := fun hl => by
  obtain ⟨b, off, hA, hc⟩ := h hl
  have hlt : b < w.heap.size := World.block_lt_of_cell? w ⟨b, off + 0 * 4, none⟩ (hc 0 (List.length_pos_iff.2 hl)).1
  refine ⟨b, off, hA, fun i hi => ?_⟩
  obtain ⟨h0, h1, h2, h3⟩ := hc i hi
  exact ⟨(hb.cell (p := ⟨b, _, none⟩) hlt).trans h0, (hb.cell (p := ⟨b, _, none⟩) hlt).trans h1, (hb.cell (p := ⟨b, _, none⟩) hlt).trans h2, (hb.cell (p := ⟨b, _, none⟩) hlt).trans h3⟩
theorem Ents.take {w : World} {A : Option Addr} {l : List Mill.En} (h : Ents w A l) (k : Nat) : Ents w A (l.take k) := fun hl => by
  obtain ⟨b, off, hA, hc⟩ := h (by rintro rfl; simp at hl)
  refine ⟨b, off, hA, fun i hi => ?_⟩
  have hi' : i < l.length := by rw [List.length_take] at hi; omega
  rw [List.getElem_take]
  exact hc i hi'
/-- The bounds of what is read. -/
def Mill.fit (l : List Mill.En) : Prop := ∀ e ∈ l, e.key.length ≤ 1000000000000000 ∧ e.text.length ≤ 1000000000000000

theorem right_take (l : List Mill.En) (i : Nat) (h : i < l.length) : Mill.right (l.take (i + 1)) = (Mill.right (l.take i) && decide ((l[i]'h).out.length = 32)) := by
  unfold Mill.right
  rw [List.take_succ_eq_append_getElem h, List.all_append]; simp
theorem right_bad (l : List Mill.En) (i : Nat) (h : i < l.length) (hb : (l[i]'h).out.length ≠ 32) : Mill.right l = false := by
  unfold Mill.right
  rw [List.all_eq_false]
  exact ⟨l[i], List.getElem_mem h, by simpa using hb⟩

theorem ask_more (l : List Mill.En) (x : Mill.In) (k : Nat) (o : List UInt8) (h : Mill.ask (l.take k) x = some o) : Mill.ask l x = some o := by
  unfold Mill.ask at *
  have e : l = l.take k ++ l.drop k := (List.take_append_drop k l).symm
  rw [e, List.find?_append]
  cases hf : (l.take k).find? (fun e => e.inp = x) with
  | none => rw [hf] at h; simp at h
  | some y => rw [hf] at h; simpa using h
theorem ask_take (l : List Mill.En) (x : Mill.In) (i : Nat) (hi : i < l.length) (h : Mill.ask (l.take i) x = none) : Mill.ask (l.take (i + 1)) x = if (l[i]'hi).inp = x then some (l[i]'hi).out else none := by
  rw [List.take_succ_eq_append_getElem hi, Mill.ask_snoc, h]; simp

end Go.Proofs.YtphhaiccpllnpaaDoor
