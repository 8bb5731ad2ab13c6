/-
  A heap of dues in a block, its queue in another.
-/
import Derived.Test.YtjmdpepghnhpkaaDueA
import Derived.Test.YtjmdpepghnhpkaaMv
import Derived.Deep.MidRow
namespace Go.Proofs.Ytjmdpepghnhpkaa
open Go.RowKit
set_option linter.unusedVariables false

/-- Block q is a queue whose slice lies at the head of block B and reads as h. -/
structure HAt (w : World) (q B : Nat) (h : List Du) (cap : Nat) : Prop where
  ne : q ≠ B
  qh : Has w q 32 #[.slice (some ⟨B, 0, none⟩) h.length cap]
  row : ∃ cur : Array Value, Has w B 34 cur ∧ cur.size = cap * 2 ∧ ∀ i (hi : i < h.length), cur[i * 2]? = some (.int .i64 h[i].seq) ∧ cur[i * 2 + 1]? = some (.int .i64 h[i].due)
  le : h.length ≤ cap
  cm : cap ≤ 9223372036854775807
theorem HAt.cells {w : World} {q B cap : Nat} {h : List Du} (H : HAt w q B h cap) (i : Nat) (hi : i < h.length) : w.cell? ⟨B, i * 2, none⟩ = some (.int .i64 h[i].seq) ∧ w.cell? ⟨B, i * 2 + 1, none⟩ = some (.int .i64 h[i].due) := by
  obtain ⟨cur, hh, _, hc⟩ := H.row
  obtain ⟨h1, h2⟩ := hc i hi
  exact ⟨(hh.cell _).trans h1, (hh.cell _).trans h2⟩
theorem HAt.range {w : World} {q B cap : Nat} {h : List Du} (H : HAt w q B h cap) (i : Nat) (hi : i < h.length) : w.rangeAt B (i * 2) h[i].cs := fun j v hv => by
  obtain ⟨h1, h2⟩ := H.cells i hi
  unfold Du.cs at hv
  match j, hv with
  | 0, hv => injection hv with hv; rw [← hv]; exact h1
  | 1, hv => injection hv with hv; rw [← hv]; exact h2
theorem HAt.there {w : World} {q B cap : Nat} {h : List Du} (H : HAt w q B h cap) (i : Nat) (hi : i < h.length) : w.there B (i * 2) 2 := by
  obtain ⟨cur, hh, hs, _⟩ := H.row
  exact hh.there (by have := H.le; omega)
theorem HAt.slice {w : World} {q B cap : Nat} {h : List Du} (H : HAt w q B h cap) : w.cell? ⟨q, 0, none⟩ = some (.slice (some ⟨B, 0, none⟩) h.length cap) := H.qh.cell 0
theorem HAt.mv {w w' : World} {q B cap : Nat} {h : List Du} {s : List Nat} (H : HAt w q B h cap) (hm : Mv w w' s) (h1 : q ∉ s) (h2 : B ∉ s) : HAt w' q B h cap := by
  obtain ⟨cur, hh, hs, hc⟩ := H.row
  exact ⟨H.ne, (hm.block q H.qh.lt h1).trans H.qh, ⟨cur, (hm.block B hh.lt h2).trans hh, hs, hc⟩, H.le, H.cm⟩
theorem HAt.below {w w' : World} {q B cap : Nat} {h : List Du} (H : HAt w q B h cap) (hb : Below w.heap.size w w') : HAt w' q B h cap := H.mv (Mv.of_below hb []) (by simp) (by simp)
theorem HAt.lt {w : World} {q B cap : Nat} {h : List Du} (H : HAt w q B h cap) : q < w.heap.size ∧ B < w.heap.size := by
  obtain ⟨cur, hh, _, _⟩ := H.row
  exact ⟨H.qh.lt, hh.lt⟩
/-- A due is written. -/
theorem HAt.put {w : World} {q B cap : Nat} {h : List Du} (H : HAt w q B h cap) (i : Nat) (hi : i < h.length) (d : Du) : HAt (w.setCells B (i * 2) d.cs) q B (h.set i d) cap := by
  obtain ⟨cur, hh, hs, hc⟩ := H.row
  have hh2 : Has (w.setCells B (i * 2) d.cs) B 34 ((cur.setIfInBounds (i * 2) (.int .i64 d.seq)).setIfInBounds (i * 2 + 1) (.int .i64 d.due)) := (hh.set _ _).set _ _
  refine ⟨H.ne, ?_, ⟨_, hh2, by rw [Array.size_setIfInBounds, Array.size_setIfInBounds, hs], fun k hk => ?_⟩, by rw [List.length_set]; exact H.le, H.cm⟩
  · rw [List.length_set]
    exact ((Mv.of_only (only_setCells B _ _ w) (s := [B]) (by simp)).block q H.qh.lt (by simpa using H.ne)).trans H.qh
  · rw [List.length_set] at hk
    have hle := H.le
    obtain ⟨k1, k2⟩ := hc k hk
    rw [List.getElem_set]
    by_cases hki : i = k
    · subst hki
      rw [if_pos rfl]
      constructor
      · rw [Array.getElem?_setIfInBounds_ne (by omega), Array.getElem?_setIfInBounds_self_of_lt (by omega)]
      · rw [Array.getElem?_setIfInBounds_self_of_lt (by rw [Array.size_setIfInBounds]; omega)]
    · rw [if_neg hki]
      constructor
      · rw [Array.getElem?_setIfInBounds_ne (by omega), Array.getElem?_setIfInBounds_ne (by omega)]; exact k1
      · rw [Array.getElem?_setIfInBounds_ne (by omega), Array.getElem?_setIfInBounds_ne (by omega)]; exact k2
theorem HAt.swap {w : World} {q B cap : Nat} {h : List Du} (H : HAt w q B h cap) {i j : Nat} (hi : i < h.length) (hj : j < h.length) : HAt ((w.setCells B (i * 2) (Du.g h j).cs).setCells B (j * 2) (Du.g h i).cs) q B (Du.sw h i j) cap :=
  (H.put i hi _).put j (by rw [List.length_set]; exact hj) _
end Go.Proofs.Ytjmdpepghnhpkaa
