/-
  A row of bytes that came of a text, and bytes appended to it: what may be frozen lies behind its capacity.
-/
import Derived.Test.YtbfomeifhmkpeaaDoorShaNum
import Derived.ArgAppend
namespace Go.Proofs.YtbfomeifhmkpeaaDoor
open Go.RowKit
set_option linter.unusedVariables false

def Tail (w : World) (B : Nat) (v : Value) (l : List UInt8) : Prop := ∃ g cap cur fr, v = .slice (some ⟨g, 0, none⟩) l.length cap ∧ B ≤ g ∧ w.heap[g]? = some (.cells cur 5 fr) ∧ (∀ i, i < cap → ¬ (fr.1 ≤ i ∧ i < fr.2)) ∧ l.length ≤ cap ∧ cap ≤ maxLen ∧ cur.size = cap ∧ cur.toList.take l.length = bcells l
theorem Tail.made (W : World) (l : List UInt8) (h : l.length ≤ maxLen) : Tail (bworld W 5 l) W.heap.size (.slice (some ⟨W.heap.size, 0, none⟩) l.length (bcap W 5 l)) l := by
  have hb : (bworld W 5 l).heap[W.heap.size]? = some (.cells (brow W 5 l) 5 ((brow W 5 l).size, (brow W 5 l).size + 1)) := by
    unfold bworld; exact heap_alloc_new W.drew _
  have hle := bcap_le W 5 l
  have hsz : (brow W 5 l).size = bcap W 5 l := by
    unfold brow bytesRow
    simp [S_size]
    show l.length + _ = _
    omega
  refine ⟨W.heap.size, _, _, _, rfl, Nat.le_refl _, hb, fun i hi => by rw [hsz]; omega, hle, grownCap_le_maxLen W l.length 0 5 h, hsz, ?_⟩
  unfold brow bytesRow bcells
  simp [S]
theorem Tail.lt {w : World} {B : Nat} {v : Value} {l : List UInt8} (h : Tail w B v l) : ∃ g cap, v = .slice (some ⟨g, 0, none⟩) l.length cap ∧ B ≤ g ∧ g < w.heap.size := by
  obtain ⟨g, cap, cur, fr, hv, hB, hg, _⟩ := h
  exact ⟨g, cap, hv, hB, (Array.getElem?_eq_some_iff.1 hg).1⟩
theorem Tail.cell {w : World} {B g cap : Nat} {l : List UInt8} (h : Tail w B (.slice (some ⟨g, 0, none⟩) l.length cap) l) (i : Nat) (hi : i < l.length) : w.cell? ⟨g, i, none⟩ = (bcells l)[i]? := by
  obtain ⟨g', cap', cur, fr, hv, hB, hg, hf, hl, hm, hs, ht⟩ := h
  simp only [Value.slice.injEq, Option.some.injEq, Addr.mk.injEq] at hv
  obtain ⟨⟨rfl, _⟩, _, rfl⟩ := hv
  simp only [World.cell?, hg]
  rw [← ht, List.getElem?_take, if_pos hi, Array.getElem?_toList]
  rfl
theorem Tail.bytes {w : World} {B g cap : Nat} {l : List UInt8} (h : Tail w B (.slice (some ⟨g, 0, none⟩) l.length cap) l) : Bytes w g (some ⟨g, 0, none⟩) l := fun _ => ⟨0, rfl, fun i hi => by rw [Nat.zero_add]; exact h.cell i hi⟩
theorem Tail.below {w w' : World} {B : Nat} {v : Value} {l : List UInt8} (h : Tail w B v l) (hb : Below w.heap.size w w') : Tail w' B v l := by
  obtain ⟨g, cap, cur, fr, hv, hB, hg, hr⟩ := h
  exact ⟨g, cap, cur, fr, hv, hB, (hb.block g (Array.getElem?_eq_some_iff.1 hg).1).trans hg, hr⟩
theorem bcells_snoc (l : List UInt8) (c : UInt8) : bcells (l ++ [c]) = bcells l ++ [.int .u8 (c.toNat : Int)] := by simp [bcells]

theorem tail_push {c : UInt8} (w : World) (B : Nat) (v : Value) (l : List UInt8) (h : Tail w B v l) (hB : B ≤ w.heap.size) (a : Addr) (ha : ∀ x : Addr, x = a.add 0 → w.cell? x = some (.int .u8 (c.toNat : Int))) (hl : l.length + 1 ≤ 100000000000000) (ty : TypeId) (cc : Nat) :
    ∃ v' w', (Builtin.append_ #[33, 33] ty #[v, .slice (some a) 1 cc]).run Tryd.prog w = .ok v' w' ∧ Tail w' B v' (l ++ [c]) ∧ Below B w w' := by
  obtain ⟨i0, hi, hz0, hz1, hz2⟩ := info_parts u8info
  obtain ⟨g, cap, cur, fr, rfl, hBg, hg, hf, hlc, hm, hs, ht⟩ := h
  have hnews : ∀ j u, [Value.int .u8 (c.toNat : Int)][j]? = some u → w.cell? (a.add j) = some u := by
    intro j u hu
    cases j with
    | zero => rw [ha _ rfl]; simpa using hu
    | succ j => simp at hu
  have hmx : (100000000000000 : Nat) ≤ maxLen := by decide
  by_cases hroom : l.length + 1 ≤ cap
  · have hcell : w.cell? ⟨g, l.length, none⟩ = cur[l.length]? := by simp [World.cell?, hg]
    have hcs : cur[l.length]? = some (cur[l.length]'(by omega)) := Array.getElem?_eq_getElem (by omega)
    have hfr : w.frozen? ⟨g, l.length, none⟩ = false := by
      have := hf l.length (by omega)
      obtain ⟨lo, hi'⟩ := fr
      simp only [World.frozen?, hg]
      simp only [not_and] at this
      by_cases hlo : lo ≤ l.length
      · have := this hlo; simp [hlo]; omega
      · simp [hlo]
    have hr := run_append_room_cells (P := Tryd.prog) w 33 ty 5 i0 Tryd.underlying33 hi g 0 l.length cap a 1 cc [.int .u8 (c.toNat : Int)] (by rw [hz1]; rfl) hnews (by simp [Value.oneCell']) hroom
      (fun j hj => by
        have : j = 0 := by simpa using hj
        subst this
        rw [hz1, show 0 + l.length * 1 + 0 = l.length by omega, hcell, hcs]; rfl)
      (fun j hj => by
        have : j = 0 := by simpa using hj
        subst this
        rw [hz1, show 0 + l.length * 1 + 0 = l.length by omega]; exact hfr)
    refine ⟨_, _, hr, ?_, ?_⟩
    · rw [hz1, show 0 + l.length * 1 = l.length by omega]
      refine ⟨g, cap, cur.setIfInBounds l.length (.int .u8 (c.toNat : Int)), fr, by rw [List.length_append]; rfl, hBg, ?_, hf, by rw [List.length_append]; exact hroom, hm, by simpa using hs, ?_⟩
      · simp [World.setCells, World.setCell, Array.getElem?_modify, hg]
      · have hcl : l.length < cur.toList.length := by simpa using (show l.length < cur.size by omega)
        rw [List.length_append, List.length_singleton, Array.toList_setIfInBounds, List.take_succ_eq_append_getElem (by rw [List.length_set]; exact hcl), List.take_set_of_le (Nat.le_refl _), List.getElem_set_self, ht, bcells_snoc]
    · rw [hz1, show 0 + l.length * 1 = l.length by omega]
      exact (Below.refl _ w).setCell (p := ⟨g, l.length, none⟩) hBg _
  · have holds : ∀ j u, (bcells l)[j]? = some u → w.cell? ((⟨g, 0, none⟩ : Addr).add j) = some u := by
      intro j u hu
      have hj : j < l.length := by have := (List.getElem?_eq_some_iff.1 hu).1; simpa [bcells] using this
      have hadd : (⟨g, 0, none⟩ : Addr).add j = ⟨g, j, none⟩ := by unfold Addr.add; split <;> simp_all
      rw [hadd]
      simp only [World.cell?, hg]
      rw [← hu, ← ht, List.getElem?_take, if_pos hj, Array.getElem?_toList]
      rfl
    have hr := run_append_grow (P := Tryd.prog) w 33 ty 5 i0 (.int .u8 0) Tryd.underlying33 hi hz0 ⟨g, 0, none⟩ l.length cap (bcells l) (by rw [hz1]; simp [bcells]) holds a 1 cc [.int .u8 (c.toNat : Int)] (by rw [hz1]; rfl) hnews (by omega) (by omega) (by rw [hz2]; exact growslice_fits (by omega) (by omega))
    have hge := grownCap_ge w (l.length + 1) cap 5
    refine ⟨_, _, hr, ?_, ?_⟩
    · refine ⟨w.heap.size, _, _, (0, 0), by rw [List.length_append]; rfl, hB, heap_alloc_new w.drew _, fun i hi => by simp, by rw [List.length_append]; exact hge, grownCap_le_maxLen w (l.length + 1) cap 5 (by omega), ?_, ?_⟩
      · have hz1' : (Value.int IntKind.u8 0).cells.size = 1 := rfl
        simp only [Array.size_append, List.size_toArray, size_zeroCells, hz1', bcells, List.length_map, List.length_singleton]
        omega
      · have hlen : (bcells l ++ [Value.int .u8 (c.toNat : Int)]).length = (l ++ [c]).length := by simp [bcells]
        simp only [Array.toList_append, List.append_assoc]
        rw [← List.append_assoc, ← hlen, List.take_left, bcells_snoc]
    · exact ((Below.refl _ w).drew).alloc hB _
end Go.Proofs.YtbfomeifhmkpeaaDoor
