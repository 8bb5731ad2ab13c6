/-
  A guard that a call has made itself, beside an array of ten numbers of its own.
-/
import Derived.Test.YtcgdjljfgjoliaaDoorGrdW
namespace Go.Proofs.YtcgdjljfgjoliaaDoor
open Go.RowKit
set_option linter.unusedVariables false

/-- Ten numbers' cells. -/
def suc (F : Nat → Nat) : Array Value := ((List.range 10).map fun j => Value.int .i64 (F j : Int)).toArray
def upd (F : Nat → Nat) (i v : Nat) : Nat → Nat := fun j => if j = i then v else F j
theorem suc_size (F : Nat → Nat) : (suc F).size = 10 := rfl
theorem suc_get (F : Nat → Nat) (i : Nat) (h : i < 10) : (suc F)[i]? = some (.int .i64 (F i : Int)) := by
  unfold suc
  rw [List.getElem?_toArray, List.getElem?_map, List.getElem?_range h]
  rfl
theorem suc_set (F : Nat → Nat) (i v : Nat) (h : i < 10) : (suc F).setIfInBounds i (.int .i64 (v : Int)) = suc (upd F i v) := by
  match i, h with
  | 0, _ => rfl
  | 1, _ => rfl
  | 2, _ => rfl
  | 3, _ => rfl
  | 4, _ => rfl
  | 5, _ => rfl
  | 6, _ => rfl
  | 7, _ => rfl
  | 8, _ => rfl
  | 9, _ => rfl
theorem upd_at (F : Nat → Nat) (i v : Nat) : upd F i v i = v := if_pos rfl
theorem upd_ne (F : Nat → Nat) {i j : Nat} (v : Nat) (h : j ≠ i) : upd F i v j = F j := if_neg h
structure WW (w0 W : World) (gg g bd mb su wr : Nat) (F : Nat → Nat) (d : Dsk.St) : Prop where
  gw : GW w0 W gg g bd mb 1 wr d
  sc : Has W su 51 (suc F)
  l0 : gg < su
  l1 : g < su
  l2 : bd < su
  l3 : mb < su
  lo : w0.heap.size ≤ su
theorem WW.below {w0 W W' : World} {gg g bd mb su wr : Nat} {F : Nat → Nat} {d : Dsk.St} (h : WW w0 W gg g bd mb su wr F d) (hb : Below W.heap.size W W') : WW w0 W' gg g bd mb su wr F d :=
  ⟨h.gw.below hb, h.sc.below hb h.sc.lt, h.l0, h.l1, h.l2, h.l3, h.lo⟩
theorem WW.mv {w0 W W' : World} {gg g bd mb su wr wr' : Nat} {F : Nat → Nat} {d d' : Dsk.St} (h : WW w0 W gg g bd mb su wr F d) (hg : GuardAt W' gg g bd mb 1 wr' d') (hm : Mv W W' [gg, g, bd, mb]) : WW w0 W' gg g bd mb su wr' F d' :=
  ⟨h.gw.mv hg hm, hm.has h.sc (by
    have h0 := h.l0
    have h1 := h.l1
    have h2 := h.l2
    have h3 := h.l3
    simp only [List.mem_cons, List.not_mem_nil, or_false]
    omega), h.l0, h.l1, h.l2, h.l3, h.lo⟩
theorem WW.mvd {w0 W W' : World} {gg g bd mb su wr : Nat} {F : Nat → Nat} {d d' : Dsk.St} (h : WW w0 W gg g bd mb su wr F d) (hg : GuardAt W' gg g bd mb 1 wr d') (hm : Mv W W' [g, bd, mb]) : WW w0 W' gg g bd mb su wr F d' :=
  h.mv hg (hm.wide (by simp))
theorem WW.dsk {w0 W W' : World} {gg g bd mb su wr : Nat} {F : Nat → Nat} {d d' : Dsk.St} (h : WW w0 W gg g bd mb su wr F d) (hd : DiskAt W' g bd mb d') (hm : Mv W W' [g, bd, mb]) : WW w0 W' gg g bd mb su wr F d' :=
  h.mvd (h.gw.at_.turn hd hm) hm
theorem WW.set {w0 W : World} {gg g bd mb su wr : Nat} {F : Nat → Nat} {d : Dsk.St} (h : WW w0 W gg g bd mb su wr F d) (i v : Nat) (hi : i < 10) : WW w0 (W.setCell ⟨su, i, none⟩ (.int .i64 (v : Int))) gg g bd mb su wr (upd F i v) d := by
  have ho := Only.set W su i (.int .i64 (v : Int))
  have hm : Mv W (W.setCell ⟨su, i, none⟩ (.int .i64 (v : Int))) [su] := Mv.of_only ho (by simp)
  have h0 := h.l0
  have h1 := h.l1
  have h2 := h.l2
  have h3 := h.l3
  have hga := h.gw.at_
  refine ⟨⟨⟨hm.has hga.cells (by simp; omega), hga.disk.mv hm (by simp; omega) (by simp; omega) (by simp; omega), hga.n1, hga.n2, hga.n3, hga.lo, hga.hi⟩, hm.below h.gw.bel h.gw.bel.size (by simp; exact h.lo), h.gw.lo⟩, ?_, h.l0, h.l1, h.l2, h.l3, h.lo⟩
  have := h.sc.set i (.int .i64 (v : Int))
  rw [suc_set F i v hi] at this
  exact this
end Go.Proofs.YtcgdjljfgjoliaaDoor
