/-
  A row of fields in memory, as the sort passes through it: loads, stores, the comparison.
-/
import Derived.Test.YtfcmkbeilpclmaaPapSpec
import Derived.Test.YtfcmkbeilpclmaaValC
import Derived.Test.YtfcmkbeilpclmaaSwap
import Derived.Shelf.SlSortCmp.InsertionK
import Derived.Deep.MidRow
import Derived.Lib.Bytealg
import Derived.Laws.Externs
namespace Go.Proofs.Ytfcmkbeilpclmaa
open Go.RowKit Go.Sort Go.Lib
open Go.Op (bytesLess)
set_option linter.unusedVariables false

theorem fldSize : (Try.prog.info? 58).map (·.size) = some 6 := by kernel_rfl
theorem fldInfo : (Try.prog.info? 58).map (fun i => (i.zero, i.size, i.bytes)) = some (some (.agg #[.string ⟨#[]⟩, .int .i64 0, .bool false, .int .i64 0, .int .u64 0, .string ⟨#[]⟩]), 6, 64) := by kernel_rfl

/-- The comparison of two names. -/
abbrev ncmp (x y : Fld) : Int := compareBytes x.name y.name
theorem ncmp_lt (a b : List UInt8) : compareBytes a b < 0 ↔ bytesLess a b = true := by
  induction a generalizing b with
  | nil => cases b <;> simp [compareBytes, bytesLess]
  | cons x a ih =>
    cases b with
    | nil => simp [compareBytes, bytesLess]
    | cons y b =>
      rw [compareBytes, bl_cons]
      by_cases h1 : x < y
      · simp [h1]
      · by_cases h2 : y < x
        · have hne : (x == y) = false := by
            rw [beq_eq_false_iff_ne]; rintro rfl; exact absurd h2 h1
          simp [h1, h2, hne]
        · have e : x = y := by
            rw [u8_eq]; rw [u8_lt] at h1 h2; omega
          subst e
          rw [if_neg h1, if_neg h2, ih]
          simp [h1]
theorem Fld.v_eq (n : List UInt8) (x : Val) : Fld.v ⟨n, x⟩ = .agg #[.string (S n), .int .i64 x.kind, .bool x.flag, .int .i64 x.int, .int .u64 (x.bits : Int), .string (S x.text)] := rfl

theorem holds_range {W : World} {blk off : Nat} {d : Array Fld} (h : HoldsK Fld.cs 6 W blk off d) (i : Nat) (hi : i < d.size) : W.rangeAt blk (off + i * 6) d[i]!.cs := by
  intro j v hv
  have hj : j < d[i]!.cs.length := (List.getElem?_eq_some_iff.1 hv).1
  have hc := (h.cell hi (c := j) (by rwa [Fld.cs_len] at hj)).1
  rw [hc]
  rw [List.getElem!_eq_getElem?_getD, hv]
  rfl
theorem holds_there {W : World} {blk off : Nat} {d : Array Fld} (h : HoldsK Fld.cs 6 W blk off d) (i : Nat) (hi : i < d.size) : W.there blk (off + i * 6) 6 := by
  intro j hj
  have hc := h.cell hi (c := j) hj
  exact ⟨by rw [hc.1]; rfl, hc.2⟩
/-- A world of the sort's. -/
abbrev SW (w : World) (blk off m : Nat) (d : Array Fld) (os : Array Obj) : World := sortWorldK Fld.cs 6 w blk off m d os

/-- What the exchange of p and q asks, and where it leads. -/
def SwapAt (W : World) (blk off p q : Nat) (cq cp : List Value) : Prop :=
  W.drew.rangeAt blk (off + q * 6) cq ∧ W.drew.rangeAt blk (off + p * 6) cp ∧ W.drew.there blk (off + p * 6) cq.toArray.size ∧ (W.drew.setCells blk (off + p * 6) cq.toArray.toList).there blk (off + q * 6) cp.toArray.size ∧
    (Try.prog.info? 58).map (·.size) = some cq.length ∧ (Try.prog.info? 58).map (·.size) = some cp.length ∧
    (Try.prog.info? 58).map (·.size) = some cq.toArray.size ∧ (Try.prog.info? 58).map (·.size) = some cp.toArray.size ∧ cq.toArray.all (·.oneCell') = true ∧ cp.toArray.all (·.oneCell') = true
theorem swap_facts {w : World} {blk off : Nat} {d0 : Array Fld} (hH : HoldsK Fld.cs 6 w blk off d0) (hblk : blk < w.heap.size) (m : Nat) (d : Array Fld) (os : Array Obj) (hs : d.size = d0.size) (p q : Nat) (hp : p < d0.size) (hq : q < d0.size) :
    SwapAt (SW w blk off m d os) blk off p q d[q]!.cs d[p]!.cs ∧
    ((SW w blk off m d os).drew.setCells blk (off + p * 6) d[q]!.cs.toArray.toList).setCells blk (off + q * 6) d[p]!.cs.toArray.toList = SW w blk off (m + 1) (swp d p q) os := by
  have h0 : HoldsK Fld.cs 6 (SW w blk off m d os) blk off d := holdsK_sortWorldK_c Fld.cs 6 w blk off d0 d _ _ hH hblk hs
  have hc : HoldsK Fld.cs 6 (SW w blk off m d os).drew blk off d := h0
  refine ⟨⟨holds_range hc q (by omega), holds_range hc p (by omega), holds_there hc p (by omega), World.there_setCells (holds_there hc q (by omega)) _ _ _, fldSize, fldSize, fldSize, fldSize, all_oneCell_toArray (Fld.cs_one _), all_oneCell_toArray (Fld.cs_one _)⟩, ?_⟩
  rw [List.toList_toArray, List.toList_toArray]
  exact sortWorldK_swp_c Fld.cs 6 w blk off Fld.cs_len m d os hblk p q (by omega) (by omega)

theorem cmp_cells {w : World} {blk off : Nat} {d0 : Array Fld} (hH : HoldsK Fld.cs 6 w blk off d0) (hblk : blk < w.heap.size) (m : Nat) (d : Array Fld) (os : Array Obj) (hs : d.size = d0.size) (i : Nat) (hi : i < d0.size) (n' : Nat) (os' : Array Obj) :
    (grow ((SW w blk off m d os).drewN n') os').cell? ⟨blk, off + i * 6, none⟩ = some (.string (S d[i]!.name)) ∧
    (grow ((SW w blk off m d os).drewN n') os').cell? ⟨blk, off + i * 6 + 1, none⟩ = some (.int .i64 d[i]!.val.kind) ∧
    (grow ((SW w blk off m d os).drewN n') os').cell? ⟨blk, off + i * 6 + 2, none⟩ = some (.bool d[i]!.val.flag) ∧
    (grow ((SW w blk off m d os).drewN n') os').cell? ⟨blk, off + i * 6 + 3, none⟩ = some (.int .i64 d[i]!.val.int) ∧
    (grow ((SW w blk off m d os).drewN n') os').cell? ⟨blk, off + i * 6 + 4, none⟩ = some (.int .u64 (d[i]!.val.bits : Int)) ∧
    (grow ((SW w blk off m d os).drewN n') os').cell? ⟨blk, off + i * 6 + 5, none⟩ = some (.string (S d[i]!.val.text)) := by
  have hc : HoldsK Fld.cs 6 (grow ((SW w blk off m d os).drewN n') os') blk off d := by
    rw [sortWorldK_grown_c]
    exact holdsK_sortWorldK_c Fld.cs 6 w blk off d0 d _ _ hH hblk hs
  exact ⟨(hc.cell (c := 0) (show i < d.size by omega) (by decide)).1, (hc.cell (c := 1) (show i < d.size by omega) (by decide)).1, (hc.cell (c := 2) (show i < d.size by omega) (by decide)).1, (hc.cell (c := 3) (show i < d.size by omega) (by decide)).1, (hc.cell (c := 4) (show i < d.size by omega) (by decide)).1, (hc.cell (c := 5) (show i < d.size by omega) (by decide)).1⟩
end Go.Proofs.Ytfcmkbeilpclmaa
