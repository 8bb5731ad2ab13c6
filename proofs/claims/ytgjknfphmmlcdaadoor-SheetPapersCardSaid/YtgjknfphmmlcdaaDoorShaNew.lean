/-
  The contract of sha's New.
-/
import Derived.Test.YtgjknfphmmlcdaaDoorShaSpec
import Derived.Test.YtgjknfphmmlcdaaDoorHex
import Derived.Test.YtgjknfphmmlcdaaDoorMix
namespace Go.Proofs.YtgjknfphmmlcdaaDoor
open Go.RowKit
set_option linter.unusedVariables false

/-- The two tables lie in the program's first two blocks. -/
def Tabs (w : World) : Prop := (∀ i, i < 8 → w.cell? ⟨0, i, none⟩ = some (.int .u32 ((Sha.s0.toList.getD i 0).toNat : Int))) ∧ Tab Sha.kl w ∧ 2 ≤ w.heap.size
theorem Tabs.below {w w' : World} {B : Nat} (h : Tabs w) (hb : Below B w w') (hB : 2 ≤ B) : Tabs w' :=
  ⟨fun i hi => (hb.cell (p := ⟨0, i, none⟩) (show 0 < B by omega)).trans (h.1 i hi), h.2.1.below hb hB, Nat.le_trans h.2.2 hb.size⟩

def NewPost (w : World) (e : Ending) (w' : World) : Prop := e = .returned (.pointer (some ⟨w.heap.size, 0, none⟩)) ∧ StAt w' 124 w.heap.size [] 0 ∧ Below w.heap.size w w' ∧ w'.heap.size = w.heap.size + 1
theorem zero_state (W : World) : (zeroValue 124).run Tryd.prog W = .ok (.agg #[.int .u32 0, .int .u32 0, .int .u32 0, .int .u32 0, .int .u32 0, .int .u32 0, .int .u32 0, .int .u32 0, .int .u8 0, .int .u8 0, .int .u8 0, .int .u8 0, .int .u8 0, .int .u8 0, .int .u8 0, .int .u8 0, .int .u8 0, .int .u8 0, .int .u8 0, .int .u8 0, .int .u8 0, .int .u8 0, .int .u8 0, .int .u8 0, .int .u8 0, .int .u8 0, .int .u8 0, .int .u8 0, .int .u8 0, .int .u8 0, .int .u8 0, .int .u8 0, .int .u8 0, .int .u8 0, .int .u8 0, .int .u8 0, .int .u8 0, .int .u8 0, .int .u8 0, .int .u8 0, .int .u8 0, .int .u8 0, .int .u8 0, .int .u8 0, .int .u8 0, .int .u8 0, .int .u8 0, .int .u8 0, .int .u8 0, .int .u8 0, .int .u8 0, .int .u8 0, .int .u8 0, .int .u8 0, .int .u8 0, .int .u8 0, .int .u8 0, .int .u8 0, .int .u8 0, .int .u8 0, .int .u8 0, .int .u8 0, .int .u8 0, .int .u8 0, .int .u8 0, .int .u8 0, .int .u8 0, .int .u8 0, .int .u8 0, .int .u8 0, .int .u8 0, .int .u8 0, .int .i64 0, .bool false]) W := by kernel_rfl
set_option maxRecDepth 100000 in
set_option maxHeartbeats 2000000 in
theorem new_any (w : World) (hT : Tabs w) : Calls Tryd.prog 53 #[] w (NewPost w) := by
  have c0 : w.cell? ⟨0, 0, none⟩ = some (.int .u32 1779033703) := hT.1 0 (by decide)
  have c1 : w.cell? ⟨0, 1, none⟩ = some (.int .u32 3144134277) := hT.1 1 (by decide)
  have c2 : w.cell? ⟨0, 2, none⟩ = some (.int .u32 1013904242) := hT.1 2 (by decide)
  have c3 : w.cell? ⟨0, 3, none⟩ = some (.int .u32 2773480762) := hT.1 3 (by decide)
  have c4 : w.cell? ⟨0, 4, none⟩ = some (.int .u32 1359893119) := hT.1 4 (by decide)
  have c5 : w.cell? ⟨0, 5, none⟩ = some (.int .u32 2600822924) := hT.1 5 (by decide)
  have c6 : w.cell? ⟨0, 6, none⟩ = some (.int .u32 528734635) := hT.1 6 (by decide)
  have c7 : w.cell? ⟨0, 7, none⟩ = some (.int .u32 1541459225) := hT.1 7 (by decide)
  have hst : StAt (w.alloc (.cells (stc (Sha.hashN [] 0) (List.replicate 64 0) 0).toArray 124)) 124 w.heap.size [] 0 := ⟨List.replicate 64 0, by simp, Has.made _ _ _, rfl⟩
  have HST := Lib.hid hst; clear hst
  have hzv := zero_state
  go_enter Tryd.func53, Tryd.ntmps53
  go_wp2_with fail
  go_ret
  exact ⟨rfl, HST.out, (Below.refl _ _).alloc (Nat.le_refl _) _, by simp⟩

theorem stc_at (s : S8) (blk : List UInt8) (n : Nat) (h : blk.length = 64) : (stc s blk n).toArray[72]? = some (.int .i64 (n : Int)) ∧ (stc s blk n).toArray[73]? = some (.bool true) := by
  have h8 : (s.toList.map fun x => Value.int .u32 (x.toNat : Int)).length = 8 := by simp [S8.toList]
  have h64 : (bcells blk).length = 64 := by simp [bcells, h]
  constructor
  · rw [List.getElem?_toArray, stc, List.getElem?_append_right (by omega), h8, List.getElem?_append_right (by omega), h64]; rfl
  · rw [List.getElem?_toArray, stc, List.getElem?_append_right (by omega), h8, List.getElem?_append_right (by omega), h64]; rfl
theorem StAt.size {w : World} {T : TypeId} {g : Nat} {M : List UInt8} {t : Nat} (h : StAt w T g M t) : w.cell? ⟨g, 72, none⟩ = some (.int .i64 (t : Int)) ∧ w.cell? ⟨g, 73, none⟩ = some (.bool true) := by
  obtain ⟨blk, h1, h2, h3⟩ := h
  exact ⟨(h2.cell 72).trans (stc_at _ _ _ h1).1, (h2.cell 73).trans (stc_at _ _ _ h1).2⟩
end Go.Proofs.YtgjknfphmmlcdaaDoor
