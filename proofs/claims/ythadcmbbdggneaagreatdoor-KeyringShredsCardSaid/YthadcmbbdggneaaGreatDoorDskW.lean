/-
  What waits, told in order: the program's Waiting.
-/
import Derived.Test.YthadcmbbdggneaaGreatDoorDskAt
import Derived.Test.YthadcmbbdggneaaGreatDoorDskLays
namespace Go.Proofs.YthadcmbbdggneaaGreatDoor
open Go.RowKit Go.Maps Go.Sort Go.Shelf
set_option linter.unusedVariables false

theorem sorts_in (m : Nat) : AnyZI.SortsIn Tryz.prog lSorted_ren Fence.wide m :=
  ⟨fun blk off cap ss W hH hblk hsz => callsIn_wide.2 (AnyM.slices_Sort_int lSort blk off cap ss W hH hblk hsz),
   fun p cap W => callsIn_wide.2 (AnyM.slices_Sort_int_none lSort p cap W)⟩
theorem keys_any (mb : Option Nat) (w : World) :
    Calls Tryz.prog 42 #[.map mb] w fun e w' => e = .returned (.func (.func 51) #[] #[.pointer (some ⟨w.heap.size, 0, none⟩)]) ∧ w' = w.alloc (.cells #[.map mb] 73) :=
  (callsIn_wide (n := 5)).1 (AnyZI.keys_in lKeys Fence.wide 5 trivial rfl mb w)
theorem sorted_any {w : World} {Bm mb n : Nat} {D : DataW (Array Value)} (hB : w.cell? ⟨Bm, 0, none⟩ = some (.map (some mb))) (hlt : Bm < w.heap.size) (hown : w.ownsMap Tryz.prog 3 heldE mb n D) (hn : n ≤ 1000000000000) :
    Calls Tryz.prog 41 #[.func (.func 51) #[] #[.pointer (some ⟨Bm, 0, none⟩)]] w fun e w' => ∃ (v : Value) (ss : List Int), e = .returned v ∧ ss.Perm (intKeys D) ∧
      w'.ownsRow w.heap.size 3 1 v ss.length ((ss.mergeSort leI).map encZ) ∧ (v = .slice none 0 0 ↔ ss = []) ∧ Below w.heap.size w w' := by
  have hs := hown.size_le
  have hseq : SeqGives Fence.wide 2 Tryz.prog 51 #[.pointer (some ⟨Bm, 0, none⟩)] encZ (fun ss => ss.Perm (intKeys D)) (Maps.size D) w :=
    AnyZI.keys_gives (ρ := lKeys_ren) { lKeys with } Fence.wide _ trivial rfl (by omega) Bm mb n D w hlt hB hown
  exact (callsIn_wide (n := 5)).1 (AnyZI.sorted_in lSorted Fence.wide 5 trivial trivial trivial trivial rfl (by omega) (sorts_in _) (enters_of Tryz.func50 (by kernel_rfl) rfl) 51 #[.pointer (some ⟨Bm, 0, none⟩)] trivial (enters_of Tryz.func51 (by kernel_rfl) rfl) _ _ (by unfold maxLen; omega) (by omega) _ hseq)

/-- A slice v of the places ks, in a block that is new since size B. -/
def KeyRow (w : World) (B : Nat) (v : Value) (ks : List Nat) : Prop := w.ownsRow B 3 1 v ks.length (ks.map fun i : Nat => Value.int .i64 (i : Int))
def WaitsPost (w : World) (ks : List Nat) (e : Ending) (w' : World) : Prop := ∃ v, e = .returned v ∧ KeyRow w' w.heap.size v ks ∧ Below w.heap.size w w'

set_option maxHeartbeats 1000000 in
theorem waiting_any {w : World} {g bd mb : Nat} {d : Dsk.St} (h : DiskAt w g bd mb d) :
    Calls Tryz.prog 23 #[.pointer (some ⟨g, 0, none⟩)] w (WaitsPost w (Dsk.waits d.secs)) := by
  have hw := works_any h
  obtain ⟨l0, k0, t0, hc, _⟩ := h.cells
  obtain ⟨_, c1, _⟩ := cells9 hc
  obtain ⟨D, hown, hD⟩ := h.pend
  have hmost := h.most
  have hkeys := fun ss (hp : List.Perm ss (intKeys D)) => hD.keys hown (by omega) hp
  have hB := Has.made w 73 #[.map (some mb)]
  have hown1 : (w.alloc (.cells #[.map (some mb)] 73)).ownsMap Tryz.prog 3 heldE mb 8192 D := by
    obtain ⟨es, clock, h1, h2⟩ := hown
    exact ⟨es, clock, (Below.heap_alloc w _ mb (Array.getElem?_eq_some_iff.1 h1).1).trans h1, h2⟩
  have hs := sorted_any (Bm := w.heap.size) (hB.cell 0) hB.lt hown1 (by omega)
  have hk := fun W => keys_any (some mb) W
  have HW := Lib.hid hw; clear hw
  have HS := Lib.hid hs; clear hs
  have HK : Hid _ := hk; clear hk
  have HKEYS : Hid _ := hkeys
  clear hc hown hD hmost hkeys hown1 hB h
  generalize Dsk.waits d.secs = ks at HKEYS ⊢
  go_enter Tryz.func23, Tryz.ntmps23
  go_wp2_with fail
  refine HW.out.mono ?_
  rintro r w1 ⟨rfl, rfl⟩
  go_wp2_with fail
  refine (HK.out _).mono ?_
  rintro r w1 ⟨rfl, rfl⟩
  go_wp2_with fail
  refine HS.out.mono ?_
  rintro r w1 ⟨v, ss, rfl, hp, hrow, hnil, hb⟩
  go_wp2_with fail
  go_ret
  have he := HKEYS.out ss hp
  have hl : ss.length = ks.length := by
    have := congrArg List.length he
    rw [List.length_mergeSort, List.length_map] at this
    exact this
  refine ⟨v, rfl, ?_, ((Below.refl _ w).alloc (Nat.le_refl _) _).trans (hb.mono (by simp))⟩
  have hr : w1.ownsRow w.heap.size 3 1 v ss.length ((ss.mergeSort leI).map encZ) := ownsRow_base_a hrow (by simp)
  rw [he, hl, List.map_map] at hr
  exact hr
end Go.Proofs.YthadcmbbdggneaaGreatDoor
