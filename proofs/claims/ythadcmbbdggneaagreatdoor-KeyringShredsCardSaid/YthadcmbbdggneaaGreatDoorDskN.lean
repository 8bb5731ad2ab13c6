/-
  A new disk: the contract.
-/
import Derived.Test.YthadcmbbdggneaaGreatDoorDskAt
import Derived.Laws.MakeOwn
namespace Go.Proofs.YthadcmbbdggneaaGreatDoor
open Go.RowKit
set_option linter.unusedVariables false

theorem secInfo : ∃ i0 : TypeInfo, Tryz.prog.info? 87 = some i0 ∧ i0.zero = some (.agg (secV (List.replicate 64 0) 0)) ∧ i0.size = 65 ∧ i0.bytes = 72 := by
  have h : (Tryz.prog.info? 87).map (fun i => (i.zero, i.size, i.bytes)) = some (some (.agg (secV (List.replicate 64 0) 0)), 65, 72) := by kernel_rfl
  cases hq : Tryz.prog.info? 87 with
  | none => rw [hq] at h; cases h
  | some i0 =>
    rw [hq] at h
    injection h with h
    simp only [Prod.mk.injEq] at h
    exact ⟨i0, rfl, h.1, h.2.1, h.2.2⟩
theorem made_at (z : Array Value) (n i j : Nat) (hz : z.size = 65) (hi : i < n) (hj : j < 65) : (madeCells z (n * 65))[i * 65 + j]? = z[j]? := by
  unfold madeCells
  rw [Array.getElem?_map, Array.getElem?_range, if_pos (by omega)]
  have he : (i * 65 + j) % z.size = j := by rw [hz]; omega
  simp only [Option.map_some, he]
  rw [getElem!_pos z j (by omega), Array.getElem?_eq_getElem (by omega)]
theorem rows_made {w : World} {bd n : Nat} (h : Has w bd 87 (madeCells (secV (List.replicate 64 0) 0) (n * 65))) : Rows w bd (Dsk.fresh n).secs := by
  have hl : (Dsk.fresh n).secs.length = n := List.length_replicate
  refine ⟨_, h, by rw [size_madeCells, hl], fun i s hs => ?_⟩
  have hi : i < n := by rw [← hl]; exact (List.getElem?_eq_some_iff.1 hs).1
  have hs' : s = ⟨List.replicate 64 0, 0, none⟩ := by
    have : (List.replicate n (⟨List.replicate 64 0, 0, none⟩ : Dsk.Sec))[i]? = some s := hs
    rw [List.getElem?_replicate, if_pos hi] at this
    injection this with this
    exact this.symm
  subst hs'
  dsimp only
  intro j v hv
  have hsz := secVals_len (s := List.replicate 64 (0 : UInt8)) (a := 0) List.length_replicate
  have hj : j < 65 := by have := (List.getElem?_eq_some_iff.1 hv).1; omega
  rw [h.cell, made_at _ n i j (secV_size List.length_replicate) hi hj, List.getElem?_toArray]
  exact hv
theorem run_make_disk (n : Nat) (hn : n ≤ 8192) (W : World) : (Instr.makeSlice 72 (.int .i64 (n : Int)) (.int .i64 (n : Int))).run Tryz.prog W = .ok (.slice (some ⟨W.heap.size, 0, none⟩) n n) (W.alloc (.cells (madeCells (secV (List.replicate 64 0) 0) (n * 65)) 87)) := by
  obtain ⟨i0, h1, h2, h3, h4⟩ := secInfo
  have h := run_make (P := Tryz.prog) W 72 87 i0 _ Tryz.underlying72 h1 h2 .i64 .i64 (n : Int) (n : Int) (by omega) (by omega) (by rw [h4]; omega) (by omega)
  rw [h3, Int.toNat_natCast] at h
  exact h

def NewDPost (w : World) (n : Nat) (e : Ending) (w' : World) : Prop :=
  ∃ g bd mb, e = .returned (.tuple #[.pointer (some ⟨g, 0, none⟩), .int .i64 0]) ∧ DiskAt w' g bd mb (Dsk.fresh n) ∧ Below w.heap.size w w' ∧ w.heap.size ≤ g ∧ w.heap.size ≤ bd ∧ w.heap.size ≤ mb
set_option maxRecDepth 100000 in
set_option maxHeartbeats 1000000 in
theorem newd_any (n : Nat) (h0 : 0 < n) (hn : n ≤ 8192) (w : World) : Calls Tryz.prog 7 #[.int .i64 (n : Int)] w (NewDPost w n) := by
  have hmk := fun W => run_make_disk n hn W
  have hrow := fun (W : World) (bd : Nat) (h : Has W bd 87 (madeCells (secV (List.replicate 64 0) 0) (n * 65))) => rows_made h
  generalize madeCells (secV (List.replicate 64 0) 0) (n * 65) = M at hmk hrow
  have HROW : Hid _ := hrow; clear hrow
  have hmm := @run_makeMap Tryz.prog
  have n0 : (1 : Int) ≤ (n : Int) := by omega
  have n1 : (n : Int) ≤ 8192 := by omega
  go_enter Tryz.func7, Tryz.ntmps7
  go_wp2_with fail
  go_ret2
  have e0 : (Dsk.fresh n).secs.length = n := List.length_replicate
  obtain ⟨W1, hW1⟩ : ∃ W1, w.alloc (.cells M 87) = W1 := ⟨_, rfl⟩
  have s1 : W1.heap.size = w.heap.size + 1 := by rw [← hW1]; exact asize _ _
  have hb1 : Has W1 w.heap.size 87 M := by rw [← hW1]; exact Has.made _ _ _
  have hm2 := Pend.made W1
  rw [s1] at hm2
  obtain ⟨W2, hW2⟩ : ∃ W2, W1.alloc (.map #[] 0) = W2 := ⟨_, rfl⟩
  have s2 : W2.heap.size = w.heap.size + 1 + 1 := by rw [← hW2, asize, s1]
  have hb2 : Has W2 w.heap.size 87 M := by rw [← hW2]; exact hb1.of_alloc _
  rw [hW2] at hm2
  obtain ⟨C, hC⟩ : ∃ C, dskCells w.heap.size (w.heap.size + 1) n true 0 0 0 0 0 false = C := ⟨_, rfl⟩
  have hfin : NewDPost w n (.returned (.tuple #[.pointer (some ⟨w.heap.size + 1 + 1, 0, none⟩), .int .i64 0])) (W2.alloc (.cells C 77)) := by
    have hg := Has.made W2 77 C
    rw [s2, ← hC] at hg
    rw [← hC]
    have hb3 := hb2.of_alloc (.cells (dskCells w.heap.size (w.heap.size + 1) n true 0 0 0 0 0 false) 77)
    have hm3 : Pend (W2.alloc (.cells (dskCells w.heap.size (w.heap.size + 1) n true 0 0 0 0 0 false) 77)) (w.heap.size + 1) 0 (fun _ => none) := hm2.keep (Below.heap_alloc W2 _ _ hm2.lt)
    refine ⟨w.heap.size + 1 + 1, w.heap.size, w.heap.size + 1, rfl, ⟨⟨0, 0, 0, ?_, fun n' f' e => by cases e⟩, HROW.out _ _ hb3, ?_, Dsk.fresh_good n, by omega, by omega, by omega, by rw [e0]; exact h0, by rw [e0]; exact hn⟩, ?_, by omega, Nat.le_refl _, by omega⟩
    · rw [e0]; exact hg
    · refine (hm3.mono (Nat.zero_le _)).same fun x => ?_
      exact Dsk.pendI_none (fun s hs => by rw [(List.mem_replicate.1 hs).2]) x
    · rw [← hW2, ← hW1]
      exact (((Below.refl _ w).alloc (Nat.le_refl _) _).alloc (by simp) _).alloc (by simp; omega) _
  rw [← hC, ← hW2, ← hW1] at hfin
  exact hfin
theorem newd_bad (i : Int) (h : i < 1 ∨ 8192 < i) (w : World) : Calls Tryz.prog 7 #[.int .i64 i] w fun e w' => e = .returned (.tuple #[.pointer none, .int .i64 1]) ∧ w = w' := by
  by_cases h1 : i < 1
  · go_enter Tryz.func7, Tryz.ntmps7
    go_wp2_with fail
    go_ret2
    exact ⟨rfl, rfl⟩
  · have h2 : 8192 < i := by omega
    go_enter Tryz.func7, Tryz.ntmps7
    go_wp2_with fail
    go_ret2
    exact ⟨rfl, rfl⟩
end Go.Proofs.YthadcmbbdggneaaGreatDoor
