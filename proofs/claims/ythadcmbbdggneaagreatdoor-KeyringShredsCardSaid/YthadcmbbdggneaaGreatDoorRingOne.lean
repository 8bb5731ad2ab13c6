/-
  RingOne: the texts RingA, RingB, RingC, RingD in one.
-/
import Derived.Test.YthadcmbbdggneaaGreatDoorGrdN
import Derived.Test.YthadcmbbdggneaaGreatDoorKeyPures
import Derived.Test.YthadcmbbdggneaaGreatDoorQuiet
import Derived.Deep.RegionHeld3
import Derived.Test.YthadcmbbdggneaaGreatDoorGrdNone
import Derived.Test.YthadcmbbdggneaaGreatDoorDskFillL
import Derived.Deep.LoopGhost
namespace Go.Proofs.YthadcmbbdggneaaGreatDoor
open Go.RowKit
set_option linter.unusedVariables false

/-- Block rb is a ring of so many slots from the sector base on, over the guard in block gg; sh slots were shredded. -/
structure RingAt (w : World) (rb gg g bd mb boot wr base slots sh : Nat) (d : Dsk.St) : Prop where
  cells : Has w rb 66 #[.pointer (some ⟨gg, 0, none⟩), .int .i64 (base : Int), .int .i64 (slots : Int), .int .i64 (sh : Int)]
  grd : GuardAt w gg g bd mb boot wr d
  n0 : rb ≠ gg
  n1 : rb ≠ g
  n2 : rb ≠ bd
  n3 : rb ≠ mb
  s1 : 1 ≤ slots
  s2 : slots ≤ 64
  fit : base + slots ≤ 1000000
section
variable {w w' : World} {rb gg g bd mb boot wr wr' base slots sh : Nat} {d d' : Dsk.St}
theorem RingAt.below (h : RingAt w rb gg g bd mb boot wr base slots sh d) (hb : Below w.heap.size w w') : RingAt w' rb gg g bd mb boot wr base slots sh d :=
  ⟨h.cells.below hb h.cells.lt, h.grd.below hb, h.n0, h.n1, h.n2, h.n3, h.s1, h.s2, h.fit⟩
theorem RingAt.put (h : RingAt w rb gg g bd mb boot wr base slots sh d) (hd : GuardAt w' gg g bd mb boot wr' d') (hm : Mv w w' [gg, g, bd, mb]) : RingAt w' rb gg g bd mb boot wr' base slots sh d' :=
  ⟨hm.has h.cells (by simp [h.n0, h.n1, h.n2, h.n3]), hd, h.n0, h.n1, h.n2, h.n3, h.s1, h.s2, h.fit⟩
theorem RingAt.turn (h : RingAt w rb gg g bd mb boot wr base slots sh d) (hd : GuardAt w' gg g bd mb boot wr' d') (hm : Mv w w' [g, bd, mb]) : RingAt w' rb gg g bd mb boot wr' base slots sh d' :=
  h.put hd (hm.wide (by simp))
theorem RingAt.cs (h : RingAt w rb gg g bd mb boot wr base slots sh d) :
    w.cell? ⟨rb, 0, none⟩ = some (.pointer (some ⟨gg, 0, none⟩)) ∧ w.cell? ⟨rb, 1, none⟩ = some (.int .i64 (base : Int)) ∧ w.cell? ⟨rb, 2, none⟩ = some (.int .i64 (slots : Int)) ∧ w.cell? ⟨rb, 3, none⟩ = some (.int .i64 (sh : Int)) :=
  ⟨by rw [h.cells.cell]; rfl, by rw [h.cells.cell]; rfl, by rw [h.cells.cell]; rfl, by rw [h.cells.cell]; rfl⟩
theorem RingAt.lt (h : RingAt w rb gg g bd mb boot wr base slots sh d) : ∀ k ∈ [rb, gg, g, bd, mb], k < w.heap.size := by
  obtain ⟨l1, l2, l3⟩ := h.grd.disk.lt
  have l4 := h.grd.cells.lt
  have l5 := h.cells.lt
  intro k hk
  simp only [List.mem_cons, List.not_mem_nil, or_false] at hk
  omega
/-- One more was shredded. -/
theorem RingAt.count (h : RingAt w rb gg g bd mb boot wr base slots sh d) : RingAt (w.setCell ⟨rb, 3, none⟩ (.int .i64 ((sh : Int) + 1))) rb gg g bd mb boot wr base slots (sh + 1) d ∧ Mv w (w.setCell ⟨rb, 3, none⟩ (.int .i64 ((sh : Int) + 1))) [rb, gg, g, bd, mb] := by
  have hm : Mv w (w.setCell ⟨rb, 3, none⟩ (.int .i64 ((sh : Int) + 1))) [rb] := Mv.of_only (Only.set w rb 3 (.int .i64 ((sh : Int) + 1))) (by simp)
  have hc := h.cells.set 3 (.int .i64 ((sh : Int) + 1))
  have e : ((sh + 1 : Nat) : Int) = (sh : Int) + 1 := by omega
  refine ⟨⟨by rw [e]; exact hc, ⟨hm.has h.grd.cells (by simp [h.n0.symm]), h.grd.disk.mv hm (by simp [h.n1.symm]) (by simp [h.n2.symm]) (by simp [h.n3.symm]), h.grd.n1, h.grd.n2, h.grd.n3, h.grd.lo, h.grd.hi⟩, h.n0, h.n1, h.n2, h.n3, h.s1, h.s2, h.fit⟩, hm.wide (by simp)⟩

set_option maxRecDepth 100000
theorem rworks_any (h : RingAt w rb gg g bd mb boot wr base slots sh d) :
    Calls Tryz.prog 38 #[.pointer (some ⟨rb, 0, none⟩)] w fun r w' => r = .returned (.bool true) ∧ w = w' := by
  obtain ⟨c0, _⟩ := h.cs
  clear h
  go_enter Tryz.func38, Tryz.ntmps38
  go_wp2_with fail
  go_ret
  exact ⟨rfl, rfl⟩
theorem raccess_in (h : RingAt w rb gg g bd mb boot wr base slots sh d) {i : Nat} (hi : i < slots) :
    Calls Tryz.prog 39 #[.pointer (some ⟨rb, 0, none⟩), .int .i64 (i : Int)] w fun r w' => r = .returned (.int .i64 0) ∧ w = w' := by
  obtain ⟨_, _, c2, _⟩ := h.cs
  have HW := Lib.hid (rworks_any h)
  have h0 : ¬ (i : Int) < 0 := by omega
  have h1 : ¬ (slots : Int) ≤ (i : Int) := by omega
  clear h
  go_enter Tryz.func39, Tryz.ntmps39
  go_wp2_with fail
  refine HW.out.mono ?_
  rintro r w1 ⟨rfl, rfl⟩
  go_wp2_with fail
  go_ret
  exact ⟨rfl, rfl⟩
theorem raccess_out (h : RingAt w rb gg g bd mb boot wr base slots sh d) {i : Int} (hi : i < 0 ∨ (slots : Int) ≤ i) :
    Calls Tryz.prog 39 #[.pointer (some ⟨rb, 0, none⟩), .int .i64 i] w fun r w' => r = .returned (.int .i64 5) ∧ w = w' := by
  obtain ⟨_, _, c2, _⟩ := h.cs
  have HW := Lib.hid (rworks_any h)
  clear h
  by_cases h0 : i < 0
  · clear hi
    go_enter Tryz.func39, Tryz.ntmps39
    go_wp2_with fail
    refine HW.out.mono ?_
    rintro r w1 ⟨rfl, rfl⟩
    go_wp2_with fail
    go_ret
    exact ⟨rfl, rfl⟩
  · have h1 : (slots : Int) ≤ i := by omega
    clear hi
    go_enter Tryz.func39, Tryz.ntmps39
    go_wp2_with fail
    refine HW.out.mono ?_
    rintro r w1 ⟨rfl, rfl⟩
    go_wp2_with fail
    go_ret
    exact ⟨rfl, rfl⟩
theorem rup_any (h : RingAt w rb gg g bd mb boot wr base slots sh d) :
    Calls Tryz.prog 43 #[.pointer (some ⟨rb, 0, none⟩)] w fun r w' => r = .returned (.bool d.up) ∧ w = w' := by
  obtain ⟨c0, _⟩ := h.cs
  have HD := Lib.hid (gdisk_any h.grd)
  have HU := Lib.hid (up_any h.grd.disk)
  clear h
  generalize d.up = u at *
  go_enter Tryz.func43, Tryz.ntmps43
  go_wp2_with fail
  refine HD.out.mono ?_
  rintro r w1 ⟨rfl, rfl⟩
  go_wp2_with fail
  refine HU.out.mono ?_
  rintro r w1 ⟨rfl, rfl⟩
  go_wp2_with fail
  go_ret
  exact ⟨rfl, rfl⟩
theorem rslots_any (h : RingAt w rb gg g bd mb boot wr base slots sh d) :
    Calls Tryz.prog 21 #[.pointer (some ⟨rb, 0, none⟩)] w fun r w' => r = .returned (.int .i64 (slots : Int)) ∧ w = w' := by
  obtain ⟨_, _, c2, _⟩ := h.cs
  have HW := Lib.hid (rworks_any h)
  clear h
  go_enter Tryz.func21, Tryz.ntmps21
  go_wp2_with fail
  refine HW.out.mono ?_
  rintro r w1 ⟨rfl, rfl⟩
  go_wp2_with fail
  go_ret
  exact ⟨rfl, rfl⟩
theorem rshreds_any (h : RingAt w rb gg g bd mb boot wr base slots sh d) :
    Calls Tryz.prog 32 #[.pointer (some ⟨rb, 0, none⟩)] w fun r w' => r = .returned (.int .i64 (sh : Int)) ∧ w = w' := by
  obtain ⟨_, _, _, c3⟩ := h.cs
  have HW := Lib.hid (rworks_any h)
  clear h
  go_enter Tryz.func32, Tryz.ntmps32
  go_wp2_with fail
  refine HW.out.mono ?_
  rintro r w1 ⟨rfl, rfl⟩
  go_wp2_with fail
  go_ret
  exact ⟨rfl, rfl⟩
theorem rfree_any (h : RingAt w rb gg g bd mb boot wr base slots sh d) {i : Nat} (hi : i < slots) :
    Calls Tryz.prog 22 #[.pointer (some ⟨rb, 0, none⟩), .int .i64 (i : Int)] w fun e w' => e = .returned (.bool ((Grd.read d ((base + i : Nat) : Int)).2.2 == 7)) ∧ Below w.heap.size w w' := by
  have HC : Hid (∀ W, Below w.heap.size w W → W.cell? ⟨rb, 0, none⟩ = some (.pointer (some ⟨gg, 0, none⟩)) ∧ W.cell? ⟨rb, 1, none⟩ = some (.int .i64 (base : Int))) := Lib.hid (fun W hb => ⟨(h.below hb).cs.1, (h.below hb).cs.2.1⟩)
  have HA : Hid (∀ W, Below w.heap.size w W → Calls Tryz.prog 39 #[.pointer (some ⟨rb, 0, none⟩), .int .i64 (i : Int)] W fun e w' => e = .returned (.int .i64 0) ∧ Below W.heap.size W w') :=
    Lib.hid (fun W hb => (raccess_in (h.below hb) hi).mono (fun e w' ⟨he, hw⟩ => ⟨he, hw ▸ Below.refl _ _⟩))
  have hfit := h.fit
  have hcast : ((base + i : Nat) : Int) = (base : Int) + (i : Int) := by omega
  have hsum : IntKind.i64.wrap ((base : Int) + (i : Int)) = (base : Int) + (i : Int) := by rw [IntKind.wrap_i64]; omega
  have HB : Hid (∀ W, Below w.heap.size w W → Calls Tryz.prog 40 #[.pointer (some ⟨gg, 0, none⟩), .int .i64 ((base : Int) + (i : Int))] W fun e w' => e = .returned (.bool ((Grd.read d ((base + i : Nat) : Int)).2.2 == 7)) ∧ Below W.heap.size W w') := Lib.hid (fun W hb => by
    have hq := gblank_any (h.below hb).grd ((base + i : Nat) : Int)
    rw [hcast] at hq ⊢
    exact hq)
  generalize ((Grd.read d ((base + i : Nat) : Int)).2.2 == 7) = q at *
  clear h hfit hi hcast
  go_enter Tryz.func22, Tryz.ntmps22
  go_upto_region 1 with fail
  refine wp_region_grew (w0 := w) (by kernel_rfl) (by kernel_rfl) (Below.refl _ _) ?_
  refine wpQuiet_step (fun K hK => ?_)
  go_simp
  apply Exists.intro
  refine ⟨fun W hW => ?_, hK _ ?_⟩
  · have c9 := HC.out W hW.bel; obtain ⟨c8, c7⟩ := c9
    go_simp
    first | done | rfl
  clear hK K
  refine wpQuiet_step (fun K hK => ?_)
  go_simp
  apply Exists.intro
  refine ⟨fun W hW => ?_, hK _ ?_⟩
  · have c9 := HC.out W hW.bel; obtain ⟨c8, c7⟩ := c9
    go_simp
    first | done | rfl
  clear hK K
  refine wpQuiet_step (fun K hK => ?_)
  go_simp
  apply Exists.intro
  refine ⟨fun W hW => ?_, hK _ ?_⟩
  · exact Calls.grew_of hW (HA.out W hW.bel)
  clear hK K
  refine wpQuiet_step (fun K hK => ?_)
  go_simp
  apply Exists.intro
  refine ⟨fun W hW => ?_, hK _ ?_⟩
  · have c9 := HC.out W hW.bel; obtain ⟨c8, c7⟩ := c9
    go_simp
    first | done | rfl
  clear hK K
  refine wpQuiet_step (fun K hK => ?_)
  go_simp
  apply Exists.intro
  refine ⟨fun W hW => ?_, hK _ ?_⟩
  · have c9 := HC.out W hW.bel; obtain ⟨c8, c7⟩ := c9
    go_simp
    first | done | rfl
  clear hK K
  refine wpQuiet_step (fun K hK => ?_)
  go_simp
  apply Exists.intro
  refine ⟨fun W hW => ?_, hK _ ?_⟩
  · have c9 := HC.out W hW.bel; obtain ⟨c8, c7⟩ := c9
    go_simp
    first | done | rfl
  clear hK K
  refine wpQuiet_step (fun K hK => ?_)
  go_simp
  apply Exists.intro
  refine ⟨fun W hW => ?_, hK _ ?_⟩
  · have c9 := HC.out W hW.bel; obtain ⟨c8, c7⟩ := c9
    go_simp
    first | done | rfl
  clear hK K
  refine wpQuiet_step (fun K hK => ?_)
  go_simp
  apply Exists.intro
  refine ⟨fun W hW => ?_, hK _ ?_⟩
  · have c9 := HC.out W hW.bel; obtain ⟨c8, c7⟩ := c9
    go_simp
    first | done | rfl
  clear hK K
  refine wpQuiet_step (fun K hK => ?_)
  go_simp
  apply Exists.intro
  refine ⟨fun W hW => ?_, hK _ ?_⟩
  · have c9 := HC.out W hW.bel; obtain ⟨c8, c7⟩ := c9
    go_simp
    first | done | rfl
  clear hK K
  refine wpQuiet_step (fun K hK => ?_)
  go_simp
  apply Exists.intro
  refine ⟨fun W hW => ?_, hK _ ?_⟩
  · have c9 := HC.out W hW.bel; obtain ⟨c8, c7⟩ := c9
    go_simp
    first | done | rfl
  clear hK K
  refine wpQuiet_step (fun K hK => ?_)
  go_simp
  apply Exists.intro
  refine ⟨fun W hW => ?_, hK _ ?_⟩
  · have c9 := HC.out W hW.bel; obtain ⟨c8, c7⟩ := c9
    go_simp
    first | done | rfl
  clear hK K
  refine wpQuiet_step (fun K hK => ?_)
  go_simp
  apply Exists.intro
  refine ⟨fun W hW => ?_, hK _ ?_⟩
  · have c9 := HC.out W hW.bel; obtain ⟨c8, c7⟩ := c9
    go_simp
    first | done | rfl
  clear hK K
  refine wpQuiet_step (fun K hK => ?_)
  go_simp
  apply Exists.intro
  refine ⟨fun W hW => ?_, hK _ ?_⟩
  · have c9 := HC.out W hW.bel; obtain ⟨c8, c7⟩ := c9
    go_simp
    first | done | rfl
  clear hK K
  refine wpQuiet_step (fun K hK => ?_)
  go_simp
  apply Exists.intro
  refine ⟨fun W hW => ?_, hK _ ?_⟩
  · have c9 := HC.out W hW.bel; obtain ⟨c8, c7⟩ := c9
    go_simp
    first | done | rfl
  clear hK K
  refine wpQuiet_step (fun K hK => ?_)
  go_simp
  apply Exists.intro
  refine ⟨fun W hW => ?_, hK _ ?_⟩
  · have c9 := HC.out W hW.bel; obtain ⟨c8, c7⟩ := c9
    go_simp
    first | done | rfl
  clear hK K
  refine wpQuiet_step (fun K hK => ?_)
  go_simp
  apply Exists.intro
  refine ⟨fun W hW => ?_, hK _ ?_⟩
  · exact Calls.grew_of hW (HB.out W hW.bel)
  clear hK K
  refine wpQuiet_step (fun K hK => ?_)
  go_simp
  apply Exists.intro
  refine ⟨fun W hW => ?_, hK _ ?_⟩
  · have c9 := HC.out W hW.bel; obtain ⟨c8, c7⟩ := c9
    go_simp
    first | done | rfl
  clear hK K
  refine wpQuiet_step (fun K hK => ?_)
  go_simp
  apply Exists.intro
  refine ⟨fun W hW => ?_, hK _ ?_⟩
  · have c9 := HC.out W hW.bel; obtain ⟨c8, c7⟩ := c9
    go_simp
    first | done | rfl
  clear hK K
  refine wpQuiet_nil ?_
  intro W2 hW2
  have HF := Lib.hid hW2.bel
  clear hW2
  go_wp2_with fail
  go_ret
  exact ⟨rfl, HF.out⟩
theorem rfree_out (h : RingAt w rb gg g bd mb boot wr base slots sh d) {i : Int} (hi : i < 0 ∨ (slots : Int) ≤ i) :
    Calls Tryz.prog 22 #[.pointer (some ⟨rb, 0, none⟩), .int .i64 i] w fun e w' => e = .returned (.bool false) ∧ Below w.heap.size w w' := by
  have HA : Hid (∀ n, Calls Tryz.prog 39 #[.pointer (some ⟨rb, 0, none⟩), .int .i64 i] (w.drewN n) fun e w' => e = .returned (.int .i64 5) ∧ w' = w.drewN n) :=
    Lib.hid (fun n => (raccess_out (h.below (below_drewN (Below.refl _ w) n)) hi).mono (fun e w' ⟨he, hw⟩ => ⟨he, hw.symm⟩))
  have HB : Hid (∀ n, Below w.heap.size w (w.drewN n)) := Lib.hid (fun n => below_drewN (Below.refl _ w) n)
  clear h hi
  go_enter Tryz.func22, Tryz.ntmps22
  go_upto_region 1 with fail
  go_quiet (exact Calls.quiet_of_same (HA.out _))
  go_wp2_with fail
  go_ret
  exact ⟨rfl, HB.out _⟩
end
/-! what is told of a slot -/
section
variable {w w' : World} {rb gg g bd mb boot wr wr' base slots sh : Nat} {d d' : Dsk.St}
set_option maxRecDepth 100000
set_option maxHeartbeats 4000000 in
theorem rget_any (h : RingAt w rb gg g bd mb boot wr base slots sh d) {i : Nat} (hi : i < slots) :
    Calls Tryz.prog 29 #[.pointer (some ⟨rb, 0, none⟩), .int .i64 (i : Int)] w fun e w' => e = .returned (.tuple #[.string (S (Ring.got (Grd.read d ((base + i : Nat) : Int))).1), .int .i64 (Ring.got (Grd.read d ((base + i : Nat) : Int))).2]) ∧ Below w.heap.size w w' := by
  have HC : Hid (∀ W, Below w.heap.size w W → W.cell? ⟨rb, 0, none⟩ = some (.pointer (some ⟨gg, 0, none⟩)) ∧ W.cell? ⟨rb, 1, none⟩ = some (.int .i64 (base : Int))) := Lib.hid (fun W hb => ⟨(h.below hb).cs.1, (h.below hb).cs.2.1⟩)
  have HA := Lib.hid (raccess_in h hi)
  have hfit := h.fit
  have hcast : ((base + i : Nat) : Int) = (base : Int) + (i : Int) := by omega
  have hsum : IntKind.i64.wrap ((base : Int) + (i : Int)) = (base : Int) + (i : Int) := by rw [IntKind.wrap_i64]; omega
  have HB : Hid (∀ W, Below w.heap.size w W → Calls Tryz.prog 48 #[.pointer (some ⟨gg, 0, none⟩), .int .i64 ((base : Int) + (i : Int))] W (GReadPost W (Grd.read d ((base : Int) + (i : Int))))) := Lib.hid (fun W hb => by
    have hq := gget_any (h.below hb).grd ((base + i : Nat) : Int)
    rw [hcast] at hq
    exact hq)
  rw [hcast]
  generalize Grd.read d ((base : Int) + (i : Int)) = q at *
  obtain ⟨t, st, c⟩ := q
  unfold GReadPost at HB
  have hg : Ring.got (t, st, c) = if c ≠ 0 then ([], c) else if t.length ≠ 32 then ([], 17) else (t, 0) := rfl
  generalize Ring.got (t, st, c) = res at hg ⊢
  dsimp only at HB
  clear h hfit hi hcast
  by_cases h0 : c = 0
  · subst h0
    rw [if_neg (by simp)] at hg
    by_cases ht : t.length = 32
    · rw [if_neg (by simp [ht])] at hg
      subst hg
      have ht1 : ((t.length : Int) != 32) = false := by rw [ht]; rfl
      have ht2 : ((t.length : Int) == 32) = true := by rw [ht]; rfl
      clear ht
      go_enter Tryz.func29, Tryz.ntmps29
      go_wp2_with fail
      refine HA.out.mono ?_
      rintro r w1 ⟨rfl, rfl⟩
      go_upto_region 4 with fail
      refine wp_region_grew (w0 := w) (by kernel_rfl) (by kernel_rfl) (Below.refl _ _) ?_
      refine wpQuiet_step (fun K hK => ?_)
      go_simp
      apply Exists.intro
      refine ⟨fun W hW => ?_, hK _ ?_⟩
      · have c9 := HC.out W hW.bel; obtain ⟨c8, c7⟩ := c9
        go_simp
        first | done | rfl
      clear hK K
      refine wpQuiet_step (fun K hK => ?_)
      go_simp
      apply Exists.intro
      refine ⟨fun W hW => ?_, hK _ ?_⟩
      · have c9 := HC.out W hW.bel; obtain ⟨c8, c7⟩ := c9
        go_simp
        first | done | rfl
      clear hK K
      refine wpQuiet_step (fun K hK => ?_)
      go_simp
      apply Exists.intro
      refine ⟨fun W hW => ?_, hK _ ?_⟩
      · have c9 := HC.out W hW.bel; obtain ⟨c8, c7⟩ := c9
        go_simp
        first | done | rfl
      clear hK K
      refine wpQuiet_step (fun K hK => ?_)
      go_simp
      apply Exists.intro
      refine ⟨fun W hW => ?_, hK _ ?_⟩
      · have c9 := HC.out W hW.bel; obtain ⟨c8, c7⟩ := c9
        go_simp
        first | done | rfl
      clear hK K
      refine wpQuiet_step (fun K hK => ?_)
      go_simp
      apply Exists.intro
      refine ⟨fun W hW => ?_, hK _ ?_⟩
      · have c9 := HC.out W hW.bel; obtain ⟨c8, c7⟩ := c9
        go_simp
        first | done | rfl
      clear hK K
      refine wpQuiet_step (fun K hK => ?_)
      go_simp
      apply Exists.intro
      refine ⟨fun W hW => ?_, hK _ ?_⟩
      · have c9 := HC.out W hW.bel; obtain ⟨c8, c7⟩ := c9
        go_simp
        first | done | rfl
      clear hK K
      refine wpQuiet_step (fun K hK => ?_)
      go_simp
      apply Exists.intro
      refine ⟨fun W hW => ?_, hK _ ?_⟩
      · have c9 := HC.out W hW.bel; obtain ⟨c8, c7⟩ := c9
        go_simp
        first | done | rfl
      clear hK K
      refine wpQuiet_step (fun K hK => ?_)
      go_simp
      apply Exists.intro
      refine ⟨fun W hW => ?_, hK _ ?_⟩
      · have c9 := HC.out W hW.bel; obtain ⟨c8, c7⟩ := c9
        go_simp
        first | done | rfl
      clear hK K
      refine wpQuiet_step (fun K hK => ?_)
      go_simp
      apply Exists.intro
      refine ⟨fun W hW => ?_, hK _ ?_⟩
      · have c9 := HC.out W hW.bel; obtain ⟨c8, c7⟩ := c9
        go_simp
        first | done | rfl
      clear hK K
      refine wpQuiet_step (fun K hK => ?_)
      go_simp
      apply Exists.intro
      refine ⟨fun W hW => ?_, hK _ ?_⟩
      · have c9 := HC.out W hW.bel; obtain ⟨c8, c7⟩ := c9
        go_simp
        first | done | rfl
      clear hK K
      refine wpQuiet_step (fun K hK => ?_)
      go_simp
      apply Exists.intro
      refine ⟨fun W hW => ?_, hK _ ?_⟩
      · exact Calls.grew_of hW (HB.out W hW.bel)
      clear hK K
      refine wpQuiet_step (fun K hK => ?_)
      go_simp
      apply Exists.intro
      refine ⟨fun W hW => ?_, hK _ ?_⟩
      · have c9 := HC.out W hW.bel; obtain ⟨c8, c7⟩ := c9
        go_simp
        first | done | rfl
      clear hK K
      refine wpQuiet_step (fun K hK => ?_)
      go_simp
      apply Exists.intro
      refine ⟨fun W hW => ?_, hK _ ?_⟩
      · have c9 := HC.out W hW.bel; obtain ⟨c8, c7⟩ := c9
        go_simp
        first | done | rfl
      clear hK K
      refine wpQuiet_step (fun K hK => ?_)
      go_simp
      apply Exists.intro
      refine ⟨fun W hW => ?_, hK _ ?_⟩
      · have c9 := HC.out W hW.bel; obtain ⟨c8, c7⟩ := c9
        go_simp
        first | done | rfl
      clear hK K
      refine wpQuiet_step (fun K hK => ?_)
      go_simp
      apply Exists.intro
      refine ⟨fun W hW => ?_, hK _ ?_⟩
      · have c9 := HC.out W hW.bel; obtain ⟨c8, c7⟩ := c9
        go_simp
        first | done | rfl
      clear hK K
      refine wpQuiet_step (fun K hK => ?_)
      go_simp
      apply Exists.intro
      refine ⟨fun W hW => ?_, hK _ ?_⟩
      · have c9 := HC.out W hW.bel; obtain ⟨c8, c7⟩ := c9
        go_simp
        first | done | rfl
      clear hK K
      refine wpQuiet_step (fun K hK => ?_)
      go_simp
      apply Exists.intro
      refine ⟨fun W hW => ?_, hK _ ?_⟩
      · have c9 := HC.out W hW.bel; obtain ⟨c8, c7⟩ := c9
        go_simp
        first | done | rfl
      clear hK K
      refine wpQuiet_step (fun K hK => ?_)
      go_simp
      apply Exists.intro
      refine ⟨fun W hW => ?_, hK _ ?_⟩
      · have c9 := HC.out W hW.bel; obtain ⟨c8, c7⟩ := c9
        go_simp
        first | done | rfl
      clear hK K
      refine wpQuiet_nil ?_
      intro W2 hW2
      have HF := Lib.hid hW2.bel
      clear hW2
      go_wp2_with fail
      go_ret2
      exact ⟨rfl, HF.out⟩
    · rw [if_pos ht] at hg
      subst hg
      have ht1 : ((t.length : Int) != 32) = true := by rw [bne_iff_ne]; omega
      have ht2 : ((t.length : Int) == 32) = false := by rw [beq_eq_false_iff_ne]; omega
      clear ht
      go_enter Tryz.func29, Tryz.ntmps29
      go_wp2_with fail
      refine HA.out.mono ?_
      rintro r w1 ⟨rfl, rfl⟩
      go_upto_region 4 with fail
      refine wp_region_grew (w0 := w) (by kernel_rfl) (by kernel_rfl) (Below.refl _ _) ?_
      refine wpQuiet_step (fun K hK => ?_)
      go_simp
      apply Exists.intro
      refine ⟨fun W hW => ?_, hK _ ?_⟩
      · have c9 := HC.out W hW.bel; obtain ⟨c8, c7⟩ := c9
        go_simp
        first | done | rfl
      clear hK K
      refine wpQuiet_step (fun K hK => ?_)
      go_simp
      apply Exists.intro
      refine ⟨fun W hW => ?_, hK _ ?_⟩
      · have c9 := HC.out W hW.bel; obtain ⟨c8, c7⟩ := c9
        go_simp
        first | done | rfl
      clear hK K
      refine wpQuiet_step (fun K hK => ?_)
      go_simp
      apply Exists.intro
      refine ⟨fun W hW => ?_, hK _ ?_⟩
      · have c9 := HC.out W hW.bel; obtain ⟨c8, c7⟩ := c9
        go_simp
        first | done | rfl
      clear hK K
      refine wpQuiet_step (fun K hK => ?_)
      go_simp
      apply Exists.intro
      refine ⟨fun W hW => ?_, hK _ ?_⟩
      · have c9 := HC.out W hW.bel; obtain ⟨c8, c7⟩ := c9
        go_simp
        first | done | rfl
      clear hK K
      refine wpQuiet_step (fun K hK => ?_)
      go_simp
      apply Exists.intro
      refine ⟨fun W hW => ?_, hK _ ?_⟩
      · have c9 := HC.out W hW.bel; obtain ⟨c8, c7⟩ := c9
        go_simp
        first | done | rfl
      clear hK K
      refine wpQuiet_step (fun K hK => ?_)
      go_simp
      apply Exists.intro
      refine ⟨fun W hW => ?_, hK _ ?_⟩
      · have c9 := HC.out W hW.bel; obtain ⟨c8, c7⟩ := c9
        go_simp
        first | done | rfl
      clear hK K
      refine wpQuiet_step (fun K hK => ?_)
      go_simp
      apply Exists.intro
      refine ⟨fun W hW => ?_, hK _ ?_⟩
      · have c9 := HC.out W hW.bel; obtain ⟨c8, c7⟩ := c9
        go_simp
        first | done | rfl
      clear hK K
      refine wpQuiet_step (fun K hK => ?_)
      go_simp
      apply Exists.intro
      refine ⟨fun W hW => ?_, hK _ ?_⟩
      · have c9 := HC.out W hW.bel; obtain ⟨c8, c7⟩ := c9
        go_simp
        first | done | rfl
      clear hK K
      refine wpQuiet_step (fun K hK => ?_)
      go_simp
      apply Exists.intro
      refine ⟨fun W hW => ?_, hK _ ?_⟩
      · have c9 := HC.out W hW.bel; obtain ⟨c8, c7⟩ := c9
        go_simp
        first | done | rfl
      clear hK K
      refine wpQuiet_step (fun K hK => ?_)
      go_simp
      apply Exists.intro
      refine ⟨fun W hW => ?_, hK _ ?_⟩
      · have c9 := HC.out W hW.bel; obtain ⟨c8, c7⟩ := c9
        go_simp
        first | done | rfl
      clear hK K
      refine wpQuiet_step (fun K hK => ?_)
      go_simp
      apply Exists.intro
      refine ⟨fun W hW => ?_, hK _ ?_⟩
      · exact Calls.grew_of hW (HB.out W hW.bel)
      clear hK K
      refine wpQuiet_step (fun K hK => ?_)
      go_simp
      apply Exists.intro
      refine ⟨fun W hW => ?_, hK _ ?_⟩
      · have c9 := HC.out W hW.bel; obtain ⟨c8, c7⟩ := c9
        go_simp
        first | done | rfl
      clear hK K
      refine wpQuiet_step (fun K hK => ?_)
      go_simp
      apply Exists.intro
      refine ⟨fun W hW => ?_, hK _ ?_⟩
      · have c9 := HC.out W hW.bel; obtain ⟨c8, c7⟩ := c9
        go_simp
        first | done | rfl
      clear hK K
      refine wpQuiet_step (fun K hK => ?_)
      go_simp
      apply Exists.intro
      refine ⟨fun W hW => ?_, hK _ ?_⟩
      · have c9 := HC.out W hW.bel; obtain ⟨c8, c7⟩ := c9
        go_simp
        first | done | rfl
      clear hK K
      refine wpQuiet_step (fun K hK => ?_)
      go_simp
      apply Exists.intro
      refine ⟨fun W hW => ?_, hK _ ?_⟩
      · have c9 := HC.out W hW.bel; obtain ⟨c8, c7⟩ := c9
        go_simp
        first | done | rfl
      clear hK K
      refine wpQuiet_step (fun K hK => ?_)
      go_simp
      apply Exists.intro
      refine ⟨fun W hW => ?_, hK _ ?_⟩
      · have c9 := HC.out W hW.bel; obtain ⟨c8, c7⟩ := c9
        go_simp
        first | done | rfl
      clear hK K
      refine wpQuiet_step (fun K hK => ?_)
      go_simp
      apply Exists.intro
      refine ⟨fun W hW => ?_, hK _ ?_⟩
      · have c9 := HC.out W hW.bel; obtain ⟨c8, c7⟩ := c9
        go_simp
        first | done | rfl
      clear hK K
      refine wpQuiet_step (fun K hK => ?_)
      go_simp
      apply Exists.intro
      refine ⟨fun W hW => ?_, hK _ ?_⟩
      · have c9 := HC.out W hW.bel; obtain ⟨c8, c7⟩ := c9
        go_simp
        first | done | rfl
      clear hK K
      refine wpQuiet_nil ?_
      intro W2 hW2
      have HF := Lib.hid hW2.bel
      clear hW2
      go_wp2_with fail
      go_ret2
      exact ⟨rfl, HF.out⟩
  · rw [if_pos h0] at hg
    subst hg
    have h1 : (c == 0) = false := by rw [beq_eq_false_iff_ne]; exact h0
    have h2 : (c != 0) = true := by rw [bne_iff_ne]; exact h0
    clear h0
    go_enter Tryz.func29, Tryz.ntmps29
    go_wp2_with fail
    refine HA.out.mono ?_
    rintro r w1 ⟨rfl, rfl⟩
    go_upto_region 4 with fail
    refine wp_region_grew (w0 := w) (by kernel_rfl) (by kernel_rfl) (Below.refl _ _) ?_
    refine wpQuiet_step (fun K hK => ?_)
    go_simp
    apply Exists.intro
    refine ⟨fun W hW => ?_, hK _ ?_⟩
    · have c9 := HC.out W hW.bel; obtain ⟨c8, c7⟩ := c9
      go_simp
      first | done | rfl
    clear hK K
    refine wpQuiet_step (fun K hK => ?_)
    go_simp
    apply Exists.intro
    refine ⟨fun W hW => ?_, hK _ ?_⟩
    · have c9 := HC.out W hW.bel; obtain ⟨c8, c7⟩ := c9
      go_simp
      first | done | rfl
    clear hK K
    refine wpQuiet_step (fun K hK => ?_)
    go_simp
    apply Exists.intro
    refine ⟨fun W hW => ?_, hK _ ?_⟩
    · have c9 := HC.out W hW.bel; obtain ⟨c8, c7⟩ := c9
      go_simp
      first | done | rfl
    clear hK K
    refine wpQuiet_step (fun K hK => ?_)
    go_simp
    apply Exists.intro
    refine ⟨fun W hW => ?_, hK _ ?_⟩
    · have c9 := HC.out W hW.bel; obtain ⟨c8, c7⟩ := c9
      go_simp
      first | done | rfl
    clear hK K
    refine wpQuiet_step (fun K hK => ?_)
    go_simp
    apply Exists.intro
    refine ⟨fun W hW => ?_, hK _ ?_⟩
    · have c9 := HC.out W hW.bel; obtain ⟨c8, c7⟩ := c9
      go_simp
      first | done | rfl
    clear hK K
    refine wpQuiet_step (fun K hK => ?_)
    go_simp
    apply Exists.intro
    refine ⟨fun W hW => ?_, hK _ ?_⟩
    · have c9 := HC.out W hW.bel; obtain ⟨c8, c7⟩ := c9
      go_simp
      first | done | rfl
    clear hK K
    refine wpQuiet_step (fun K hK => ?_)
    go_simp
    apply Exists.intro
    refine ⟨fun W hW => ?_, hK _ ?_⟩
    · have c9 := HC.out W hW.bel; obtain ⟨c8, c7⟩ := c9
      go_simp
      first | done | rfl
    clear hK K
    refine wpQuiet_step (fun K hK => ?_)
    go_simp
    apply Exists.intro
    refine ⟨fun W hW => ?_, hK _ ?_⟩
    · have c9 := HC.out W hW.bel; obtain ⟨c8, c7⟩ := c9
      go_simp
      first | done | rfl
    clear hK K
    refine wpQuiet_step (fun K hK => ?_)
    go_simp
    apply Exists.intro
    refine ⟨fun W hW => ?_, hK _ ?_⟩
    · have c9 := HC.out W hW.bel; obtain ⟨c8, c7⟩ := c9
      go_simp
      first | done | rfl
    clear hK K
    refine wpQuiet_step (fun K hK => ?_)
    go_simp
    apply Exists.intro
    refine ⟨fun W hW => ?_, hK _ ?_⟩
    · have c9 := HC.out W hW.bel; obtain ⟨c8, c7⟩ := c9
      go_simp
      first | done | rfl
    clear hK K
    refine wpQuiet_step (fun K hK => ?_)
    go_simp
    apply Exists.intro
    refine ⟨fun W hW => ?_, hK _ ?_⟩
    · exact Calls.grew_of hW (HB.out W hW.bel)
    clear hK K
    refine wpQuiet_step (fun K hK => ?_)
    go_simp
    apply Exists.intro
    refine ⟨fun W hW => ?_, hK _ ?_⟩
    · have c9 := HC.out W hW.bel; obtain ⟨c8, c7⟩ := c9
      go_simp
      first | done | rfl
    clear hK K
    refine wpQuiet_step (fun K hK => ?_)
    go_simp
    apply Exists.intro
    refine ⟨fun W hW => ?_, hK _ ?_⟩
    · have c9 := HC.out W hW.bel; obtain ⟨c8, c7⟩ := c9
      go_simp
      first | done | rfl
    clear hK K
    refine wpQuiet_step (fun K hK => ?_)
    go_simp
    apply Exists.intro
    refine ⟨fun W hW => ?_, hK _ ?_⟩
    · have c9 := HC.out W hW.bel; obtain ⟨c8, c7⟩ := c9
      go_simp
      first | done | rfl
    clear hK K
    refine wpQuiet_step (fun K hK => ?_)
    go_simp
    apply Exists.intro
    refine ⟨fun W hW => ?_, hK _ ?_⟩
    · have c9 := HC.out W hW.bel; obtain ⟨c8, c7⟩ := c9
      go_simp
      first | done | rfl
    clear hK K
    refine wpQuiet_step (fun K hK => ?_)
    go_simp
    apply Exists.intro
    refine ⟨fun W hW => ?_, hK _ ?_⟩
    · have c9 := HC.out W hW.bel; obtain ⟨c8, c7⟩ := c9
      go_simp
      first | done | rfl
    clear hK K
    refine wpQuiet_step (fun K hK => ?_)
    go_simp
    apply Exists.intro
    refine ⟨fun W hW => ?_, hK _ ?_⟩
    · have c9 := HC.out W hW.bel; obtain ⟨c8, c7⟩ := c9
      go_simp
      first | done | rfl
    clear hK K
    refine wpQuiet_step (fun K hK => ?_)
    go_simp
    apply Exists.intro
    refine ⟨fun W hW => ?_, hK _ ?_⟩
    · have c9 := HC.out W hW.bel; obtain ⟨c8, c7⟩ := c9
      go_simp
      first | done | rfl
    clear hK K
    refine wpQuiet_nil ?_
    intro W2 hW2
    have HF := Lib.hid hW2.bel
    clear hW2
    go_wp2_with fail
    go_ret2
    exact ⟨rfl, HF.out⟩
end
end Go.Proofs.YthadcmbbdggneaaGreatDoor

namespace Go.Proofs.YthadcmbbdggneaaGreatDoor
open Go.RowKit
set_option linter.unusedVariables false

/-- A call that hands back a code, and turns the disk. -/
def RPost (w : World) (rb gg g bd mb boot base slots : Nat) (c : Int) (wr sh : Nat) (d : Dsk.St) (e : Ending) (w' : World) : Prop :=
  e = .returned (.int .i64 c) ∧ RingAt w' rb gg g bd mb boot wr base slots sh d ∧ Mv w w' [rb, gg, g, bd, mb]
section
variable {w w' : World} {rb gg g bd mb boot wr wr' base slots sh : Nat} {d d' : Dsk.St}
set_option maxRecDepth 100000
theorem rput_out (h : RingAt w rb gg g bd mb boot wr base slots sh d) {i : Int} (hi : i < 0 ∨ (slots : Int) ≤ i) (s : ByteArray) :
    Calls Tryz.prog 24 #[.pointer (some ⟨rb, 0, none⟩), .int .i64 i, .string s] w fun r w' => r = .returned (.int .i64 5) ∧ w = w' := by
  have HA := Lib.hid (raccess_out h hi)
  clear h hi
  go_enter Tryz.func24, Tryz.ntmps24
  go_wp2_with fail
  refine HA.out.mono ?_
  rintro r w1 ⟨rfl, rfl⟩
  go_wp2_with fail
  go_ret
  exact ⟨rfl, rfl⟩
theorem rshred_out (h : RingAt w rb gg g bd mb boot wr base slots sh d) {i : Int} (hi : i < 0 ∨ (slots : Int) ≤ i) :
    Calls Tryz.prog 25 #[.pointer (some ⟨rb, 0, none⟩), .int .i64 i] w fun r w' => r = .returned (.int .i64 5) ∧ w = w' := by
  have HA := Lib.hid (raccess_out h hi)
  clear h hi
  go_enter Tryz.func25, Tryz.ntmps25
  go_wp2_with fail
  refine HA.out.mono ?_
  rintro r w1 ⟨rfl, rfl⟩
  go_wp2_with fail
  go_ret
  exact ⟨rfl, rfl⟩
theorem rget_out (h : RingAt w rb gg g bd mb boot wr base slots sh d) {i : Int} (hi : i < 0 ∨ (slots : Int) ≤ i) :
    Calls Tryz.prog 29 #[.pointer (some ⟨rb, 0, none⟩), .int .i64 i] w fun r w' => r = .returned (.tuple #[.string (S []), .int .i64 5]) ∧ w = w' := by
  have HA := Lib.hid (raccess_out h hi)
  clear h hi
  go_enter Tryz.func29, Tryz.ntmps29
  go_wp2_with fail
  refine HA.out.mono ?_
  rintro r w1 ⟨rfl, rfl⟩
  go_wp2_with fail
  go_ret2
  exact ⟨rfl, rfl⟩
set_option maxHeartbeats 2000000 in
theorem rput_any (h : RingAt w rb gg g bd mb boot wr base slots sh d) {i : Nat} (hi : i < slots) (hwr : wr ≤ 4294967295) (ha : d.acts < 999999999000) (hf : d.falls < 999999999000) (s : List UInt8) :
    Calls Tryz.prog 24 #[.pointer (some ⟨rb, 0, none⟩), .int .i64 (i : Int), .string (S s)] w
      (RPost w rb gg g bd mb boot base slots (Ring.put boot wr d ((base + i : Nat) : Int) s).1 (Ring.put boot wr d ((base + i : Nat) : Int) s).2.1 sh (Ring.put boot wr d ((base + i : Nat) : Int) s).2.2) := by
  obtain ⟨c0, c1, _⟩ := h.cs
  have HA := Lib.hid (raccess_in h hi)
  have HUP := Lib.hid (rup_any h)
  have HFR := Lib.hid (rfree_any h hi)
  have hfit := h.fit
  have hcast : ((base + i : Nat) : Int) = (base : Int) + (i : Int) := by omega
  rw [hcast] at HFR ⊢
  obtain ⟨a, hae⟩ : ∃ a : Int, a = (base : Int) + (i : Int) := ⟨_, rfl⟩
  rw [← hae] at HFR ⊢
  have hsum : IntKind.i64.wrap ((base : Int) + (i : Int)) = a := by rw [IntKind.wrap_i64]; omega
  have HP : Hid (∀ W, Below w.heap.size w W → Calls Tryz.prog 44 #[.pointer (some ⟨gg, 0, none⟩), .int .i64 a, .string (S s)] W (PutPost W gg g bd mb boot (Grd.put boot wr d a s))) :=
    Lib.hid (fun W hb => gput_any (h.grd.below hb) hwr (by omega) (by omega) a s)
  have hle := Grd.put_le boot wr d a s
  have hR : Ring.put boot wr d a s = if s.length ≠ 32 then (1, wr, d) else if d.up = false then (8, wr, d) else if (Grd.read d a).2.2 ≠ 7 then (25, wr, d)
      else if (Grd.put boot wr d a s).2.1 ≠ 0 then ((Grd.put boot wr d a s).2.1, (Grd.put boot wr d a s).2.2.1, (Grd.put boot wr d a s).2.2.2)
      else ((Dsk.flush (Grd.put boot wr d a s).2.2.2).1, (Grd.put boot wr d a s).2.2.1, (Dsk.flush (Grd.put boot wr d a s).2.2.2).2) := rfl
  have HF : Hid (∀ W', GuardAt W' gg g bd mb boot (Grd.put boot wr d a s).2.2.1 (Grd.put boot wr d a s).2.2.2 → Calls Tryz.prog 45 #[.pointer (some ⟨gg, 0, none⟩)] W' (GDPost W' gg g bd mb boot (Grd.put boot wr d a s).2.2.1 (Dsk.flush (Grd.put boot wr d a s).2.2.2).1 (Dsk.flush (Grd.put boot wr d a s).2.2.2).2)) :=
    Lib.hid (fun W' hg => gflush_any hg (by omega) (by omega))
  have HK : Hid (∀ W W' wr' d', Below w.heap.size w W → GuardAt W' gg g bd mb boot wr' d' → Mv W W' [gg, g, bd, mb] → RingAt W' rb gg g bd mb boot wr' base slots sh d' ∧ Mv w W' [rb, gg, g, bd, mb]) :=
    Lib.hid (fun W W' wr' d' hb hg hm => ⟨(h.below hb).put hg hm, (Mv.of_below hb _).trans (hm.wide (by simp))⟩)
  have HC : Hid (∀ W, Below w.heap.size w W → W.cell? ⟨rb, 0, none⟩ = some (.pointer (some ⟨gg, 0, none⟩)) ∧ W.cell? ⟨rb, 1, none⟩ = some (.int .i64 (base : Int))) := Lib.hid (fun W hb => ⟨(h.below hb).cs.1, (h.below hb).cs.2.1⟩)
  generalize Ring.put boot wr d a s = res at hR ⊢
  generalize Grd.put boot wr d a s = p at HP HF hR
  obtain ⟨p1, p2, p3, p4⟩ := p
  dsimp only at HP HF hR
  generalize Dsk.flush p4 = q at HF hR
  obtain ⟨q1, q2⟩ := q
  dsimp only at HF hR
  generalize hrd : (Grd.read d a).2.2 = rc at HFR hR
  unfold PutPost at HP
  dsimp only at HP
  unfold GDPost at HF
  unfold RPost
  have H := Lib.hid h
  clear h hle hcast hae hfit hi hwr ha hf hrd
  by_cases ht : s.length = 32
  · rw [if_neg (by simp [ht])] at hR
    have ht1 : ((s.length : Int) != 32) = false := by rw [ht]; rfl
    have ht2 : ((s.length : Int) == 32) = true := by rw [ht]; rfl
    clear ht
    cases hu : d.up with
    | false =>
      rw [hu] at HUP
      rw [if_pos hu] at hR
      subst hR
      clear hu
      go_enter Tryz.func24, Tryz.ntmps24
      go_wp2_with fail
      refine HA.out.mono ?_
      rintro r w1 ⟨rfl, rfl⟩
      go_wp2_with fail
      refine HUP.out.mono ?_
      rintro r w1 ⟨rfl, rfl⟩
      go_wp2_with fail
      go_ret
      exact ⟨rfl, H.out, Mv.refl _ _⟩
    | true =>
      rw [hu] at HUP
      rw [if_neg (by rw [hu]; decide)] at hR
      clear hu
      by_cases h7 : rc = 7
      · subst h7
        rw [if_neg (by simp)] at hR
        have HR := Lib.hid hR
        clear hR
        go_enter Tryz.func24, Tryz.ntmps24
        go_wp2_with fail
        refine HA.out.mono ?_
        rintro r w1 ⟨rfl, rfl⟩
        go_wp2_with fail
        refine HUP.out.mono ?_
        rintro r w1 ⟨rfl, rfl⟩
        go_wp2_with fail
        refine HFR.out.mono ?_
        rintro r w2 ⟨rfl, hb⟩
        obtain ⟨d0, d1⟩ := HC.out w2 hb
        have HB := Lib.hid hb
        clear hb
        go_upto_region 10 with fail
        have hb0 : Below w.heap.size w w2.drew := HB.out.drew
        have hy : w2.drew.cell? ⟨rb, 0, none⟩ = some (.pointer (some ⟨gg, 0, none⟩)) ∧ w2.drew.cell? ⟨rb, 1, none⟩ = some (.int .i64 (base : Int)) := ⟨d0, d1⟩
        clear d0 d1
        go_region_held3 (fun w' => w'.cell? ⟨rb, 0, none⟩ = some (.pointer (some ⟨gg, 0, none⟩)) ∧ w'.cell? ⟨rb, 1, none⟩ = some (.int .i64 (base : Int))) (first | exact hy | go_keep) (first
          | (go_at_call 44; refine (HP.out _ hb0).mono ?_; rintro r w3 ⟨rfl, hg, hm⟩; have HG := Lib.hid (And.intro hg hm); have HK2 := Lib.hid (HK.out _ _ _ _ hb0 hg hm); have hy := And.intro HK2.out.1.cs.1 HK2.out.1.cs.2.1; clear hg hm))
        obtain ⟨f0, _⟩ := HK2.out.1.cs
        clear hb0 hy
        by_cases hp : p2 = 0
        · subst hp
          have hR := HR.out
          rw [if_neg (by simp)] at hR
          subst hR
          clear HR
          go_wp2_with fail
          refine (HF.out _ HG.out.1).mono ?_
          rintro r w4 ⟨rfl, hg, hm⟩
          have HZ := Lib.hid (And.intro (HK2.out.1.turn hg hm) (HK2.out.2.trans (hm.wide (by simp))))
          clear hg hm
          go_wp2_with fail
          go_ret
          exact ⟨rfl, HZ.out.1, HZ.out.2⟩
        · have hR := HR.out
          rw [if_pos hp] at hR
          subst hR
          have hp1 : (p2 == 0) = false := by rw [beq_eq_false_iff_ne]; exact hp
          have hp2 : (p2 != 0) = true := by rw [bne_iff_ne]; exact hp
          clear HR hp
          go_wp2_with fail
          go_ret
          exact ⟨rfl, HK2.out.1, HK2.out.2⟩
      · rw [if_pos h7] at hR
        subst hR
        have h8 : (rc == 7) = false := by rw [beq_eq_false_iff_ne]; exact h7
        rw [h8] at HFR
        clear h7 h8
        go_enter Tryz.func24, Tryz.ntmps24
        go_wp2_with fail
        refine HA.out.mono ?_
        rintro r w1 ⟨rfl, rfl⟩
        go_wp2_with fail
        refine HUP.out.mono ?_
        rintro r w1 ⟨rfl, rfl⟩
        go_wp2_with fail
        refine HFR.out.mono ?_
        rintro r w2 ⟨rfl, hb⟩
        have HB := Lib.hid hb
        clear hb
        go_wp2_with fail
        go_ret
        exact ⟨rfl, H.out.below HB.out, Mv.of_below HB.out _⟩
  · rw [if_pos ht] at hR
    subst hR
    have ht1 : ((s.length : Int) != 32) = true := by rw [bne_iff_ne]; omega
    have ht2 : ((s.length : Int) == 32) = false := by rw [beq_eq_false_iff_ne]; omega
    clear ht
    go_enter Tryz.func24, Tryz.ntmps24
    go_wp2_with fail
    refine HA.out.mono ?_
    rintro r w1 ⟨rfl, rfl⟩
    go_wp2_with fail
    go_ret
    exact ⟨rfl, H.out, Mv.refl _ _⟩
set_option maxHeartbeats 2000000 in
theorem rshred_any (h : RingAt w rb gg g bd mb boot wr base slots sh d) {i : Nat} (hi : i < slots) (hsh : sh ≤ 1000000000) (ha : d.acts < 999999999000) (hf : d.falls < 999999999000) :
    Calls Tryz.prog 25 #[.pointer (some ⟨rb, 0, none⟩), .int .i64 (i : Int)] w
      (RPost w rb gg g bd mb boot base slots (Ring.shred sh d ((base + i : Nat) : Int)).1 wr (Ring.shred sh d ((base + i : Nat) : Int)).2.1 (Ring.shred sh d ((base + i : Nat) : Int)).2.2) := by
  obtain ⟨c0, c1, _⟩ := h.cs
  have HA := Lib.hid (raccess_in h hi)
  have HUP := Lib.hid (rup_any h)
  have HFR := Lib.hid (rfree_any h hi)
  have hfit := h.fit
  have hcast : ((base + i : Nat) : Int) = (base : Int) + (i : Int) := by omega
  have hinc : IntKind.i64.wrap ((sh : Int) + 1) = (sh : Int) + 1 := by rw [IntKind.wrap_i64]; omega
  rw [hcast] at HFR ⊢
  obtain ⟨a, hae⟩ : ∃ a : Int, a = (base : Int) + (i : Int) := ⟨_, rfl⟩
  rw [← hae] at HFR ⊢
  have hsum : IntKind.i64.wrap ((base : Int) + (i : Int)) = a := by rw [IntKind.wrap_i64]; omega
  have HP : Hid (∀ W, Below w.heap.size w W → Calls Tryz.prog 46 #[.pointer (some ⟨gg, 0, none⟩), .int .i64 a] W (GDPost W gg g bd mb boot wr (Dsk.write d a Grd.noughts).1 (Dsk.write d a Grd.noughts).2)) :=
    Lib.hid (fun W hb => gerase_any (h.grd.below hb) (by omega) (by omega) a)
  have hle := Dsk.write_le d a Grd.noughts
  have hR : Ring.shred sh d a = if d.up = false then (8, sh, d) else if (Grd.read d a).2.2 = 7 then (0, sh, d)
      else if (Dsk.write d a Grd.noughts).1 ≠ 0 then ((Dsk.write d a Grd.noughts).1, sh, (Dsk.write d a Grd.noughts).2)
      else if (Dsk.flush (Dsk.write d a Grd.noughts).2).1 ≠ 0 then ((Dsk.flush (Dsk.write d a Grd.noughts).2).1, sh, (Dsk.flush (Dsk.write d a Grd.noughts).2).2)
      else (0, sh + 1, (Dsk.flush (Dsk.write d a Grd.noughts).2).2) := rfl
  have HF : Hid (∀ W', GuardAt W' gg g bd mb boot wr (Dsk.write d a Grd.noughts).2 → Calls Tryz.prog 45 #[.pointer (some ⟨gg, 0, none⟩)] W' (GDPost W' gg g bd mb boot wr (Dsk.flush (Dsk.write d a Grd.noughts).2).1 (Dsk.flush (Dsk.write d a Grd.noughts).2).2)) :=
    Lib.hid (fun W' hg => gflush_any hg (by omega) (by omega))
  have HK : Hid (∀ W W' d', Below w.heap.size w W → GuardAt W' gg g bd mb boot wr d' → Mv W W' [g, bd, mb] → RingAt W' rb gg g bd mb boot wr base slots sh d' ∧ Mv w W' [rb, gg, g, bd, mb]) :=
    Lib.hid (fun W W' d' hb hg hm => ⟨(h.below hb).turn hg hm, (Mv.of_below hb _).trans (hm.wide (by simp))⟩)
  have HC : Hid (∀ W, Below w.heap.size w W → W.cell? ⟨rb, 0, none⟩ = some (.pointer (some ⟨gg, 0, none⟩)) ∧ W.cell? ⟨rb, 1, none⟩ = some (.int .i64 (base : Int))) := Lib.hid (fun W hb => ⟨(h.below hb).cs.1, (h.below hb).cs.2.1⟩)
  generalize Ring.shred sh d a = res at hR ⊢
  generalize Dsk.write d a Grd.noughts = p at HP HF hR
  obtain ⟨p1, p2⟩ := p
  dsimp only at HP HF hR
  generalize Dsk.flush p2 = q at HF hR
  obtain ⟨q1, q2⟩ := q
  dsimp only at HF hR
  generalize hrd : (Grd.read d a).2.2 = rc at HFR hR
  unfold GDPost at HP HF
  unfold RPost
  have H := Lib.hid h
  clear h hle hcast hae hfit hi ha hf hrd hsh
  cases hu : d.up with
  | false =>
    rw [hu] at HUP
    rw [if_pos hu] at hR
    subst hR
    clear hu
    go_enter Tryz.func25, Tryz.ntmps25
    go_wp2_with fail
    refine HA.out.mono ?_
    rintro r w1 ⟨rfl, rfl⟩
    go_wp2_with fail
    refine HUP.out.mono ?_
    rintro r w1 ⟨rfl, rfl⟩
    go_wp2_with fail
    go_ret
    exact ⟨rfl, H.out, Mv.refl _ _⟩
  | true =>
    rw [hu] at HUP
    rw [if_neg (by rw [hu]; decide)] at hR
    clear hu
    by_cases h7 : rc = 7
    · subst h7
      rw [if_pos rfl] at hR
      subst hR
      go_enter Tryz.func25, Tryz.ntmps25
      go_wp2_with fail
      refine HA.out.mono ?_
      rintro r w1 ⟨rfl, rfl⟩
      go_wp2_with fail
      refine HUP.out.mono ?_
      rintro r w1 ⟨rfl, rfl⟩
      go_wp2_with fail
      refine HFR.out.mono ?_
      rintro r w2 ⟨rfl, hb⟩
      have HB := Lib.hid hb
      clear hb
      go_wp2_with fail
      go_ret
      exact ⟨rfl, H.out.below HB.out, Mv.of_below HB.out _⟩
    · rw [if_neg h7] at hR
      have h8 : (rc == 7) = false := by rw [beq_eq_false_iff_ne]; exact h7
      rw [h8] at HFR
      have HR := Lib.hid hR
      clear h7 h8 hR
      go_enter Tryz.func25, Tryz.ntmps25
      go_wp2_with fail
      refine HA.out.mono ?_
      rintro r w1 ⟨rfl, rfl⟩
      go_wp2_with fail
      refine HUP.out.mono ?_
      rintro r w1 ⟨rfl, rfl⟩
      go_wp2_with fail
      refine HFR.out.mono ?_
      rintro r w2 ⟨rfl, hb⟩
      obtain ⟨d0, d1⟩ := HC.out w2 hb
      have HB := Lib.hid hb
      clear hb
      go_upto_region 8 with fail
      have hb0 : Below w.heap.size w w2.drew := HB.out.drew
      have hy : w2.drew.cell? ⟨rb, 0, none⟩ = some (.pointer (some ⟨gg, 0, none⟩)) ∧ w2.drew.cell? ⟨rb, 1, none⟩ = some (.int .i64 (base : Int)) := ⟨d0, d1⟩
      clear d0 d1
      go_region_held3 (fun w' => w'.cell? ⟨rb, 0, none⟩ = some (.pointer (some ⟨gg, 0, none⟩)) ∧ w'.cell? ⟨rb, 1, none⟩ = some (.int .i64 (base : Int))) (first | exact hy | go_keep) (first
        | (go_at_call 46; refine (HP.out _ hb0).mono ?_; rintro r w3 ⟨rfl, hg, hm⟩; have HG := Lib.hid (And.intro hg hm); have HK2 := Lib.hid (HK.out _ _ _ hb0 hg hm); have hy := And.intro HK2.out.1.cs.1 HK2.out.1.cs.2.1; clear hg hm))
      obtain ⟨f0, _⟩ := HK2.out.1.cs
      clear hb0 hy
      by_cases hp : p1 = 0
      · subst hp
        have hR := HR.out
        rw [if_neg (by simp)] at hR
        clear HR
        have HR := Lib.hid hR
        clear hR
        go_wp2_with fail
        refine (HF.out _ HG.out.1).mono ?_
        rintro r w4 ⟨rfl, hg, hm⟩
        have HZ := Lib.hid (And.intro (HK2.out.1.turn hg hm) (HK2.out.2.trans (hm.wide (by simp))))
        clear hg hm f0
        by_cases hq : q1 = 0
        · subst hq
          have hR := HR.out
          rw [if_neg (by simp)] at hR
          subst hR
          clear HR
          obtain ⟨_, _, _, f3⟩ := HZ.out.1.cs
          have f4 := HZ.out.1.cells.free 3
          have HN := Lib.hid HZ.out.1.count
          go_wp2_with fail
          go_ret
          exact ⟨rfl, HN.out.1, HZ.out.2.trans HN.out.2⟩
        · have hR := HR.out
          rw [if_pos hq] at hR
          subst hR
          have hq1 : (q1 == 0) = false := by rw [beq_eq_false_iff_ne]; exact hq
          have hq2 : (q1 != 0) = true := by rw [bne_iff_ne]; exact hq
          clear HR hq
          go_wp2_with fail
          go_ret
          exact ⟨rfl, HZ.out.1, HZ.out.2⟩
      · have hR := HR.out
        rw [if_pos hp] at hR
        subst hR
        have hp1 : (p1 == 0) = false := by rw [beq_eq_false_iff_ne]; exact hp
        have hp2 : (p1 != 0) = true := by rw [bne_iff_ne]; exact hp
        clear HR hp
        go_wp2_with fail
        go_ret
        exact ⟨rfl, HK2.out.1, HK2.out.2⟩
end
end Go.Proofs.YthadcmbbdggneaaGreatDoor

namespace Go.Proofs.YthadcmbbdggneaaGreatDoor
open Go.RowKit
set_option linter.unusedVariables false

def findV (o : Option Nat) : Value := match o with | some j => .tuple #[.int .i64 (j : Int), .int .i64 0] | none => .tuple #[.int .i64 0, .int .i64 6]
/-- A slice reads as these numbers, in a block that is there, and none of s. -/
def IL (W : World) (s : List Nat) (A : Option Addr) (L : List Int) : Prop := L ≠ [] → ∃ b off, A = some ⟨b, off, none⟩ ∧ b < W.heap.size ∧ b ∉ s ∧ ∀ k (h : k < L.length), W.cell? ⟨b, off + k, none⟩ = some (.int .i64 (L[k]'h))
theorem IL.mv {W W' : World} {s t : List Nat} {A : Option Addr} {L : List Int} (h : IL W s A L) (hm : Mv W W' t) (ht : ∀ x ∈ t, x ∈ s) : IL W' s A L := fun hl => by
  obtain ⟨b, off, h1, h2, h3, h4⟩ := h hl
  exact ⟨b, off, h1, Nat.lt_of_lt_of_le h2 hm.size, h3, fun k hk => (World.cell?_of_block (hm.block b h2 (fun x => h3 (ht b x)))).trans (h4 k hk)⟩
theorem IL.below {W W' : World} {s : List Nat} {A : Option Addr} {L : List Int} (h : IL W s A L) (hb : Below W.heap.size W W') : IL W' s A L := h.mv (Mv.of_below hb []) (by simp)
theorem IL.at {W W' : World} {s : List Nat} {A : Option Addr} {L : List Int} (h : IL W [] A L) (hb : Below W.heap.size W W') (hs : ∀ k ∈ s, W.heap.size ≤ k) : IL W' s A L := fun hl => by
  obtain ⟨b, off, h1, h2, h3, h4⟩ := h hl
  exact ⟨b, off, h1, Nat.lt_of_lt_of_le h2 hb.size, fun x => by have := hs b x; omega, fun k hk => (World.cell?_of_block (hb.block b h2)).trans (h4 k hk)⟩
theorem IL.get {W : World} {s : List Nat} {A : Option Addr} {L : List Int} (h : IL W s A L) (k : Nat) (hk : k < L.length) : ∃ b off, A = some ⟨b, off, none⟩ ∧ W.cell? ⟨b, off + k, none⟩ = some (.int .i64 (L[k]'hk)) := by
  obtain ⟨b, off, h1, h2, h3, h4⟩ := h (fun e => by rw [e] at hk; exact absurd hk (Nat.not_lt_zero _))
  exact ⟨b, off, h1, h4 k hk⟩
section
variable {w w' : World} {rb gg g bd mb boot wr wr' base slots sh : Nat} {d d' : Dsk.St}
set_option maxRecDepth 100000
theorem rfind_any (h : RingAt w rb gg g bd mb boot wr base slots sh d) (p : Nat → Bool) (hp : ∀ i, i < slots → ((Grd.read d ((base + i : Nat) : Int)).2.2 == 7) = p i) :
    Calls Tryz.prog 30 #[.pointer (some ⟨rb, 0, none⟩)] w fun e w' => e = .returned (findV (Ring.firstIn p slots slots)) ∧ Below w.heap.size w w' := by
  obtain ⟨c0, c1, c2, _⟩ := h.cs
  have HW := Lib.hid (rworks_any h)
  have HFR : Hid (∀ (W : World) (i : Nat), Below w.heap.size w W → i < slots → Calls Tryz.prog 22 #[.pointer (some ⟨rb, 0, none⟩), .int .i64 (i : Int)] W fun e w' => e = .returned (.bool (p i)) ∧ Below W.heap.size W w') := Lib.hid (fun W i hb hi => by
    have hq := rfree_any (h.below hb) hi
    rw [hp i hi] at hq
    exact hq)
  have hs2 := h.s2
  obtain ⟨FR, hFR⟩ : ∃ x, x = Ring.firstIn p slots slots := ⟨_, rfl⟩
  rw [← hFR]
  have HE := Lib.hid hFR
  clear h hp hFR
  go_enter Tryz.func30, Tryz.ntmps30
  go_wp2_with fail
  refine HW.out.mono ?_
  rintro r w1 ⟨rfl, rfl⟩
  go_wp2_with fail
  go_loopw [12] (fun v12 wr => ∃ i n : Nat, i + n = slots ∧ v12 = .int .i64 (i : Int) ∧ FR = Ring.firstIn p slots n ∧ Below w.heap.size w wr) (fun v12 _ => slots - (vInt v12).toNat)
  case atStart => exact ⟨0, slots, Nat.zero_add _, rfl, HE.out, Below.refl _ _⟩
  case round =>
    obtain ⟨i, n, hin, rfl, hfr, hb⟩ := hrel
    clear c0 c1 c2 HE
    have HB := Lib.hid hb
    clear hb
    cases n with
    | zero =>
      have hlt : ¬ (i : Int) < (slots : Int) := by omega
      subst hfr
      clear hin
      go_wp2_with fail
      go_ret2
      exact ⟨rfl, HB.out⟩
    | succ n =>
      have hlt : (i : Int) < (slots : Int) := by omega
      have hi : i < slots := by omega
      have HP : Hid (p i = true → FR = some i) := Lib.hid (fun q => by rw [hfr, Ring.firstIn_yes hin q])
      have HN : Hid (p i = false → FR = Ring.firstIn p slots n) := Lib.hid (fun q => by rw [hfr, Ring.firstIn_no hin q])
      have HC := Lib.hid (HFR.out wr i HB.out hi)
      clear hfr
      generalize p i = q at HP HN HC
      cases q with
      | true =>
        have hfr := HP.out rfl
        subst hfr
        go_wp2_with fail
        refine HC.out.mono ?_
        rintro r w2 ⟨rfl, hb2⟩
        have HB2 := Lib.hid (HB.out.trans (hb2.mono HB.out.size))
        clear hb2
        go_wp2_with fail
        go_ret2
        exact ⟨rfl, HB2.out⟩
      | false =>
        have hsum : IntKind.i64.wrap ((i : Int) + 1) = (i : Int) + 1 := by rw [IntKind.wrap_i64]; omega
        have HIN := Lib.hid (And.intro hin hi)
        clear hin hi
        go_wp2_with fail
        refine HC.out.mono ?_
        rintro r w2 ⟨rfl, hb2⟩
        have HB2 := Lib.hid (HB.out.trans (hb2.mono HB.out.size))
        clear hb2
        go_wp2_with fail
        go_roundw
        · exact ⟨i + 1, n, by have := HIN.out.1; omega, by go_num, HN.out (by trivial), HB2.out⟩
        · simp only [vInt]
          have := HIN.out.2
          omega
/-- A new ring over the guard in block gg. -/
def NewRPost (w : World) (gg g bd mb boot wr base slots : Nat) (d : Dsk.St) (e : Ending) (w' : World) : Prop :=
  ∃ rb, e = .returned (.tuple #[.pointer (some ⟨rb, 0, none⟩), .int .i64 0]) ∧ RingAt w' rb gg g bd mb boot wr base slots 0 d ∧ Below w.heap.size w w' ∧ w.heap.size ≤ rb
theorem rnew_any (h : GuardAt w gg g bd mb boot wr d) (hs1 : 1 ≤ slots) (hs2 : slots ≤ 64) (hfit : base + slots ≤ d.secs.length) (hd : d.secs.length ≤ 100000) :
    Calls Tryz.prog 20 #[.pointer (some ⟨gg, 0, none⟩), .int .i64 (base : Int), .int .i64 (slots : Int)] w (NewRPost w gg g bd mb boot wr base slots d) := by
  have HD := Lib.hid (gdisk_any h)
  have HS := Lib.hid (size_any h.disk)
  have hb0 : Below w.heap.size w (w.alloc (.cells #[.pointer (some ⟨gg, 0, none⟩), .int .i64 (base : Int), .int .i64 (slots : Int), .int .i64 ((0 : Nat) : Int)] 66)) := (Below.refl _ w).alloc (Nat.le_refl _) _
  have hlt := h.disk.lt
  have hlg := h.cells.lt
  have HF : Hid (RingAt (w.alloc (.cells #[.pointer (some ⟨gg, 0, none⟩), .int .i64 (base : Int), .int .i64 (slots : Int), .int .i64 ((0 : Nat) : Int)] 66)) w.heap.size gg g bd mb boot wr base slots 0 d) :=
    Lib.hid ⟨Has.made w _ _, h.below hb0, by omega, by omega, by omega, by omega, hs1, hs2, by omega⟩
  have HB := Lib.hid hb0
  clear hb0 hlt hlg h
  generalize d.secs.length = n at *
  have k1 : ¬ (base : Int) < 0 := by omega
  have k2 : ¬ (slots : Int) < 1 := by omega
  have k3 : ¬ (64 : Int) < (slots : Int) := by omega
  have k4 : IntKind.i64.wrap ((n : Int) - (slots : Int)) = (n : Int) - (slots : Int) := by rw [IntKind.wrap_i64]; omega
  have k5 : ¬ (n : Int) - (slots : Int) < (base : Int) := by omega
  clear hs1 hs2 hfit hd
  go_enter Tryz.func20, Tryz.ntmps20
  go_wp2_with fail
  refine HD.out.mono ?_
  rintro r w1 ⟨rfl, rfl⟩
  go_wp2_with fail
  refine HS.out.mono ?_
  rintro r w1 ⟨rfl, rfl⟩
  go_wp2_with fail
  go_ret2
  exact ⟨w.heap.size, rfl, HF.out, HB.out, Nat.le_refl _⟩
theorem rnew_nil (b s : Int) (W : World) :
    Calls Tryz.prog 20 #[.pointer none, .int .i64 b, .int .i64 s] W fun e w' => e = .returned (.tuple #[.pointer none, .int .i64 1]) ∧ W = w' := by
  have HD := Lib.hid (ng_disk (W := W) (v := .pointer none) (Or.inl rfl))
  go_enter Tryz.func20, Tryz.ntmps20
  go_wp2_with fail
  refine HD.out.mono ?_
  rintro r w1 ⟨rfl, rfl⟩
  go_wp2_with fail
  go_ret2
  exact ⟨rfl, rfl⟩
theorem rnew_arg (h : GuardAt w gg g bd mb boot wr d) (b s : Int) (hbs : b < 0 ∨ s < 1 ∨ 64 < s) :
    Calls Tryz.prog 20 #[.pointer (some ⟨gg, 0, none⟩), .int .i64 b, .int .i64 s] w fun e w' => e = .returned (.tuple #[.pointer none, .int .i64 1]) ∧ w = w' := by
  have HD := Lib.hid (gdisk_any h)
  clear h
  by_cases k1 : b < 0
  · clear hbs
    go_enter Tryz.func20, Tryz.ntmps20
    go_wp2_with fail
    refine HD.out.mono ?_
    rintro r w1 ⟨rfl, rfl⟩
    go_wp2_with fail
    go_ret2
    exact ⟨rfl, rfl⟩
  · by_cases k2 : s < 1
    · clear hbs
      go_enter Tryz.func20, Tryz.ntmps20
      go_wp2_with fail
      refine HD.out.mono ?_
      rintro r w1 ⟨rfl, rfl⟩
      go_wp2_with fail
      go_ret2
      exact ⟨rfl, rfl⟩
    · have k3 : (64 : Int) < s := by omega
      clear hbs
      go_enter Tryz.func20, Tryz.ntmps20
      go_wp2_with fail
      refine HD.out.mono ?_
      rintro r w1 ⟨rfl, rfl⟩
      go_wp2_with fail
      go_ret2
      exact ⟨rfl, rfl⟩
theorem rnew_range (h : GuardAt w gg g bd mb boot wr d) (b s : Int) (h0 : 0 ≤ b) (h1 : 1 ≤ s) (h2 : s ≤ 64) (hr : (d.secs.length : Int) - s < b) (hd : d.secs.length ≤ 100000) :
    Calls Tryz.prog 20 #[.pointer (some ⟨gg, 0, none⟩), .int .i64 b, .int .i64 s] w fun e w' => e = .returned (.tuple #[.pointer none, .int .i64 5]) ∧ w = w' := by
  have HD := Lib.hid (gdisk_any h)
  have HS := Lib.hid (size_any h.disk)
  clear h
  generalize d.secs.length = n at *
  have k1 : ¬ b < 0 := by omega
  have k2 : ¬ s < 1 := by omega
  have k3 : ¬ (64 : Int) < s := by omega
  have k4 : IntKind.i64.wrap ((n : Int) - s) = (n : Int) - s := by rw [IntKind.wrap_i64]; omega
  clear h0 h1 h2 hd
  go_enter Tryz.func20, Tryz.ntmps20
  go_wp2_with fail
  refine HD.out.mono ?_
  rintro r w1 ⟨rfl, rfl⟩
  go_wp2_with fail
  refine HS.out.mono ?_
  rintro r w1 ⟨rfl, rfl⟩
  go_wp2_with fail
  go_ret2
  exact ⟨rfl, rfl⟩
end
end Go.Proofs.YthadcmbbdggneaaGreatDoor

namespace Go.Proofs.YthadcmbbdggneaaGreatDoor
open Go.RowKit
set_option linter.unusedVariables false

/-- What Keep answers. -/
def keepV (sh : Nat) (r : Int × Nat × Dsk.St) : Value := if r.1 ≠ 0 then .tuple #[.int .i64 0, .int .i64 r.1] else .tuple #[.int .i64 ((r.2.1 : Int) - (sh : Int)), .int .i64 0]
section
variable {w w' : World} {rb gg g bd mb boot wr0 base slots sh : Nat} {d d' : Dsk.St}
set_option maxRecDepth 100000
set_option maxHeartbeats 4000000 in
theorem rkeep_any (h : RingAt w rb gg g bd mb boot wr0 base slots sh d) (used : List Int) (A : Option Addr) (cap : Nat) (hl : IL w [rb, gg, g, bd, mb] A used) (hc1 : used.length ≤ cap) (hc2 : cap ≤ 9223372036854775807)
    (hsh : sh ≤ 900000000) (ha : d.acts < 999999990000) (hf : d.falls < 999999990000) :
    Calls Tryz.prog 31 #[.pointer (some ⟨rb, 0, none⟩), .slice A used.length cap] w fun e w' => e = .returned (keepV sh (Ring.keepFrom used base slots slots sh d)) ∧
      RingAt w' rb gg g bd mb boot wr0 base slots (Ring.keepFrom used base slots slots sh d).2.1 (Ring.keepFrom used base slots slots sh d).2.2 ∧ Mv w w' [rb, gg, g, bd, mb] := by
  obtain ⟨c0, c1, c2, c3⟩ := h.cs
  have HW := Lib.hid (rworks_any h)
  have hs2 := h.s2
  have H := Lib.hid (And.intro h hl)
  obtain ⟨R, hR⟩ : ∃ x, x = Ring.keepFrom used base slots slots sh d := ⟨_, rfl⟩
  rw [← hR]
  have HE := Lib.hid hR
  have HSH : Hid (∀ (W : World) (i s1 : Nat) (d1 : Dsk.St), RingAt W rb gg g bd mb boot wr0 base slots s1 d1 → i < slots → s1 ≤ sh + i → d1.acts ≤ d.acts + 2 * i → d1.falls ≤ d.falls + 2 * i →
      Calls Tryz.prog 25 #[.pointer (some ⟨rb, 0, none⟩), .int .i64 (i : Int)] W
      (RPost W rb gg g bd mb boot base slots (Ring.shred s1 d1 ((base + i : Nat) : Int)).1 wr0 (Ring.shred s1 d1 ((base + i : Nat) : Int)).2.1 (Ring.shred s1 d1 ((base + i : Nat) : Int)).2.2)) :=
    Lib.hid (fun W i s1 d1 q1 q2 q3 q4 q5 => rshred_any q1 q2 (by omega) (by omega) (by omega))
  clear h hl hR ha hf
  have HSS := Lib.hid hsh
  clear hsh
  go_enter Tryz.func31, Tryz.ntmps31
  go_wp2_with fail
  go_step3
  go_wp2_with fail
  refine HW.out.mono ?_
  rintro r w1 ⟨rfl, rfl⟩
  go_wp2_with fail
  go_step3
  go_wp2_with fail
  go_loopg [22] slots (fun n v22 wr => ∃ (i s1 : Nat) (d1 : Dsk.St), i + n = slots ∧ v22 = .int .i64 (i : Int) ∧ Hid ((R = Ring.keepFrom used base slots n s1 d1 ∧ RingAt wr rb gg g bd mb boot wr0 base slots s1 d1 ∧ Mv w wr [rb, gg, g, bd, mb]) ∧ s1 ≤ sh + i ∧ d1.acts ≤ d.acts + 2 * i ∧ d1.falls ≤ d.falls + 2 * i))
  case atStart => exact ⟨0, sh, d, Nat.zero_add _, rfl, Lib.hid ⟨⟨HE.out, H.out.1, Mv.refl _ _⟩, Nat.le_refl _, Nat.le_refl _, Nat.le_refl _⟩⟩
  case round =>
    obtain ⟨i, s1, d1, hin, rfl, HI⟩ := hrel
    have HIL := Lib.hid (H.out.2.mv HI.out.1.2.2 (fun x hx => hx))
    clear c0 c1 c2 c3 HW H HE
    cases gk with
    | zero =>
      have hlt : ¬ (i : Int) < (slots : Int) := by omega
      obtain ⟨⟨q1, q2, q3⟩, q4, q5, q6⟩ := HI.out
      rw [Ring.keepFrom_zero] at q1
      subst q1
      obtain ⟨_, _, _, e3⟩ := q2.cs
      have hs1 : IntKind.i64.wrap ((s1 : Int) - (sh : Int)) = (s1 : Int) - (sh : Int) := by
        have := HSS.out
        rw [IntKind.wrap_i64]
        omega
      have HQ := Lib.hid (And.intro q2 q3)
      clear HI q2 q3 q4 q5 q6 hin
      go_wp2_with fail
      try rw [Exit.noGoto_ret]
      go_ret2
      have hv : keepV sh (0, s1, d1) = .tuple #[.int .i64 ((s1 : Int) - (sh : Int)), .int .i64 0] := by
        unfold keepV
        rw [if_neg (by simp)]
      exact ⟨by rw [hv]; rfl, HQ.out.1, HQ.out.2⟩
    | succ n =>
      have hlt : (i : Int) < (slots : Int) := by omega
      have hi : i < slots := by omega
      have hinc : IntKind.i64.wrap ((i : Int) + 1) = (i : Int) + 1 := by rw [IntKind.wrap_i64]; omega
      have HN := Lib.hid hin
      clear hin
      generalize wr = wo at HI HIL ⊢
      go_wp2_with fail
      go_loopg [27] used.length (fun m v27 wx => ∃ k : Nat, k + m = used.length ∧ v27 = .int .i64 (k : Int) ∧ Hid ((∀ x ∈ used.take k, x ≠ (i : Int)) ∧ wo = wx))
      case atStart => exact ⟨0, Nat.zero_add _, rfl, Lib.hid ⟨fun x hx => by simp at hx, rfl⟩⟩
      case round =>
        obtain ⟨k, hkm, rfl, HJ⟩ := hrel
        obtain ⟨hj, rfl⟩ := HJ.out
        cases gk with
        | zero =>
          have hkl : ¬ (k : Int) < (used.length : Int) := by omega
          have hnot : (i : Int) ∉ used := fun hx => by
            rw [List.take_of_length_le (by omega)] at hj
            exact hj _ hx rfl
          have HC := Lib.hid (HSH.out wo i s1 d1 HI.out.1.2.1 hi HI.out.2.1 HI.out.2.2.1 HI.out.2.2.2)
          have hle := Ring.shred_le s1 d1 ((base + i : Nat) : Int)
          have HB : Hid ((Ring.shred s1 d1 ((base + i : Nat) : Int)).1 ≠ 0 → R = Ring.shred s1 d1 ((base + i : Nat) : Int)) := Lib.hid (fun q => by rw [HI.out.1.1, Ring.keepFrom_bad HN.out hnot q])
          have HX : Hid ((Ring.shred s1 d1 ((base + i : Nat) : Int)).1 = 0 → R = Ring.keepFrom used base slots n (Ring.shred s1 d1 ((base + i : Nat) : Int)).2.1 (Ring.shred s1 d1 ((base + i : Nat) : Int)).2.2) := Lib.hid (fun q => by rw [HI.out.1.1, Ring.keepFrom_next HN.out hnot q])
          have HLE := Lib.hid hle
          generalize Ring.shred s1 d1 ((base + i : Nat) : Int) = z at HC HB HX HLE
          obtain ⟨z1, z2, z3⟩ := z
          unfold RPost at HC
          dsimp only at HC HB HX HLE
          have HMV := Lib.hid HI.out.1.2.2
          have HBD := Lib.hid HI.out.2
          clear hkm hj HJ hnot hle HI HIL
          go_wp2_with fail
          refine HC.out.mono ?_
          rintro r w2 ⟨rfl, hr, hm⟩
          have HR := Lib.hid (And.intro hr (HMV.out.trans hm))
          clear hr hm HMV
          by_cases h0 : z1 = 0
          · subst h0
            go_wp2_with fail
            go_roundg n
            case measure => omega
            case rel => exact ⟨i + 1, z2, z3, by have := HN.out; omega, by go_num, Lib.hid ⟨⟨HX.out (by trivial), HR.out.1, HR.out.2⟩, by have := HBD.out; have := HLE.out; omega, by have := HBD.out; have := HLE.out; omega, by have := HBD.out; have := HLE.out; omega⟩⟩
          · have h1 : (z1 == 0) = false := by rw [beq_eq_false_iff_ne]; exact h0
            have h2 : (z1 != 0) = true := by rw [bne_iff_ne]; exact h0
            have hR := HB.out h0
            subst hR
            clear HB HX HLE HBD
            go_wp2_with fail
            try rw [Exit.noGoto_ret]
            go_ret2
            have hv : keepV sh (z1, z2, z3) = .tuple #[.int .i64 0, .int .i64 z1] := by
              unfold keepV
              rw [if_pos h0]
            exact ⟨by rw [hv]; rfl, HR.out.1, HR.out.2⟩
        | succ m =>
          have hkl : (k : Int) < (used.length : Int) := by omega
          have hkn : k < used.length := by omega
          have hkc : (k : Int) < (cap : Int) := by omega
          have hk0 : (0 : Int) ≤ (k : Int) := by omega
          obtain ⟨bu, off, rfl, hcu⟩ := HIL.out.get k hkn
          have HT : Hid (used.take (k + 1) = used.take k ++ [used[k]'hkn]) := Lib.hid (List.take_succ_eq_append_getElem hkn)
          generalize used[k]'hkn = u at hcu HT
          have HKM := Lib.hid (And.intro hkm hj)
          have hinck : IntKind.i64.wrap ((k : Int) + 1) = (k : Int) + 1 := by rw [IntKind.wrap_i64]; omega
          clear hkm hj HJ HSH
          by_cases hu : u = (i : Int)
          · subst hu
            go_wp2_with fail
            go_roundg n
            case measure => omega
            case rel =>
              have hmem : (i : Int) ∈ used := List.mem_of_mem_take (i := k + 1) (by rw [HT.out]; simp)
              exact ⟨i + 1, s1, d1, by have := HN.out; omega, by go_num, Lib.hid ⟨⟨by rw [HI.out.1.1, Ring.keepFrom_used s1 d1 HN.out hmem], HI.out.1.2.1, HI.out.1.2.2⟩, by have := HI.out.2; omega, by have := HI.out.2; omega, by have := HI.out.2; omega⟩⟩
          · have hu1 : (u == (i : Int)) = false := by rw [beq_eq_false_iff_ne]; exact hu
            go_wp2_with fail
            go_roundg m
            case measure => omega
            case rel => exact ⟨k + 1, by have := HKM.out.1; omega, by go_num, Lib.hid ⟨fun x hx => by
              rw [HT.out] at hx
              rcases List.mem_append.1 hx with hx | hx
              · exact HKM.out.2 x hx
              · rw [List.mem_singleton.1 hx]; exact hu, rfl⟩⟩
end
end Go.Proofs.YthadcmbbdggneaaGreatDoor
