/-
  A guard is made, and a sector is put: guard's New and Put.
-/
import Derived.Test.YthadcmbbdggneaaGreatDoorGrdM
import Derived.Test.YthadcmbbdggneaaGreatDoorGrdRun
import Derived.Deep.RegionHeld3
import Derived.Deep.DeepCutAuto
import Derived.Deep.CutBlock
namespace Go.Proofs.YthadcmbbdggneaaGreatDoor
open Go.RowKit
set_option linter.unusedVariables false

/-- A new guard of the disk in blocks g, bd, mb. -/
def NewGPost (w : World) (g bd mb boot : Nat) (d : Dsk.St) (e : Ending) (w' : World) : Prop :=
  ∃ gg, e = .returned (.tuple #[.pointer (some ⟨gg, 0, none⟩), .int .i64 0]) ∧ GuardAt w' gg g bd mb boot 0 d ∧ Below w.heap.size w w' ∧ w.heap.size ≤ gg
set_option maxRecDepth 100000 in
theorem gnew_any {w : World} {g bd mb : Nat} {d : Dsk.St} (h : DiskAt w g bd mb d) (boot : Nat) (h1 : 1 ≤ boot) (h2 : boot ≤ 2147483647) :
    Calls Tryz.prog 19 #[.pointer (some ⟨g, 0, none⟩), .int .i64 (boot : Int)] w (NewGPost w g bd mb boot d) := by
  have HS := Lib.hid (size_any h)
  have hpos := h.pos
  have hb0 : Below w.heap.size w (w.alloc (.cells #[.pointer (some ⟨g, 0, none⟩), .int .i64 (boot : Int), .int .i64 0] 79)) := (Below.refl _ w).alloc (Nat.le_refl _) _
  have hlt := h.lt
  have HF : Hid (GuardAt (w.alloc (.cells #[.pointer (some ⟨g, 0, none⟩), .int .i64 (boot : Int), .int .i64 0] 79)) w.heap.size g bd mb boot 0 d) :=
    Lib.hid ⟨Has.made w _ _, h.below hb0, by omega, by omega, by omega, h1, h2⟩
  have HB := Lib.hid hb0
  clear hb0 hlt h
  have hn : ((d.secs.length : Int) == 0) = false := by rw [beq_eq_false_iff_ne]; omega
  generalize d.secs.length = n at HS hn
  have k1 : ¬ (boot : Int) < 1 := by omega
  have k2 : ¬ (2147483647 : Int) < (boot : Int) := by omega
  clear hpos h1 h2
  go_enter Tryz.func19, Tryz.ntmps19
  go_wp2_with fail
  refine HS.out.mono ?_
  rintro r w1 ⟨rfl, rfl⟩
  go_wp2_with fail
  go_ret2
  exact ⟨w.heap.size, rfl, HF.out, HB.out, Nat.le_refl _⟩
set_option maxRecDepth 100000 in
theorem gnew_bad {w : World} {g bd mb : Nat} {d : Dsk.St} (h : DiskAt w g bd mb d) (i : Int) (hi : i < 1 ∨ 2147483647 < i) :
    Calls Tryz.prog 19 #[.pointer (some ⟨g, 0, none⟩), .int .i64 i] w fun e w' => e = .returned (.tuple #[.pointer none, .int .i64 1]) ∧ w = w' := by
  have HS := Lib.hid (size_any h)
  have hpos := h.pos
  clear h
  have hn : ((d.secs.length : Int) == 0) = false := by rw [beq_eq_false_iff_ne]; omega
  generalize d.secs.length = n at HS hn
  clear hpos
  by_cases k1 : i < 1
  · go_enter Tryz.func19, Tryz.ntmps19
    go_wp2_with fail
    refine HS.out.mono ?_
    rintro r w1 ⟨rfl, rfl⟩
    go_wp2_with fail
    go_ret2
    exact ⟨rfl, rfl⟩
  · have k2 : (2147483647 : Int) < i := by omega
    clear hi
    go_enter Tryz.func19, Tryz.ntmps19
    go_wp2_with fail
    refine HS.out.mono ?_
    rintro r w1 ⟨rfl, rfl⟩
    go_wp2_with fail
    go_ret2
    exact ⟨rfl, rfl⟩

theorem guard_count {w w2 : World} {gg g bd mb boot wr : Nat} {d : Dsk.St} (h : GuardAt w2 gg g bd mb boot wr d) (hm : Mv w w2 [g, bd, mb]) :
    GuardAt (w2.setCell ⟨gg, 2, none⟩ (.int .i64 ((wr : Int) + 1))) gg g bd mb boot (wr + 1) d ∧ Mv w (w2.setCell ⟨gg, 2, none⟩ (.int .i64 ((wr : Int) + 1))) [gg, g, bd, mb] := by
  have ho := Only.set w2 gg 2 (.int .i64 ((wr : Int) + 1))
  have hm2 : Mv w2 (w2.setCell ⟨gg, 2, none⟩ (.int .i64 ((wr : Int) + 1))) [gg] := Mv.of_only ho (by simp)
  refine ⟨⟨?_, h.disk.mv hm2 (by simp [h.n1.symm]) (by simp [h.n2.symm]) (by simp [h.n3.symm]), h.n1, h.n2, h.n3, h.lo, h.hi⟩, (hm.wide (by simp)).trans (hm2.wide (by simp))⟩
  have := h.cells.set 2 (.int .i64 ((wr : Int) + 1))
  have e : ((wr + 1 : Nat) : Int) = (wr : Int) + 1 := by omega
  rw [e]
  exact this
def PutPost (w : World) (gg g bd mb boot : Nat) (r : Int × Int × Nat × Dsk.St) (e : Ending) (w' : World) : Prop :=
  e = .returned (.tuple #[.int .i64 r.1, .int .i64 r.2.1]) ∧ GuardAt w' gg g bd mb boot r.2.2.1 r.2.2.2 ∧ Mv w w' [gg, g, bd, mb]
set_option maxRecDepth 100000 in
set_option maxHeartbeats 2000000 in
theorem gput_any {w : World} {gg g bd mb boot wr : Nat} {d : Dsk.St} (h : GuardAt w gg g bd mb boot wr d) (hwr : wr ≤ 4294967295) (ha : d.acts < 1000000000000) (hfl : d.falls < 1000000000000) (i : Int) (s : List UInt8) :
    Calls Tryz.prog 44 #[.pointer (some ⟨gg, 0, none⟩), .int .i64 i, .string (S s)] w (PutPost w gg g bd mb boot (Grd.put boot wr d i s)) := by
  have HD := Lib.hid (gdisk_any h)
  have hP : Grd.put boot wr d i s = if 47 < s.length then (0, 3, wr, d) else if wr = 4294967295 then (0, 6, wr, d)
    else if (Dsk.write d i (Grd.grd (Grd.stamp boot wr) s)).1 ≠ 0 then (0, (Dsk.write d i (Grd.grd (Grd.stamp boot wr) s)).1, wr, (Dsk.write d i (Grd.grd (Grd.stamp boot wr) s)).2)
    else ((Grd.stamp boot wr : Int), 0, wr + 1, (Dsk.write d i (Grd.grd (Grd.stamp boot wr) s)).2) := rfl
  generalize Grd.put boot wr d i s = res at hP ⊢
  unfold PutPost
  by_cases hl : 47 < s.length
  · rw [if_pos hl] at hP
    subst hP
    have hl' : (47 : Int) < (s.length : Int) := by omega
    have H := Lib.hid h
    clear h ha hfl hwr hl
    go_enter Tryz.func44, Tryz.ntmps44
    go_wp2_with fail
    refine HD.out.mono ?_
    rintro r w1 ⟨rfl, rfl⟩
    go_wp2_with fail
    go_ret2
    exact ⟨rfl, H.out, Mv.refl _ _⟩
  · rw [if_neg hl] at hP
    have hl' : ¬ (47 : Int) < (s.length : Int) := by omega
    obtain ⟨c0, c1, c2⟩ := h.cell0
    by_cases hw : wr = 4294967295
    · rw [if_pos hw] at hP
      subst hP
      have hw' : ((wr : Int) == 4294967295) = true := by rw [hw]; rfl
      have H := Lib.hid h
      clear h ha hfl hwr hl hw
      go_enter Tryz.func44, Tryz.ntmps44
      go_wp2_with fail
      refine HD.out.mono ?_
      rintro r w1 ⟨rfl, rfl⟩
      go_wp2_with fail
      go_ret2
      exact ⟨rfl, H.out, Mv.refl _ _⟩
    · rw [if_neg hw] at hP
      have hw' : ((wr : Int) == 4294967295) = false := by rw [beq_eq_false_iff_ne]; omega
      have hlo := h.lo
      have hhi := h.hi
      have hst : Grd.stamp boot wr < 9223372036854775808 := by unfold Grd.stamp; omega
      have HG : Hid (∀ W, Calls Tryz.prog 53 #[.int .i64 (Grd.stamp boot wr : Int), .string (S s)] W fun e w' => e = .returned (.string (S (Grd.grd (Grd.stamp boot wr) s))) ∧ Below W.heap.size W w') :=
        Lib.hid (fun W => guarded_any (Grd.stamp boot wr) s (by omega) (by omega) W)
      have HW : Hid (∀ W, Below w.heap.size w W → Calls Tryz.prog 52 #[.pointer (some ⟨g, 0, none⟩), .int .i64 i, .string (S (Grd.grd (Grd.stamp boot wr) s))] W (DPost W g bd mb (Dsk.write d i (Grd.grd (Grd.stamp boot wr) s)).1 (Dsk.write d i (Grd.grd (Grd.stamp boot wr) s)).2)) :=
        Lib.hid (fun W hb => write_any (h.disk.below hb) ha hfl i _ (by rw [Grd.grd_len (by omega)]; decide))
      have hsum : IntKind.i64.wrap ((boot : Int) * 4294967296) = (boot : Int) * 4294967296 := by rw [IntKind.wrap_i64]; omega
      have hsum2 : IntKind.i64.wrap ((boot : Int) * 4294967296 + (wr : Int)) = (boot : Int) * 4294967296 + (wr : Int) := by rw [IntKind.wrap_i64]; omega
      have hsum3 : IntKind.i64.wrap ((boot : Int) * 4294967296 + (wr : Int) + 1) = (Grd.stamp boot wr : Int) := by rw [IntKind.wrap_i64]; unfold Grd.stamp; omega
      generalize Grd.grd (Grd.stamp boot wr) s = b at HG HW hP
      generalize Grd.stamp boot wr = st at HG hP hsum3
      generalize Dsk.write d i b = x at HW hP
      obtain ⟨c, d'⟩ := x
      unfold DPost at HW
      dsimp only at HW hP
      have H := Lib.hid h
      have HP := Lib.hid hP
      have HWR := Lib.hid hwr
      have h0 := h.cells.free 2
      have HK : Hid (∀ W, Below w.heap.size w W → W.cell? ⟨gg, 0, none⟩ = some (.pointer (some ⟨g, 0, none⟩))) := Lib.hid (fun W hb => (h.below hb).cell0.1)
      have HK2 : Hid (∀ W W' d', Below w.heap.size w W → DiskAt W' g bd mb d' → Mv W W' [g, bd, mb] → GuardAt W' gg g bd mb boot wr d' ∧ Mv w W' [g, bd, mb]) :=
        Lib.hid (fun W W' d' hb hd hm => ⟨(h.below hb).turn hd hm, (Mv.of_below hb _).trans hm⟩)
      clear h ha hfl hwr hl hw hlo hhi hst hP
      go_enter Tryz.func44, Tryz.ntmps44
      go_wp2_with fail
      refine HD.out.mono ?_
      rintro r w1 ⟨rfl, rfl⟩
      go_upto_region 7 with fail
      go_quiet (fail)
      go_upto_region 8 with fail
      have hb0 : Below w.heap.size w (w.drewN nq).drew := (below_drewN (Below.refl _ w) nq).drew
      have hy : (w.drewN nq).cell? ⟨gg, 0, none⟩ = some (.pointer (some ⟨g, 0, none⟩)) := c0
      have CC := Lib.hid (And.intro c1 c2)
      clear c0 c1 c2 hsum hsum2 hsum3 HD h0
      go_region_held3 (fun w' => w'.cell? ⟨gg, 0, none⟩ = some (.pointer (some ⟨g, 0, none⟩))) (first | exact hy | go_keep) (first
        | (go_at_call 53; refine (HG.out _).mono ?_; rintro r w1 ⟨rfl, hb1⟩; have hb0 := hb0.trans (hb1.mono hb0.size); have hy := HK.out w1 hb0; clear hb1)
        | (go_at_call 52; refine (HW.out _ hb0).mono ?_; rintro r w2 ⟨rfl, hd, hm⟩; have HF := Lib.hid (HK2.out _ _ _ hb0 hd hm); have hy := HF.out.1.cell0.1; clear hd hm))
      clear hb0 HK HK2 HG HW H CC
      by_cases hc : c = 0
      · subst hc
        have hR := HP.out
        rw [if_neg (by simp)] at hR
        subst hR
        obtain ⟨_, _, c2⟩ := HF.out.1.cell0
        have h0 := HF.out.1.cells.free 2
        have HN := Lib.hid (guard_count HF.out.1 HF.out.2)
        have hsw : IntKind.i64.wrap ((wr : Int) + 1) = (wr : Int) + 1 := by
          have := HWR.out
          rw [IntKind.wrap_i64]
          omega
        have hcast : ((wr + 1 : Nat) : Int) = (wr : Int) + 1 := by omega
        go_wp2_with fail
        go_ret2
        exact ⟨rfl, HN.out.1, HN.out.2⟩
      · have hR := HP.out
        rw [if_pos hc] at hR
        subst hR
        have hc' : (c == 0) = false := by rw [beq_eq_false_iff_ne]; exact hc
        go_wp2_with fail
        go_ret2
        exact ⟨rfl, HF.out.1, HF.out.2.wide (by simp)⟩
end Go.Proofs.YthadcmbbdggneaaGreatDoor
