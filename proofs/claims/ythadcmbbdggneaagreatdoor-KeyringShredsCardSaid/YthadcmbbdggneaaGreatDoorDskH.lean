/-
  The calls that look at a disk, and those that schedule a loss. Made by wip/gen/mkdsklook.py.
-/
import Derived.Test.YthadcmbbdggneaaGreatDoorDskD
namespace Go.Proofs.YthadcmbbdggneaaGreatDoor
open Go.RowKit
set_option linter.unusedVariables false

theorem size_any {w : World} {g bd mb : Nat} {d : Dsk.St} (h : DiskAt w g bd mb d) :
    Calls Tryz.prog 36 #[.pointer (some ⟨g, 0, none⟩)] w fun r w' => r = .returned (.int .i64 (d.secs.length : Int)) ∧ w = w' := by
  have HW := Lib.hid (works_any h)
  obtain ⟨l0, k0, t0, hc, _⟩ := h.cells
  obtain ⟨c0, _⟩ := cells9 hc
  generalize d.secs.length = n at c0 ⊢
  clear hc h
  go_enter Tryz.func36, Tryz.ntmps36
  go_wp2_with fail
  refine HW.out.mono ?_
  rintro r w1 ⟨rfl, rfl⟩
  go_wp2_with fail
  go_ret
  exact ⟨rfl, rfl⟩
theorem up_any {w : World} {g bd mb : Nat} {d : Dsk.St} (h : DiskAt w g bd mb d) :
    Calls Tryz.prog 16 #[.pointer (some ⟨g, 0, none⟩)] w fun r w' => r = .returned (.bool d.up) ∧ w = w' := by
  have HW := Lib.hid (works_any h)
  obtain ⟨l0, k0, t0, hc, _⟩ := h.cells
  obtain ⟨_, _, c, _⟩ := cells9 hc
  generalize d.up = n at c ⊢
  clear hc h
  go_enter Tryz.func16, Tryz.ntmps16
  go_wp2_with fail
  refine HW.out.mono ?_
  rintro r w1 ⟨rfl, rfl⟩
  go_wp2_with fail
  go_ret
  exact ⟨rfl, rfl⟩
theorem calm_any {w : World} {g bd mb : Nat} {d : Dsk.St} (h : DiskAt w g bd mb d) :
    Calls Tryz.prog 12 #[.pointer (some ⟨g, 0, none⟩)] w fun r w' => r = .returned (.tuple #[]) ∧ DiskAt w' g bd mb (Dsk.calm d) ∧ Mv w w' [g, bd, mb] := by
  have HW := Lib.hid (works_any h)
  obtain ⟨l0, k0, t0, hc, hr⟩ := h.cells
  have c8 := (cells9 hc).2.2.2.2.2.2.2.2
  have f8 := hc.free 8
  have HFIN : Hid (DiskAt (w.setCell ⟨g, 8, none⟩ (.bool false)) g bd mb (Dsk.calm d) ∧ Mv w (w.setCell ⟨g, 8, none⟩ (.bool false)) [g, bd, mb]) := Lib.hid (by
    have ho := Only.set w g 8 (.bool false)
    exact ⟨h.cells' (d' := Dsk.calm d) rfl ho (l0 := l0) (k0 := k0) (t0 := t0) (hc.set 8 _) (fun n f e => by cases e), Mv.of_only ho (by simp)⟩)
  clear hc hr h
  go_enter Tryz.func12, Tryz.ntmps12
  go_wp2_with fail
  refine HW.out.mono ?_
  rintro r w1 ⟨rfl, rfl⟩
  go_wp2_with fail
  go_end0
  exact ⟨rfl, HFIN.out⟩
theorem arm_any {w : World} {g bd mb : Nat} {d : Dsk.St} (h : DiskAt w g bd mb d) (n : Int) (hn : n ≤ 9223372036854775807) (f : Dsk.Fall) (hf : Fok f) :
    Calls Tryz.prog 15 #[.pointer (some ⟨g, 0, none⟩), .int .i64 n, .agg #[.int .u64 (f.keep : Int), .int .i64 f.tear]] w (DPost w g bd mb (Dsk.armed d n f).1 (Dsk.armed d n f).2) := by
  have hA : Dsk.armed d n f = if d.up = false then (8, d) else if n < 0 then (1, d) else (0, { d with arm := some (n.toNat, f) }) := rfl
  have hb0 : Below w.heap.size w (w.alloc (.cells #[.int .u64 (f.keep : Int), .int .i64 f.tear] 36)) := (Below.refl _ w).alloc (Nat.le_refl _) _
  have hd1 := h.below hb0
  have HP := Lib.hid (powered_any hd1)
  have hn1 := Has.made w 36 #[.int .u64 (f.keep : Int), .int .i64 f.tear]
  obtain ⟨l0, k0, t0, hc, hr⟩ := hd1.cells
  obtain ⟨_, _, _, _, _, c5, c6, c7, c8⟩ := cells9 hc
  have f5 := hc.free 5
  have f6 := hc.free 6
  have f7 := hc.free 7
  have f8 := hc.free 8
  have b0 := hn1.cell 0
  have b1 := hn1.cell 1
  simp only [List.getElem?_toArray, List.getElem?_cons_zero, List.getElem?_cons_succ] at b0 b1
  have HM := Lib.hid (Mv.of_below hb0 [g, bd, mb])
  have HFIN : Hid (∀ (_ : 0 ≤ n), DPost w g bd mb 0 { d with arm := some (n.toNat, f) } (.returned (.int .i64 0)) (((((w.alloc (.cells #[.int .u64 (f.keep : Int), .int .i64 f.tear] 36)).setCell ⟨g, 5, none⟩ (.int .i64 n)).setCell ⟨g, 6, none⟩ (.int .u64 (f.keep : Int))).setCell ⟨g, 7, none⟩ (.int .i64 f.tear)).setCell ⟨g, 8, none⟩ (.bool true))) := Lib.hid (fun h0 => by
    have ho := (((Only.set (w.alloc (.cells #[.int .u64 (f.keep : Int), .int .i64 f.tear] 36)) g 5 (.int .i64 n)).trans (Only.set _ g 6 (.int .u64 (f.keep : Int)))).trans (Only.set _ g 7 (.int .i64 f.tear))).trans (Only.set _ g 8 (.bool true))
    refine ⟨rfl, hd1.cells' (d' := { d with arm := some (n.toNat, f) }) rfl ho (l0 := n) (k0 := (f.keep : Int)) (t0 := f.tear) ?_ ?_, HM.out.trans (Mv.of_only ho (by simp))⟩
    · exact (((hc.set 5 (.int .i64 n)).set 6 (.int .u64 (f.keep : Int))).set 7 (.int .i64 f.tear)).set 8 (.bool true)
    · intro n' f' e
      injection e with e
      injection e with e1 e2
      subst e1 e2
      exact ⟨by omega, rfl, rfl, by omega, hf⟩)
  have HD1 := Lib.hid hd1
  obtain ⟨a, hka⟩ : ∃ a : Int, (f.keep : Int) = a := ⟨_, rfl⟩
  obtain ⟨t, hkt⟩ : ∃ t : Int, f.tear = t := ⟨_, rfl⟩
  have hlt := h.lt
  rw [hka, hkt] at HP b0 b1 c5 c6 c7 c8 f5 f6 f7 f8 HM HFIN HD1 ⊢
  clear hc hr hn1 hd1 h hb0 hka hkt
  by_cases hu : d.up = true
  · rw [if_neg (by rw [hu]; decide)] at hA
    rw [hu] at HP
    by_cases h0 : n < 0
    · rw [if_pos h0] at hA
      have HA := Lib.hid hA; clear hA
      clear c5 c6 c7 c8 f5 f6 f7 f8
      go_enter Tryz.func15, Tryz.ntmps15
      go_wp2_with fail
      refine HP.out.mono ?_
      rintro r w1 ⟨rfl, rfl⟩
      go_wp2_with fail
      go_ret
      rw [HA.out]
      exact ⟨rfl, HD1.out, HM.out⟩
    · have h0' : 0 ≤ n := by omega
      rw [if_neg h0] at hA
      have HA := Lib.hid hA; clear hA
      have HFIN1 := Lib.hid (HFIN.out h0')
      clear HFIN
      obtain ⟨W, hW⟩ : ∃ W, w.alloc (.cells #[.int .u64 a, .int .i64 t] 36) = W := ⟨_, rfl⟩
      have hgb : g ≠ w.heap.size := by omega
      have hWs : W.heap.size = w.heap.size + 1 := by rw [← hW]; exact asize _ _
      go_enter Tryz.func15, Tryz.ntmps15
      go_upto_region 1 with (fail)
      rw [hW] at HP b0 b1 c5 c6 c7 c8 f5 f6 f7 f8 HFIN1
      try rw [hW]
      clear hW
      go_wp2_with fail
      refine HP.out.mono ?_
      rintro r w1 ⟨rfl, rfl⟩
      go_wp2_with fail
      go_ret
      rw [HA.out]
      exact HFIN1.out
  · have hu' : d.up = false := by simpa using hu
    rw [if_pos hu'] at hA
    rw [hu'] at HP
    have HA := Lib.hid hA; clear hA
    clear c5 c6 c7 c8 f5 f6 f7 f8
    go_enter Tryz.func15, Tryz.ntmps15
    go_wp2_with fail
    refine HP.out.mono ?_
    rintro r w1 ⟨rfl, rfl⟩
    go_wp2_with fail
    go_ret
    rw [HA.out]
    exact ⟨rfl, HD1.out, HM.out⟩
/-- The stamp of a sector, or nought. -/
def Dsk.stamp (d : Dsk.St) (i : Int) : Nat := if 0 ≤ i then ((d.secs[i.toNat]?).map Dsk.Sec.at_).getD 0 else 0
end Go.Proofs.YthadcmbbdggneaaGreatDoor
