/-
  An act, a crash, a start: the contracts.
-/
import Derived.Test.YthadcmbbdggneaaGreatDoorDskC
namespace Go.Proofs.YthadcmbbdggneaaGreatDoor
open Go.RowKit
set_option linter.unusedVariables false

/-- The disk's answer c, and the disk d' behind it. -/
def DPost (w : World) (g bd mb : Nat) (c : Int) (d' : Dsk.St) (e : Ending) (w' : World) : Prop := e = .returned (.int .i64 c) ∧ DiskAt w' g bd mb d' ∧ Mv w w' [g, bd, mb]
def ActPost (w : World) (g bd mb : Nat) (d : Dsk.St) (e : Ending) (w' : World) : Prop := DPost w g bd mb (if (Dsk.act d).1 = true then 0 else 8) (Dsk.act d).2 e w'

/-- The disk's own cells are written anew. -/
theorem DiskAt.cells' {w w' : World} {g bd mb : Nat} {d d' : Dsk.St} {l0 k0 t0 : Int} (h : DiskAt w g bd mb d) (hs : d'.secs = d.secs) (ho : Only w w' g)
    (hc : Has w' g 77 (dskCells bd mb d.secs.length d'.up d'.acts d'.falls l0 k0 t0 d'.arm.isSome)) (harm : ArmOk d'.arm l0 k0 t0) : DiskAt w' g bd mb d' := by
  obtain ⟨_, h2, h3⟩ := h.lt
  have e2 := ho.block bd h2 (by have := h.n1; simp; omega)
  have e3 := ho.block mb h3 (by have := h.n2; simp; omega)
  refine ⟨⟨l0, k0, t0, by rw [hs]; exact hc, harm⟩, by rw [hs]; exact h.rows.keep e2, ?_, ?_, h.n1, h.n2, h.n3, by rw [hs]; exact h.pos, by rw [hs]; exact h.most⟩
  · rw [hs]; exact h.pend.keep e3
  · intro s hs'; rw [hs] at hs'; exact h.good s hs'

set_option maxRecDepth 100000 in
set_option maxHeartbeats 2000000 in
theorem act_any {w : World} {g bd mb : Nat} {d : Dsk.St} (h : DiskAt w g bd mb d) (ha : d.acts < 1000000000000) (hfl : d.falls < 1000000000000) :
    Calls Tryz.prog 62 #[.pointer (some ⟨g, 0, none⟩)] w (ActPost w g bd mb d) := by
  obtain ⟨l0, k0, t0, hc, hr⟩ := h.cells
  obtain ⟨c0, c1, c2, c3, c4, c5, c6, c7, c8⟩ := cells9 hc
  have f3 := hc.free 3
  have f5 := hc.free 5
  have a0 : (0 : Int) ≤ (d.acts : Int) := by omega
  have a1 : (d.acts : Int) < 1000000000000 := by omega
  clear c0 c1 c2 c4
  cases harm : d.arm with
  | none =>
    rw [harm] at c8 hc
    have hA : Dsk.act d = (true, { d with acts := d.acts + 1 }) := by unfold Dsk.act; rw [harm]
    have HFIN : Hid (ActPost w g bd mb d (.returned (.int .i64 0)) (w.setCell ⟨g, 3, none⟩ (.int .i64 ((d.acts : Int) + 1)))) := Lib.hid (by
      unfold ActPost
      rw [hA]
      have ho := Only.set w g 3 (.int .i64 ((d.acts : Int) + 1))
      exact ⟨rfl, h.cells' rfl ho (l0 := l0) (k0 := k0) (t0 := t0) (by dsimp only; rw [harm]; exact hc.set 3 _) (by intro n f e; rw [harm] at e; cases e), Mv.of_only ho (by simp)⟩)
    clear hA hr hc h harm c5 c6 c7 f5
    go_enter Tryz.func62, Tryz.ntmps62
    go_wp2_with fail
    go_ret
    exact HFIN.out
  | some p =>
    obtain ⟨n, f⟩ := p
    obtain ⟨rfl, rfl, rfl, hn, hf⟩ := hr n f harm
    rw [harm] at c8 hc
    cases n with
    | zero =>
      have hA : Dsk.act d = (false, Dsk.fall f d) := by unfold Dsk.act; rw [harm]
      have HF := Lib.hid (fail_any h hfl f hf)
      have HA := Lib.hid hA
      clear hA hr hc h harm hn f3 f5 c3
      go_enter Tryz.func62, Tryz.ntmps62
      go_wp2_with fail
      refine HF.out.mono ?_
      rintro r w1 ⟨rfl, hd, hm⟩
      go_wp2_with fail
      go_ret
      unfold ActPost
      rw [HA.out]
      exact ⟨rfl, hd, hm⟩
    | succ n =>
      have hA : Dsk.act d = (true, { d with arm := some (n, f), acts := d.acts + 1 }) := by unfold Dsk.act; rw [harm]
      have HFIN : Hid (ActPost w g bd mb d (.returned (.int .i64 0)) ((w.setCell ⟨g, 5, none⟩ (.int .i64 (n : Int))).setCell ⟨g, 3, none⟩ (.int .i64 ((d.acts : Int) + 1)))) := Lib.hid (by
        unfold ActPost
        rw [hA]
        have ho := (Only.set w g 5 (.int .i64 (n : Int))).trans (Only.set _ g 3 (.int .i64 ((d.acts : Int) + 1)))
        refine ⟨rfl, h.cells' (d' := { d with arm := some (n, f), acts := d.acts + 1 }) rfl ho (l0 := (n : Int)) (k0 := (f.keep : Int)) (t0 := f.tear) ?_ ?_, Mv.of_only ho (by simp)⟩
        · have h2 := (hc.set 5 (.int .i64 (n : Int))).set 3 (.int .i64 ((d.acts : Int) + 1))
          exact h2
        · intro n' f' e
          injection e with e
          injection e with e1 e2
          subst e1 e2
          exact ⟨rfl, rfl, rfl, by omega, hf⟩)
      have c5' : w.cell? ⟨g, 5, none⟩ = some (.int .i64 ((n : Int) + 1)) := by rw [c5]; congr 2
      have hne : ((n : Int) + 1 == 0) = false := by rw [beq_eq_false_iff_ne]; omega
      have n0 : (0 : Int) ≤ (n : Int) := by omega
      have n1 : (n : Int) < 9223372036854775807 := by omega
      clear hA hr hc h harm c6 c7 c5 hn
      go_enter Tryz.func62, Tryz.ntmps62
      go_wp2_with fail
      go_ret
      exact HFIN.out

/-! a crash -/
theorem crash_any {w : World} {g bd mb : Nat} {d : Dsk.St} (h : DiskAt w g bd mb d) (hfl : d.falls < 1000000000000) (f : Dsk.Fall) (hf : Fok f) :
    Calls Tryz.prog 27 #[.pointer (some ⟨g, 0, none⟩), .agg #[.int .u64 (f.keep : Int), .int .i64 f.tear]] w (DPost w g bd mb (Dsk.crash d f).1 (Dsk.crash d f).2) := by
  have hP := fun W (hW : DiskAt W g bd mb d) => powered_any hW
  have hF := fun W (hW : DiskAt W g bd mb d) => fail_any hW hfl f hf
  have hC : Dsk.crash d f = if d.up = false then (8, d) else (0, Dsk.fall f d) := rfl
  generalize Dsk.crash d f = cr at hC ⊢
  have HC := Lib.hid hC; clear hC
  have H := Lib.hid h
  obtain ⟨a, ha'⟩ : ∃ a : Int, (f.keep : Int) = a := ⟨_, rfl⟩
  obtain ⟨t, ht'⟩ : ∃ t : Int, f.tear = t := ⟨_, rfl⟩
  have hb0 : Below w.heap.size w (w.alloc (.cells #[.int .u64 a, .int .i64 t] 36)) := (Below.refl _ w).alloc (Nat.le_refl _) _
  have hd1 := h.below hb0
  have HD := Lib.hid (And.intro hd1 (Mv.of_below hb0 [g, bd, mb]))
  rw [ha', ht'] at hF ⊢
  clear h ha' ht' hb0 hd1
  have HP : Hid _ := hP; clear hP
  have HF : Hid _ := hF; clear hF
  generalize hup : d.up = up at HP
  have HUP := Lib.hid hup; clear hup
  cases up
  · go_enter Tryz.func27, Tryz.ntmps27
    go_wp2_with fail
    refine (HP.out _ HD.out.1).mono ?_
    rintro r w1 ⟨rfl, rfl⟩
    go_wp2_with fail
    go_ret
    rw [HC.out, if_pos HUP.out]
    exact ⟨rfl, HD.out.1, HD.out.2⟩
  · go_enter Tryz.func27, Tryz.ntmps27
    go_wp2_with fail
    refine (HP.out _ HD.out.1).mono ?_
    rintro r w1 ⟨rfl, rfl⟩
    go_wp2_with fail
    refine (HF.out _ HD.out.1).mono ?_
    rintro r w1 ⟨rfl, hd, hm⟩
    go_wp2_with fail
    go_ret
    rw [HC.out, if_neg (by rw [HUP.out]; decide)]
    exact ⟨rfl, hd, HD.out.2.trans hm⟩

/-! a start -/
theorem start_any {w : World} {g bd mb : Nat} {d : Dsk.St} (h : DiskAt w g bd mb d) :
    Calls Tryz.prog 28 #[.pointer (some ⟨g, 0, none⟩)] w (DPost w g bd mb (Dsk.start d).1 (Dsk.start d).2) := by
  have HW := Lib.hid (works_any h)
  obtain ⟨l0, k0, t0, hc, hr⟩ := h.cells
  obtain ⟨_, _, c2, _⟩ := cells9 hc
  have f2 := hc.free 2
  have hS : Dsk.start d = if d.up = true then (25, d) else (0, { d with up := true }) := rfl
  cases hup : d.up with
  | true =>
    rw [hup] at c2
    rw [if_pos hup] at hS
    have HFIN : Hid (DPost w g bd mb (Dsk.start d).1 (Dsk.start d).2 (.returned (.int .i64 25)) w) := Lib.hid (by rw [hS]; exact ⟨rfl, h, Mv.refl _ _⟩)
    clear hS hc hr h
    go_enter Tryz.func28, Tryz.ntmps28
    go_wp2_with fail
    refine HW.out.mono ?_
    rintro r w1 ⟨rfl, rfl⟩
    go_wp2_with fail
    go_ret
    exact HFIN.out
  | false =>
    rw [hup] at c2
    rw [if_neg (by rw [hup]; decide)] at hS
    have HFIN : Hid (DPost w g bd mb (Dsk.start d).1 (Dsk.start d).2 (.returned (.int .i64 0)) (w.setCell ⟨g, 2, none⟩ (.bool true))) := Lib.hid (by
      rw [hS]
      have ho := Only.set w g 2 (.bool true)
      exact ⟨rfl, h.cells' (d' := { d with up := true }) rfl ho (l0 := l0) (k0 := k0) (t0 := t0) (hc.set 2 _) hr, Mv.of_only ho (by simp)⟩)
    clear hS hc hr h
    go_enter Tryz.func28, Tryz.ntmps28
    go_wp2_with fail
    refine HW.out.mono ?_
    rintro r w1 ⟨rfl, rfl⟩
    go_wp2_with fail
    go_ret
    exact HFIN.out
end Go.Proofs.YthadcmbbdggneaaGreatDoor
