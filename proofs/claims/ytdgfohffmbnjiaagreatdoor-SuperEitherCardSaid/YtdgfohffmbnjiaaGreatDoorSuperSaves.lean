/-
  The contract of SuperSaves. Made by wip/gen/mksupers.py.
-/
import Derived.Test.YtdgfohffmbnjiaaGreatDoorSupGrd
import Derived.Test.YtdgfohffmbnjiaaGreatDoorSupArg
import Derived.Test.YtdgfohffmbnjiaaGreatDoorLaw
import Derived.Test.YtdgfohffmbnjiaaGreatDoorRows
import Derived.SizedLaws
namespace Go.Proofs.YtdgfohffmbnjiaaGreatDoor
open Go.ChangeShapes Go.WideShapes Go.ChangeAt Go.RowKit
open Go.ChangeMaps (open_string shut_string)
set_option linter.unusedVariables false

namespace Sup
open Dsk (St)
theorem waits_none : ∀ (L : List Dsk.Sec) (o : Nat), (∀ x ∈ L, x.pend = none) → Dsk.waitsFrom o L = [] := by
  intro L
  induction L with
  | nil => intros; rfl
  | cons x r ih =>
    intro o h
    unfold Dsk.waitsFrom
    rw [h x (by simp)]
    exact ih (o + 1) (fun y hy => h y (by simp [hy]))
/-- The disk behind the first save. -/
def sd (s : Sup) : St := saved 1 0 (Dsk.fresh 4) s
theorem sd_len (s : Sup) : (sd s).secs.length = 4 := by
  show (List.map _ (List.modify _ _ _)).length = 4
  rw [List.length_map, List.length_modify]
  exact List.length_replicate
theorem sd_save {s : Sup} (h : right s = true) : save 1 0 (Dsk.fresh 4) s = (0, 1, sd s) := save_ok h rfl rfl (by decide) (by decide)
theorem sd_waits (s : Sup) : Dsk.waits (sd s).secs = [] := waits_none _ 0 saved_pend
theorem sd_at (s : Sup) : (sd s).secs[at_ s]? = some ⟨Grd.grd (Grd.stamp 1 0) (enc s), 1, none⟩ := saved_at (by decide)
theorem sd_other {s : Sup} {j : Nat} (hj : j ≠ at_ s) (h4 : j < 4) : (sd s).secs[j]? = some ⟨Grd.noughts, 0, none⟩ := by
  unfold sd
  rw [saved_other hj]
  have e : (Dsk.fresh 4).secs[j]? = some ⟨List.replicate 64 0, 0, none⟩ := by
    show (List.replicate 4 _)[j]? = _
    rw [List.getElem?_replicate, if_pos h4]
  rw [e]
  rfl
theorem stm1 : Grd.Stm (Grd.stamp 1 0) := ⟨by decide, by decide⟩
theorem sd_read {s : Sup} (h : right s = true) : Grd.read (sd s) (s.gen % 2) = (enc s, (Grd.stamp 1 0 : Int), 0) := by
  rw [at_int s, gread_now (d := sd s) rfl (sd_at s)]
  show ((Grd.rd (Grd.grd (Grd.stamp 1 0) (enc s))).1, ((Grd.rd (Grd.grd (Grd.stamp 1 0) (enc s))).2.1 : Int), (Grd.rd (Grd.grd (Grd.stamp 1 0) (enc s))).2.2) = _
  rw [Grd.rd_grd (enc_len h) stm1]
theorem sd_load {s : Sup} (h : right s = true) : load (sd s) = (s, 0) := by
  have hm : s.gen % 2 = 0 ∨ s.gen % 2 = 1 := by omega
  rcases hm with h0 | h0
  · have ha : at_ s = 0 := by unfold at_; rw [h0]; rfl
    have hx := sd_at s
    rw [ha] at hx
    have hl := load_two (d := sd s) rfl hx (sd_other (by rw [ha]; decide) (by decide))
    rw [hl]
    show (match pick (lookB 0 (Grd.grd (Grd.stamp 1 0) (enc s))) (lookB 1 Grd.noughts) with | none => (zero, (7 : Int)) | some s => (s, 0)) = _
    rw [lookB_grd (i := 0) h stm1 h0, lookB_noughts]
    rfl
  · have ha : at_ s = 1 := by unfold at_; rw [h0]; rfl
    have hx := sd_at s
    rw [ha] at hx
    have hl := load_two (d := sd s) rfl (sd_other (j := 0) (by rw [ha]; decide) (by decide)) hx
    rw [hl]
    show (match pick (lookB 0 Grd.noughts) (lookB 1 (Grd.grd (Grd.stamp 1 0) (enc s))) with | none => (zero, (7 : Int)) | some s => (s, 0)) = _
    rw [lookB_grd (i := 1) h stm1 h0, lookB_noughts]
    rfl
end Sup
theorem waitsNone_any {w : World} {g bd mb : Nat} {d : Dsk.St} (h : DiskAt w g bd mb d) (hw : Dsk.waits d.secs = []) :
    Calls Tryz.prog 10 #[.pointer (some ⟨g, 0, none⟩)] w fun e w' => (∃ A cap, e = .returned (.slice A 0 cap)) ∧ Below w.heap.size w w' := by
  have hc := waiting_any h
  rw [hw] at hc
  refine hc.mono ?_
  rintro e w' ⟨v, rfl, ⟨_, hk⟩, hb⟩
  rcases hk with ⟨rfl, _⟩ | ⟨g1, cap, cur, rfl, _⟩
  · exact ⟨⟨_, _, rfl⟩, hb⟩
  · exact ⟨⟨_, _, rfl⟩, hb⟩
/-- The statement's own superblock, and a guard made behind it. -/
theorem GW.first {w W : World} {gg g bd mb boot wr : Nat} {d : Dsk.St} {s : Sup} (h : GW (w.alloc (.cells s.cells 23)) W gg g bd mb boot wr d) : Own W [gg, g, bd, mb] w.heap.size s :=
  ⟨(Has.made w _ _).below h.bel (by simp), fun hm => by have := h.lo _ hm; simp at this; omega⟩
theorem GW.under {w W : World} {gg g bd mb boot wr : Nat} {d : Dsk.St} {o : Obj} (h : GW (w.alloc o) W gg g bd mb boot wr d) : Below w.heap.size w W :=
  have hb := (Below.refl w.heap.size w).alloc (Nat.le_refl _) o
  hb.trans (h.bel.mono hb.size)
theorem GW.grew {w W W' : World} {gg g bd mb boot wr : Nat} {d : Dsk.St} (h : GW w W gg g bd mb boot wr d) (hg : Grew W W') : GW w W' gg g bd mb boot wr d := h.below hg.bel

set_option maxRecDepth 100000 in
set_option maxHeartbeats 8000000 in
theorem ssaves_any (s : Sup) (w : World) :
    Calls Tryz.prog 3 #[s.v] w fun e w' => e = .returned (.bool true) ∧ Below w.heap.size w w' := by
  have HAW : Hid _ := fun W => sawake_any W
  have HM : Hid _ := fun W => smade_any W
  unfold SMadePost at HM
  have HR : Hid (∀ W, Calls Tryz.prog 7 #[.agg #[.int .i64 s.gen, .int .i64 s.boot, .int .i64 s.side, .int .i64 s.seed]] W fun e w' => e = .returned (.bool (Sup.right s)) ∧ Below W.heap.size W w') := Lib.hid (fun W => supRight_any s W)
  have HRL : Hid (∀ W, Calls Tryz.prog 8 #[.agg #[.int .i64 s.gen, .int .i64 s.boot, .int .i64 s.side, .int .i64 s.seed]] W fun e w' => e = .returned (.bool (Sup.right s)) ∧ Below W.heap.size W w') := Lib.hid (fun W => lsright_any s W)
  have HS : Hid (∀ (W : World) (gg g bd mb : Nat), GuardAt W gg g bd mb 1 0 (Dsk.fresh 4) → Calls Tryz.prog 9 #[.pointer (some ⟨gg, 0, none⟩), .agg #[.int .i64 s.gen, .int .i64 s.boot, .int .i64 s.side, .int .i64 s.seed]] W (SavePost W gg g bd mb 1 (Sup.save 1 0 (Dsk.fresh 4) s))) :=
    Lib.hid (fun W gg g bd mb h => ssave_any h (by decide) (by decide) (by decide) s)
  have HOW : Hid (∀ (W : World) (gg g bd mb wr : Nat) (d : Dsk.St), GW (w.alloc (.cells #[.int .i64 s.gen, .int .i64 s.boot, .int .i64 s.side, .int .i64 s.seed] 23)) W gg g bd mb 1 wr d → Own W [gg, g, bd, mb] w.heap.size s) := Lib.hid (fun W gg g bd mb wr d h => GW.first (s := s) h)
  have HLI : Hid (∀ (W : World) (l : List Nat), Own W l w.heap.size s → W.cell? ⟨w.heap.size, 0, none⟩ = some (.int .i64 s.gen) ∧ W.cell? ⟨w.heap.size, 1, none⟩ = some (.int .i64 s.boot) ∧ W.cell? ⟨w.heap.size, 2, none⟩ = some (.int .i64 s.side) ∧ W.cell? ⟨w.heap.size, 3, none⟩ = some (.int .i64 s.seed)) := Lib.hid (fun W l h => h.lies)
  cases hr : Sup.right s with
  | false =>
    rw [Sup.save_bad hr] at HS
    have HW : Hid (∀ (W : World) (g bd mb : Nat), DiskAt W g bd mb (Dsk.fresh 4) → Calls Tryz.prog 10 #[.pointer (some ⟨g, 0, none⟩)] W fun e w' => (∃ A cap, e = .returned (.slice A 0 cap)) ∧ Below W.heap.size W w') := Lib.hid (fun W g bd mb h => waitsNone_any h (by decide))
    unfold SavePost at HS
    rw [hr] at HR HRL
    clear hr
    generalize Dsk.fresh 4 = d0 at HM HS HW
    obtain ⟨x1, x2, x3, x4⟩ := s
    rw [Sup.v_eq]
    dsimp only at HR HRL HS HOW HLI
    go_enter Tryz.func3, Tryz.ntmps3
    go_wp2_with fail
    refine (HM.out _).mono ?_
    rintro r w1 ⟨gg, g, bd, mb, rfl, hg⟩
    have H := Lib.hid hg
    clear hg
    go_upto_region 2 with fail
    have HC : Hid (∀ W, Grew w1 W → W.cell? ⟨w.heap.size, 0, none⟩ = some (.int .i64 x1) ∧ W.cell? ⟨w.heap.size, 1, none⟩ = some (.int .i64 x2) ∧ W.cell? ⟨w.heap.size, 2, none⟩ = some (.int .i64 x3) ∧ W.cell? ⟨w.heap.size, 3, none⟩ = some (.int .i64 x4)) := Lib.hid (fun W hW => HLI.out W _ (HOW.out W gg g bd mb _ _ (H.out.grew hW)))
    refine wp_region_grew (w0 := w1) (by kernel_rfl) (by kernel_rfl) (Below.refl _ _) ?_
    refine wpQuiet_step (fun K hK => ?_)
    go_simp
    apply Exists.intro
    refine ⟨fun W hW => ?_, hK _ ?_⟩
    · obtain ⟨c0, c1, c2, c3⟩ := HC.out W hW
      go_simp
      first | done | rfl
    clear hK K
    refine wpQuiet_step (fun K hK => ?_)
    go_simp
    apply Exists.intro
    refine ⟨fun W hW => ?_, hK _ ?_⟩
    · obtain ⟨c0, c1, c2, c3⟩ := HC.out W hW
      go_simp
      first | done | rfl
    clear hK K
    refine wpQuiet_step (fun K hK => ?_)
    go_simp
    apply Exists.intro
    refine ⟨fun W hW => ?_, hK _ ?_⟩
    · obtain ⟨c0, c1, c2, c3⟩ := HC.out W hW
      go_simp
      first | done | rfl
    clear hK K
    refine wpQuiet_step (fun K hK => ?_)
    go_simp
    apply Exists.intro
    refine ⟨fun W hW => ?_, hK _ ?_⟩
    · obtain ⟨c0, c1, c2, c3⟩ := HC.out W hW
      go_simp
      first | done | rfl
    clear hK K
    refine wpQuiet_step (fun K hK => ?_)
    go_simp
    apply Exists.intro
    refine ⟨fun W hW => ?_, hK _ ?_⟩
    · obtain ⟨c0, c1, c2, c3⟩ := HC.out W hW
      go_simp
      first | done | rfl
    clear hK K
    refine wpQuiet_step (fun K hK => ?_)
    go_simp
    apply Exists.intro
    refine ⟨fun W hW => ?_, hK _ ?_⟩
    · obtain ⟨c0, c1, c2, c3⟩ := HC.out W hW
      go_simp
      first | done | rfl
    clear hK K
    refine wpQuiet_step (fun K hK => ?_)
    go_simp
    apply Exists.intro
    refine ⟨fun W hW => ?_, hK _ ?_⟩
    · obtain ⟨c0, c1, c2, c3⟩ := HC.out W hW
      go_simp
      first | done | rfl
    clear hK K
    refine wpQuiet_step (fun K hK => ?_)
    go_simp
    apply Exists.intro
    refine ⟨fun W hW => ?_, hK _ ?_⟩
    · obtain ⟨c0, c1, c2, c3⟩ := HC.out W hW
      go_simp
      first | done | rfl
    clear hK K
    refine wpQuiet_step (fun K hK => ?_)
    go_simp
    apply Exists.intro
    refine ⟨fun W hW => ?_, hK _ ?_⟩
    · exact Calls.grew_of hW (HR.out W)
    clear hK K
    refine wpQuiet_step (fun K hK => ?_)
    go_simp
    apply Exists.intro
    refine ⟨fun W hW => ?_, hK _ ?_⟩
    · obtain ⟨c0, c1, c2, c3⟩ := HC.out W hW
      go_simp
      first | done | rfl
    clear hK K
    refine wpQuiet_step (fun K hK => ?_)
    go_simp
    apply Exists.intro
    refine ⟨fun W hW => ?_, hK _ ?_⟩
    · exact Calls.grew_of hW (HRL.out W)
    clear hK K
    refine wpQuiet_step (fun K hK => ?_)
    go_simp
    apply Exists.intro
    refine ⟨fun W hW => ?_, hK _ ?_⟩
    · obtain ⟨c0, c1, c2, c3⟩ := HC.out W hW
      go_simp
      first | done | rfl
    clear hK K
    refine wpQuiet_step (fun K hK => ?_)
    go_simp
    apply Exists.intro
    refine ⟨fun W hW => ?_, hK _ ?_⟩
    · obtain ⟨c0, c1, c2, c3⟩ := HC.out W hW
      go_simp
      first | done | rfl
    clear hK K
    refine wpQuiet_nil ?_
    intro W hW
    replace H := Lib.hid (H.out.grew hW)
    clear hW HC HM HR
    obtain ⟨c0, c1, c2, c3⟩ := HLI.out _ _ (HOW.out _ _ _ _ _ _ _ H.out)
    go_wp2_with fail
    refine (HS.out _ _ _ _ _ H.out.at_).mono ?_
    rintro r w2 ⟨rfl, hg, hm⟩
    replace H := Lib.hid (H.out.mv hg hm)
    clear hg hm c0 c1 c2 c3
    obtain ⟨c0, c1, c2, c3⟩ := HLI.out _ _ (HOW.out _ _ _ _ _ _ _ H.out)
    go_wp2_with fail
    refine (HRL.out _).mono ?_
    rintro r w3 ⟨rfl, hb⟩
    replace H := Lib.hid (H.out.below hb)
    clear hb c0 c1 c2 c3
    go_wp2_with fail
    refine (HW.out _ _ _ _ H.out.at_.disk).mono ?_
    rintro r w4 ⟨⟨A, cap, rfl⟩, hb⟩
    replace H := Lib.hid (H.out.below hb)
    clear hb
    go_wp2_with fail
    refine (HAW.out _).mono ?_
    rintro r w5 ⟨rfl, hb⟩
    replace H := Lib.hid (H.out.below hb)
    clear hb
    go_wp2_with fail
    go_ret
    exact ⟨rfl, H.out.under⟩
  | true =>
    rw [Sup.sd_save hr] at HS
    have HW : Hid (∀ (W : World) (g bd mb : Nat), DiskAt W g bd mb (Sup.sd s) → Calls Tryz.prog 10 #[.pointer (some ⟨g, 0, none⟩)] W fun e w' => (∃ A cap, e = .returned (.slice A 0 cap)) ∧ Below W.heap.size W w') := Lib.hid (fun W g bd mb h => waitsNone_any h (Sup.sd_waits s))
    have HGR : Hid (∀ (W : World) (g bd mb : Nat), DiskAt W g bd mb (Sup.sd s) → Calls Tryz.prog 12 #[.pointer (some ⟨g, 0, none⟩), .int .i64 (s.gen % 2)] W fun e w' => (∃ st, e = .returned (.tuple #[.string (S (Sup.enc s)), .int .i64 st, .int .i64 0])) ∧ Below W.heap.size W w') := Lib.hid (fun W g bd mb h => by
      have := gread_any h (s.gen % 2)
      rw [Sup.sd_read hr] at this
      exact this.mono (fun e w' hp => ⟨⟨_, hp.1⟩, hp.2⟩))
    have HLD : Hid (∀ (W : World) (g bd mb : Nat), DiskAt W g bd mb (Sup.sd s) → Calls Tryz.prog 13 #[.pointer (some ⟨g, 0, none⟩)] W fun e w' => e = .returned (.tuple #[.agg #[.int .i64 s.gen, .int .i64 s.boot, .int .i64 s.side, .int .i64 s.seed], .int .i64 0]) ∧ Below W.heap.size W w') := Lib.hid (fun W g bd mb h => by
      have := sload_any h
      rw [Sup.sd_load hr] at this
      exact this)
    have HB : Hid (∀ W, Calls Tryz.prog 14 #[.agg #[.int .i64 s.gen, .int .i64 s.boot, .int .i64 s.side, .int .i64 s.seed]] W fun e w' => e = .returned (.string (S (Sup.enc s))) ∧ Below W.heap.size W w') := Lib.hid (fun W => lsbytes_any s W)
    have HQ : Hid (∀ W, (binOp .eql 23 (.agg #[.int .i64 s.gen, .int .i64 s.boot, .int .i64 s.side, .int .i64 s.seed]) (.agg #[.int .i64 s.gen, .int .i64 s.boot, .int .i64 s.side, .int .i64 s.seed])).run Tryz.prog W = .ok (.bool true) W) := Lib.hid (fun W => by
      have := run_supEq s s W
      rw [decide_eq_true rfl] at this
      exact this)
    unfold SavePost at HS
    have hg0 := Sup.gen_pos hr
    have hmod : Int.tmod s.gen 2 = s.gen % 2 := Int.tmod_eq_emod_of_nonneg (by omega)
    rw [hr] at HR HRL
    clear hr hg0
    generalize Dsk.fresh 4 = d0 at HM HS
    generalize Sup.sd s = d1 at HS HW HGR HLD
    generalize Sup.enc s = en at HB HGR
    obtain ⟨x1, x2, x3, x4⟩ := s
    rw [Sup.v_eq]
    dsimp only at HR HRL HS HOW HLI HGR HLD HB HQ hmod
    generalize x1 % 2 = pl at HGR hmod
    go_enter Tryz.func3, Tryz.ntmps3
    go_wp2_with fail
    refine (HM.out _).mono ?_
    rintro r w1 ⟨gg, g, bd, mb, rfl, hg⟩
    have H := Lib.hid hg
    clear hg
    go_upto_region 2 with fail
    have HC : Hid (∀ W, Grew w1 W → W.cell? ⟨w.heap.size, 0, none⟩ = some (.int .i64 x1) ∧ W.cell? ⟨w.heap.size, 1, none⟩ = some (.int .i64 x2) ∧ W.cell? ⟨w.heap.size, 2, none⟩ = some (.int .i64 x3) ∧ W.cell? ⟨w.heap.size, 3, none⟩ = some (.int .i64 x4)) := Lib.hid (fun W hW => HLI.out W _ (HOW.out W gg g bd mb _ _ (H.out.grew hW)))
    refine wp_region_grew (w0 := w1) (by kernel_rfl) (by kernel_rfl) (Below.refl _ _) ?_
    refine wpQuiet_step (fun K hK => ?_)
    go_simp
    apply Exists.intro
    refine ⟨fun W hW => ?_, hK _ ?_⟩
    · obtain ⟨c0, c1, c2, c3⟩ := HC.out W hW
      go_simp
      first | done | rfl
    clear hK K
    refine wpQuiet_step (fun K hK => ?_)
    go_simp
    apply Exists.intro
    refine ⟨fun W hW => ?_, hK _ ?_⟩
    · obtain ⟨c0, c1, c2, c3⟩ := HC.out W hW
      go_simp
      first | done | rfl
    clear hK K
    refine wpQuiet_step (fun K hK => ?_)
    go_simp
    apply Exists.intro
    refine ⟨fun W hW => ?_, hK _ ?_⟩
    · obtain ⟨c0, c1, c2, c3⟩ := HC.out W hW
      go_simp
      first | done | rfl
    clear hK K
    refine wpQuiet_step (fun K hK => ?_)
    go_simp
    apply Exists.intro
    refine ⟨fun W hW => ?_, hK _ ?_⟩
    · obtain ⟨c0, c1, c2, c3⟩ := HC.out W hW
      go_simp
      first | done | rfl
    clear hK K
    refine wpQuiet_step (fun K hK => ?_)
    go_simp
    apply Exists.intro
    refine ⟨fun W hW => ?_, hK _ ?_⟩
    · obtain ⟨c0, c1, c2, c3⟩ := HC.out W hW
      go_simp
      first | done | rfl
    clear hK K
    refine wpQuiet_step (fun K hK => ?_)
    go_simp
    apply Exists.intro
    refine ⟨fun W hW => ?_, hK _ ?_⟩
    · obtain ⟨c0, c1, c2, c3⟩ := HC.out W hW
      go_simp
      first | done | rfl
    clear hK K
    refine wpQuiet_step (fun K hK => ?_)
    go_simp
    apply Exists.intro
    refine ⟨fun W hW => ?_, hK _ ?_⟩
    · obtain ⟨c0, c1, c2, c3⟩ := HC.out W hW
      go_simp
      first | done | rfl
    clear hK K
    refine wpQuiet_step (fun K hK => ?_)
    go_simp
    apply Exists.intro
    refine ⟨fun W hW => ?_, hK _ ?_⟩
    · obtain ⟨c0, c1, c2, c3⟩ := HC.out W hW
      go_simp
      first | done | rfl
    clear hK K
    refine wpQuiet_step (fun K hK => ?_)
    go_simp
    apply Exists.intro
    refine ⟨fun W hW => ?_, hK _ ?_⟩
    · exact Calls.grew_of hW (HR.out W)
    clear hK K
    refine wpQuiet_step (fun K hK => ?_)
    go_simp
    apply Exists.intro
    refine ⟨fun W hW => ?_, hK _ ?_⟩
    · obtain ⟨c0, c1, c2, c3⟩ := HC.out W hW
      go_simp
      first | done | rfl
    clear hK K
    refine wpQuiet_step (fun K hK => ?_)
    go_simp
    apply Exists.intro
    refine ⟨fun W hW => ?_, hK _ ?_⟩
    · exact Calls.grew_of hW (HRL.out W)
    clear hK K
    refine wpQuiet_step (fun K hK => ?_)
    go_simp
    apply Exists.intro
    refine ⟨fun W hW => ?_, hK _ ?_⟩
    · obtain ⟨c0, c1, c2, c3⟩ := HC.out W hW
      go_simp
      first | done | rfl
    clear hK K
    refine wpQuiet_step (fun K hK => ?_)
    go_simp
    apply Exists.intro
    refine ⟨fun W hW => ?_, hK _ ?_⟩
    · obtain ⟨c0, c1, c2, c3⟩ := HC.out W hW
      go_simp
      first | done | rfl
    clear hK K
    refine wpQuiet_nil ?_
    intro W hW
    replace H := Lib.hid (H.out.grew hW)
    clear hW HC HM HR
    obtain ⟨c0, c1, c2, c3⟩ := HLI.out _ _ (HOW.out _ _ _ _ _ _ _ H.out)
    go_wp2_with fail
    refine (HS.out _ _ _ _ _ H.out.at_).mono ?_
    rintro r w2 ⟨rfl, hg, hm⟩
    replace H := Lib.hid (H.out.mv hg hm)
    clear hg hm c0 c1 c2 c3
    obtain ⟨c0, c1, c2, c3⟩ := HLI.out _ _ (HOW.out _ _ _ _ _ _ _ H.out)
    go_wp2_with fail
    refine (HRL.out _).mono ?_
    rintro r w3 ⟨rfl, hb⟩
    replace H := Lib.hid (H.out.below hb)
    clear hb c0 c1 c2 c3
    obtain ⟨c0, c1, c2, c3⟩ := HLI.out _ _ (HOW.out _ _ _ _ _ _ _ H.out)
    go_wp2_with fail
    refine (HGR.out _ _ _ _ H.out.at_.disk).mono ?_
    rintro r w4 ⟨⟨st, rfl⟩, hb⟩
    replace H := Lib.hid (H.out.below hb)
    clear hb c0 c1 c2 c3
    go_wp2_with fail
    refine (HLD.out _ _ _ _ H.out.at_.disk).mono ?_
    rintro r w5 ⟨rfl, hb⟩
    have HX := Lib.hid ((H.out.below hb).own ⟨x1, x2, x3, x4⟩)
    replace H := Lib.hid ((H.out.below hb).alloc (.cells #[.int .i64 x1, .int .i64 x2, .int .i64 x3, .int .i64 x4] 23))
    clear hb
    obtain ⟨c0, c1, c2, c3⟩ := HLI.out _ _ (HOW.out _ _ _ _ _ _ _ H.out)
    
    go_wp2_with fail
    refine (HB.out _).mono ?_
    rintro r w6 ⟨rfl, hb⟩
    replace H := Lib.hid (H.out.below hb)
    replace HX := Lib.hid (HX.out.below hb)
    clear hb c0 c1 c2 c3
    go_wp2_with fail
    refine (HW.out _ _ _ _ H.out.at_.disk).mono ?_
    rintro r w7 ⟨⟨A, cap, rfl⟩, hb⟩
    replace H := Lib.hid (H.out.below hb)
    replace HX := Lib.hid (HX.out.below hb)
    clear hb
    obtain ⟨c0, c1, c2, c3⟩ := HLI.out _ _ (HOW.out _ _ _ _ _ _ _ H.out)
    obtain ⟨y0, y1, y2, y3⟩ := HX.out.lies
    dsimp only at y0 y1 y2 y3
    have hq := HQ.out
    go_wp2_with fail
    refine (HAW.out _).mono ?_
    rintro r w8 ⟨rfl, hb⟩
    replace H := Lib.hid (H.out.below hb)
    clear hb
    go_wp2_with fail
    go_ret
    exact ⟨rfl, H.out.under⟩
set_option maxRecDepth 100000 in
theorem superSaves_contract {H : Type} (enc : TypeId × Value → H) (W : World) (base : Nat) (args : Array Value) (ds gs : List (DataW H)) (before : List MemPlace)
    (hval : ∀ (j : Nat) t v, Tryz.f3.params[j]? = some t → args[j]? = some v → Value.okWide Tryz.prog W .any base t v)
    (hW : DataW.Whole enc Tryz.prog Tryz.f3.params.toList Rows.superSavesSpec.vars false W args.toList ds gs before)
    (hsz : (DataW.weightsEach Tryz.prog (Tryz.f3.params.toList ++ Rows.superSavesSpec.plain.varTypes Tryz.prog) (ds ++ gs)).all (· ≤ reachBytes) = true) :
    Calls Tryz.prog 3 args W fun e W' =>
      ((Rows.superSavesSpec.fn H (ds ++ gs)).results = [.lit (.bool true)] ∧ (Rows.superSavesSpec.fn H (ds ++ gs)).args = ds ∧ (Rows.superSavesSpec.fn H (ds ++ gs)).vars = []) ∧ e = .returned (.bool true) ∧ Below W.heap.size W W' := by
  obtain ⟨p, q, hA0, hV, rfl, hfz, hnd⟩ := hW
  have hA : DataW.TrodAll enc Tryz.prog W 0 (fun _ => true) true Tryz.f3.params.toList args.toList ds p := hA0
  rw [Tryz.params3] at hA hval hsz
  obtain ⟨v0, d0, rfl, rfl, h0⟩ := trodAll_one hA
  obtain ⟨rfl, rfl⟩ := trodVars_none hV
  obtain ⟨s, rfl, fit_s⟩ := sup_open (hval 0 23 v0 rfl rfl) h0
  exact ((ssaves_any s W)).mono fun e W' h => ⟨⟨rfl, rfl, rfl⟩, h⟩
end Go.Proofs.YtdgfohffmbnjiaaGreatDoor
