/-
  The contract of super's Save.
-/
import Derived.Test.YtdgfohffmbnjiaaGreatDoorSupC
import Derived.Test.YtdgfohffmbnjiaaGreatDoorGrdPures
import Derived.Test.YtdgfohffmbnjiaaGreatDoorGrdN
import Derived.Test.YtdgfohffmbnjiaaGreatDoorHeld
namespace Go.Proofs.YtdgfohffmbnjiaaGreatDoor
open Go.RowKit
set_option linter.unusedVariables false

namespace Dsk
theorem act_le (d : St) : (act d).2.acts ≤ d.acts + 1 ∧ (act d).2.falls ≤ d.falls + 1 := by
  unfold act
  split
  · exact ⟨Nat.le_succ _, Nat.le_refl _⟩
  · exact ⟨Nat.le_refl _, Nat.le_succ _⟩
  · exact ⟨Nat.le_refl _, Nat.le_succ _⟩
theorem write_le (d : St) (i : Int) (s : T) : (write d i s).2.acts ≤ d.acts + 1 ∧ (write d i s).2.falls ≤ d.falls + 1 := by
  have ha := act_le d
  unfold write
  split
  · exact ⟨Nat.le_succ _, Nat.le_succ _⟩
  · split
    · exact ⟨Nat.le_succ _, Nat.le_succ _⟩
    · split
      · exact ⟨Nat.le_succ _, Nat.le_succ _⟩
      · split
        · exact ha
        · exact ha
theorem flush_le (d : St) : (flush d).2.acts ≤ d.acts + 1 ∧ (flush d).2.falls ≤ d.falls + 1 := by
  have ha := act_le d
  unfold flush
  split
  · exact ⟨Nat.le_succ _, Nat.le_succ _⟩
  · split
    · exact ha
    · exact ha
end Dsk
namespace Grd
theorem put_le (boot wr : Nat) (d : Dsk.St) (i : Int) (s : T) : (put boot wr d i s).2.2.2.acts ≤ d.acts + 1 ∧ (put boot wr d i s).2.2.2.falls ≤ d.falls + 1 := by
  have h := Dsk.write_le d i (grd (stamp boot wr) s)
  unfold put
  split
  · exact ⟨Nat.le_succ _, Nat.le_succ _⟩
  · split
    · exact ⟨Nat.le_succ _, Nat.le_succ _⟩
    · split
      · exact h
      · exact h
end Grd

/-- A superblock's four cells. -/
abbrev SupLies (g : Nat) (s : Sup) (W : World) : Prop :=
  W.cell? ⟨g, 0, none⟩ = some (.int .i64 s.gen) ∧ W.cell? ⟨g, 1, none⟩ = some (.int .i64 s.boot) ∧ W.cell? ⟨g, 2, none⟩ = some (.int .i64 s.side) ∧ W.cell? ⟨g, 3, none⟩ = some (.int .i64 s.seed)
/-- A save's own block beside a guard. -/
structure SaveIn (w W : World) (gg g bd mb boot wr : Nat) (d : Dsk.St) (s : Sup) : Prop where
  own : Has W w.heap.size 23 s.cells
  at_ : GuardAt W gg g bd mb boot wr d
  mv : Mv w W [gg, g, bd, mb]
theorem GuardAt.lts {w : World} {gg g bd mb boot wr : Nat} {d : Dsk.St} (h : GuardAt w gg g bd mb boot wr d) : gg < w.heap.size ∧ g < w.heap.size ∧ bd < w.heap.size ∧ mb < w.heap.size := by
  exact ⟨h.cells.lt, h.disk.lt⟩
theorem SaveIn.made {w : World} {gg g bd mb boot wr : Nat} {d : Dsk.St} (h : GuardAt w gg g bd mb boot wr d) (s : Sup) : SaveIn w (w.alloc (.cells s.cells 23)) gg g bd mb boot wr d s :=
  ⟨Has.made w _ _, h.below ((Below.refl _ w).alloc (Nat.le_refl _) _), Mv.of_below ((Below.refl _ w).alloc (Nat.le_refl _) _) _⟩
theorem SaveIn.below {w W W' : World} {gg g bd mb boot wr : Nat} {d : Dsk.St} {s : Sup} (h : SaveIn w W gg g bd mb boot wr d s) (hb : Below W.heap.size W W') : SaveIn w W' gg g bd mb boot wr d s :=
  ⟨h.own.below hb h.own.lt, h.at_.below hb, h.mv.trans (Mv.of_below hb _)⟩
theorem SaveIn.turn {w W W' : World} {gg g bd mb boot wr wr' : Nat} {d d' : Dsk.St} {s : Sup} (h : SaveIn w W gg g bd mb boot wr d s) (hl : gg < w.heap.size ∧ g < w.heap.size ∧ bd < w.heap.size ∧ mb < w.heap.size) (hg : GuardAt W' gg g bd mb boot wr' d') (hm : Mv W W' [gg, g, bd, mb]) : SaveIn w W' gg g bd mb boot wr' d' s :=
  ⟨hm.has h.own (by simp only [List.mem_cons, List.not_mem_nil, or_false]; omega), hg, h.mv.trans hm⟩
theorem SaveIn.lies {w W : World} {gg g bd mb boot wr : Nat} {d : Dsk.St} {s : Sup} (h : SaveIn w W gg g bd mb boot wr d s) : SupLies w.heap.size s W :=
  ⟨h.own.cell 0, h.own.cell 1, h.own.cell 2, h.own.cell 3⟩
def SavePost (w : World) (gg g bd mb boot : Nat) (r : Int × Nat × Dsk.St) (e : Ending) (w' : World) : Prop :=
  e = .returned (.int .i64 r.1) ∧ GuardAt w' gg g bd mb boot r.2.1 r.2.2 ∧ Mv w w' [gg, g, bd, mb]

set_option maxRecDepth 100000 in
set_option maxHeartbeats 4000000 in
theorem ssave_any {w : World} {gg g bd mb boot wr : Nat} {d : Dsk.St} (h : GuardAt w gg g bd mb boot wr d) (hwr : wr ≤ 4294967295) (ha : d.acts < 999999999999) (hfl : d.falls < 999999999999) (s : Sup) :
    Calls Tryz.prog 9 #[.pointer (some ⟨gg, 0, none⟩), s.v] w (SavePost w gg g bd mb boot (Sup.save boot wr d s)) := by
  have HM := Lib.hid (SaveIn.made h s)
  have hL := Lib.hid h.lts
  have HR : Hid (∀ W, Calls Tryz.prog 7 #[.agg #[.int .i64 s.gen, .int .i64 s.boot, .int .i64 s.side, .int .i64 s.seed]] W fun e w' => e = .returned (.bool (Sup.right s)) ∧ Below W.heap.size W w') := Lib.hid (fun W => supRight_any s W)
  cases hr : Sup.right s with
  | false =>
    rw [Sup.save_bad hr]
    rw [hr] at HR
    clear h hr
    obtain ⟨x1, x2, x3, x4⟩ := s
    rw [Sup.v_eq]
    unfold Sup.cells at HM
    unfold SavePost
    dsimp only at HR HM ⊢
    go_enter Tryz.func9, Tryz.ntmps9
    go_wp2_with fail
    refine (HR.out _).mono ?_
    rintro r w1 ⟨rfl, hb⟩
    have H := Lib.hid (HM.out.below hb)
    clear hb HM
    go_wp2_with fail
    go_ret
    exact ⟨rfl, H.out.at_, H.out.mv⟩
  | true =>
    obtain ⟨h1, h2, h3, h4, h5, h6, h7⟩ := Sup.right_iff.1 hr
    have HPL : Hid (∀ W, Calls Tryz.prog 26 #[.agg #[.int .i64 s.gen, .int .i64 s.boot, .int .i64 s.side, .int .i64 s.seed]] W fun e w' => e = .returned (.int .i64 (s.gen % 2)) ∧ Below W.heap.size W w') := Lib.hid (fun W => supPlace_any s (by omega) W)
    have HB : Hid (∀ W, Calls Tryz.prog 27 #[.agg #[.int .i64 s.gen, .int .i64 s.boot, .int .i64 s.side, .int .i64 s.seed]] W fun e w' => e = .returned (.string (S (Sup.enc s))) ∧ Below W.heap.size W w') := Lib.hid (fun W => sbytes_any s hr W)
    have HP : Hid (∀ W, SaveIn w W gg g bd mb boot wr d s → Calls Tryz.prog 15 #[.pointer (some ⟨gg, 0, none⟩), .int .i64 (s.gen % 2), .string (S (Sup.enc s))] W fun e w' => e = .returned (.tuple #[.int .i64 (Grd.put boot wr d (s.gen % 2) (Sup.enc s)).1, .int .i64 (Grd.put boot wr d (s.gen % 2) (Sup.enc s)).2.1]) ∧
        SaveIn w w' gg g bd mb boot (Grd.put boot wr d (s.gen % 2) (Sup.enc s)).2.2.1 (Grd.put boot wr d (s.gen % 2) (Sup.enc s)).2.2.2 s) :=
      Lib.hid (fun W hi => (gput_any hi.at_ hwr (by omega) (by omega) (s.gen % 2) (Sup.enc s)).mono (fun e w' hp => ⟨hp.1, hi.turn hL.out hp.2.1 hp.2.2⟩))
    have hle := Grd.put_le boot wr d (s.gen % 2) (Sup.enc s)
    have HF : Hid (∀ W, SaveIn w W gg g bd mb boot (Grd.put boot wr d (s.gen % 2) (Sup.enc s)).2.2.1 (Grd.put boot wr d (s.gen % 2) (Sup.enc s)).2.2.2 s → Calls Tryz.prog 28 #[.pointer (some ⟨gg, 0, none⟩)] W fun e w' => e = .returned (.int .i64 (Dsk.flush (Grd.put boot wr d (s.gen % 2) (Sup.enc s)).2.2.2).1) ∧
        SaveIn w w' gg g bd mb boot (Grd.put boot wr d (s.gen % 2) (Sup.enc s)).2.2.1 (Dsk.flush (Grd.put boot wr d (s.gen % 2) (Sup.enc s)).2.2.2).2 s) :=
      Lib.hid (fun W hi => (gflush_any hi.at_ (by omega) (by omega)).mono (fun e w' hp => ⟨hp.1, hi.turn hL.out hp.2.1 (hp.2.2.wide (by simp))⟩))
    have hS : Sup.save boot wr d s = if (Grd.put boot wr d (s.gen % 2) (Sup.enc s)).2.1 ≠ 0 then ((Grd.put boot wr d (s.gen % 2) (Sup.enc s)).2.1, (Grd.put boot wr d (s.gen % 2) (Sup.enc s)).2.2.1, (Grd.put boot wr d (s.gen % 2) (Sup.enc s)).2.2.2)
        else ((Dsk.flush (Grd.put boot wr d (s.gen % 2) (Sup.enc s)).2.2.2).1, (Grd.put boot wr d (s.gen % 2) (Sup.enc s)).2.2.1, (Dsk.flush (Grd.put boot wr d (s.gen % 2) (Sup.enc s)).2.2.2).2) := by
      unfold Sup.save
      rw [if_neg (by rw [hr]; decide)]
    rw [hr] at HR
    generalize Sup.save boot wr d s = res at hS ⊢
    generalize Dsk.flush (Grd.put boot wr d (s.gen % 2) (Sup.enc s)).2.2.2 = fl at HF hS
    generalize Grd.put boot wr d (s.gen % 2) (Sup.enc s) = pt at HP HF hS
    generalize Sup.enc s = en at HB HP
    obtain ⟨fc, fd⟩ := fl
    obtain ⟨pst, pc, pwr, pd⟩ := pt
    have HS := Lib.hid hS
    clear h hr hle hwr ha hfl hL hS h1 h2 h3 h4 h5 h6 h7
    obtain ⟨x1, x2, x3, x4⟩ := s
    dsimp only at HR HPL HB HP HF HS
    generalize x1 % 2 = pl at HPL HP
    rw [Sup.v_eq]
    unfold Sup.cells at HM
    unfold SavePost
    dsimp only at HM ⊢
    go_enter Tryz.func9, Tryz.ntmps9
    go_wp2_with fail
    refine (HR.out _).mono ?_
    rintro r w1 ⟨rfl, hb⟩
    have H := Lib.hid (HM.out.below hb)
    clear hb HM HR
    go_upto_region 3 with fail
    have hy : SupLies w.heap.size ⟨x1, x2, x3, x4⟩ w1.drew := H.out.lies
    replace H := Lib.hid (H.out.below (Below.refl _ w1).drew)
    go_region_held3 (SupLies w.heap.size ⟨x1, x2, x3, x4⟩) (first | exact hy | go_keep) (first
      | (go_at_call 26; refine (HPL.out _).mono ?_; rintro r w1 ⟨rfl, hb⟩; replace H := Lib.hid (H.out.below hb); have hy := H.out.lies; clear hb)
      | (go_at_call 27; refine (HB.out _).mono ?_; rintro r w1 ⟨rfl, hb⟩; replace H := Lib.hid (H.out.below hb); have hy := H.out.lies; clear hb)
      | (go_at_call 15; refine (HP.out _ H.out).mono ?_; rintro r w2 ⟨rfl, h⟩; replace H := Lib.hid h; have hy := H.out.lies; clear h))
    all_goals
      clear hy HP HB HPL
      by_cases hc : pc = 0
      · have hR := HS.out
        rw [if_neg (by simp [hc])] at hR
        subst hR
        subst hc
        go_wp2_with fail
        refine (HF.out _ H.out).mono ?_
        rintro r w3 ⟨rfl, h⟩
        go_wp2_with fail
        go_ret
        exact ⟨rfl, h.at_, h.mv⟩
      · have hR := HS.out
        rw [if_pos hc] at hR
        subst hR
        have hc' : (pc == 0) = false := by rw [beq_eq_false_iff_ne]; exact hc
        go_wp2_with fail
        go_ret
        exact ⟨rfl, H.out.at_, H.out.mv⟩
end Go.Proofs.YtdgfohffmbnjiaaGreatDoor
