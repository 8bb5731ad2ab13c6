/-
  A journal has what the document's has: the statement's holds.
-/
import Derived.Test.YtjdklifkalnamaaGreatDoorJrnAt
namespace Go.Proofs.YtjdklifkalnamaaGreatDoor
open Go.RowKit
set_option linter.unusedVariables false

theorem bdrewN' {B : Nat} {w w' : World} (h : Below B w w') (k : Nat) : Below B w (w'.drewN k) := h.trans ⟨rfl, rfl, rfl, Nat.le_refl _, fun _ _ => rfl⟩
set_option maxRecDepth 100000 in
set_option maxHeartbeats 8000000 in
theorem jholds_any {w0 w : World} {J : JB} {b wn : Nat} {P N : List Jrn.Rec} {d : Dsk.St} {gp : Nat} {v : Value} {boot : Nat} (h : JAt w0 w J b wn P N d) (hp : PlAt w gp v (Jrn.txts P N) P.length boot)
    (hs : ∀ s ∈ Jrn.txts P N, s.length ≤ 1000000) (hu : Jrn.usedT (Jrn.txts P N) ≤ 60) :
    Calls Tryz.prog 14 #[.pointer (some ⟨J.gj, 0, none⟩), .pointer (some ⟨gp, 0, none⟩)] w fun e w' => e = .returned (.bool true) ∧ Below w.heap.size w w' := by
  have HREC := Lib.hid (jrecords_any h)
  have HSU : Hid (∀ W, Below w.heap.size w W → Calls Tryz.prog 26 #[.pointer (some ⟨J.gj, 0, none⟩)] W fun e w' => e = .returned (.int .i64 (P.length : Int)) ∧ Below W.heap.size W w') := Lib.hid (fun W hb => jsure_any (h.below hb))
  have HUS : Hid (∀ W, Below w.heap.size w W → Calls Tryz.prog 20 #[.pointer (some ⟨J.gj, 0, none⟩)] W fun e w' => e = .returned (.int .i64 (Jrn.usedT (Jrn.txts P N) : Int)) ∧ Below W.heap.size W w') := Lib.hid (fun W hb => jusedj_any (h.below hb))
  have HLE : Hid (∀ W, Below w.heap.size w W → Calls Tryz.prog 24 #[.pointer (some ⟨J.gj, 0, none⟩)] W fun e w' => e = .returned (.int .i64 (60 - (Jrn.usedT (Jrn.txts P N) : Int))) ∧ Below W.heap.size W w') := Lib.hid (fun W hb => jleft_any (h.below hb))
  have HPU : Hid (∀ W, Below w.heap.size w W → Calls Tryz.prog 28 #[.pointer (some ⟨gp, 0, none⟩)] W fun e w' => e = .returned (.int .i64 (Jrn.usedT (Jrn.txts P N) : Int)) ∧ Below W.heap.size W w') :=
    Lib.hid (fun W hb => (jused_any (hp.below hb) hs (by omega)).mono (fun e w' hq => ⟨hq.1, by rw [hq.2]; exact Below.refl _ _⟩))
  have HP : Hid (∀ W, Below w.heap.size w W → PlAt W gp v (Jrn.txts P N) P.length boot) := Lib.hid (fun W hb => hp.below hb)
  obtain ⟨A, cap, rfl, hlc, hcm, -⟩ := hp.row.any
  have hu0 : (Jrn.usedT (Jrn.txts P N) : Int) ≤ 60 := by omega
  have hu1 : (0 : Int) ≤ (Jrn.usedT (Jrn.txts P N) : Int) := by omega
  generalize Jrn.usedT (Jrn.txts P N) = u at HUS HLE HPU hu0 hu1
  generalize Jrn.txts P N = L at HREC HP hlc ⊢
  generalize P.length = su at HSU HP
  clear h hp hs hu
  go_enter Tryz.func14, Tryz.ntmps14
  go_wp2_with fail
  refine HREC.out.mono ?_
  rintro r w1 ⟨lv, rfl, hr, hb1⟩
  have HR : Hid (∀ W, Below w1.heap.size w1 W → JRow W lv L) := Lib.hid (fun W hb => hr.below hb)
  obtain ⟨A2, cap2, rfl, hlc2, hcm2, -⟩ := hr.any
  have HB := Lib.hid hb1
  clear hr hb1 HREC
  go_upto_region 2 with fail
  have HC : Hid (∀ W, Grew w1 W → W.cell? ⟨gp, 0, none⟩ = some (.slice A L.length cap) ∧ W.cell? ⟨gp, 1, none⟩ = some (.int .i64 (su : Int)) ∧ W.cell? ⟨gp, 2, none⟩ = some (.int .i64 (boot : Int))) := Lib.hid (fun W hW => (HP.out W (HB.out.trans (hW.bel.mono HB.out.size))).cs)
  have HG : Hid (∀ W, Grew w1 W → Below w.heap.size w W) := Lib.hid (fun W hW => HB.out.trans (hW.bel.mono HB.out.size))
  have hwr : IntKind.i64.wrap (60 - (u : Int)) = 60 - (u : Int) := by rw [IntKind.wrap_i64]; omega
  refine wp_region_grew (w0 := w1) (by kernel_rfl) (by kernel_rfl) (Below.refl _ _) ?_
  refine wpQuiet_step (fun K hK => ?_)
  go_simp
  apply Exists.intro
  refine ⟨fun W hW => ?_, hK _ ?_⟩
  · obtain ⟨c0, c1, c2⟩ := HC.out W hW
    go_simp
    first | done | rfl
  clear hK K
  refine wpQuiet_step (fun K hK => ?_)
  go_simp
  apply Exists.intro
  refine ⟨fun W hW => ?_, hK _ ?_⟩
  · obtain ⟨c0, c1, c2⟩ := HC.out W hW
    go_simp
    first | done | rfl
  clear hK K
  refine wpQuiet_step (fun K hK => ?_)
  go_simp
  apply Exists.intro
  refine ⟨fun W hW => ?_, hK _ ?_⟩
  · obtain ⟨c0, c1, c2⟩ := HC.out W hW
    go_simp
    first | done | rfl
  clear hK K
  refine wpQuiet_step (fun K hK => ?_)
  go_simp
  apply Exists.intro
  refine ⟨fun W hW => ?_, hK _ ?_⟩
  · obtain ⟨c0, c1, c2⟩ := HC.out W hW
    go_simp
    first | done | rfl
  clear hK K
  refine wpQuiet_step (fun K hK => ?_)
  go_simp
  apply Exists.intro
  refine ⟨fun W hW => ?_, hK _ ?_⟩
  · obtain ⟨c0, c1, c2⟩ := HC.out W hW
    go_simp
    first | done | rfl
  clear hK K
  refine wpQuiet_step (fun K hK => ?_)
  go_simp
  apply Exists.intro
  refine ⟨fun W hW => ?_, hK _ ?_⟩
  · obtain ⟨c0, c1, c2⟩ := HC.out W hW
    go_simp
    first | done | rfl
  clear hK K
  refine wpQuiet_step (fun K hK => ?_)
  go_simp
  apply Exists.intro
  refine ⟨fun W hW => ?_, hK _ ?_⟩
  · obtain ⟨c0, c1, c2⟩ := HC.out W hW
    go_simp
    first | done | rfl
  clear hK K
  refine wpQuiet_step (fun K hK => ?_)
  go_simp
  apply Exists.intro
  refine ⟨fun W hW => ?_, hK _ ?_⟩
  · obtain ⟨c0, c1, c2⟩ := HC.out W hW
    go_simp
    first | done | rfl
  clear hK K
  refine wpQuiet_step (fun K hK => ?_)
  go_simp
  apply Exists.intro
  refine ⟨fun W hW => ?_, hK _ ?_⟩
  · obtain ⟨c0, c1, c2⟩ := HC.out W hW
    go_simp
    first | done | rfl
  clear hK K
  refine wpQuiet_step (fun K hK => ?_)
  go_simp
  apply Exists.intro
  refine ⟨fun W hW => ?_, hK _ ?_⟩
  · obtain ⟨c0, c1, c2⟩ := HC.out W hW
    go_simp
    first | done | rfl
  clear hK K
  refine wpQuiet_step (fun K hK => ?_)
  go_simp
  apply Exists.intro
  refine ⟨fun W hW => ?_, hK _ ?_⟩
  · exact Calls.grew_of hW (HSU.out W (HG.out W hW))
  clear hK K
  refine wpQuiet_step (fun K hK => ?_)
  go_simp
  apply Exists.intro
  refine ⟨fun W hW => ?_, hK _ ?_⟩
  · obtain ⟨c0, c1, c2⟩ := HC.out W hW
    go_simp
    first | done | rfl
  clear hK K
  refine wpQuiet_step (fun K hK => ?_)
  go_simp
  apply Exists.intro
  refine ⟨fun W hW => ?_, hK _ ?_⟩
  · obtain ⟨c0, c1, c2⟩ := HC.out W hW
    go_simp
    first | done | rfl
  clear hK K
  refine wpQuiet_step (fun K hK => ?_)
  go_simp
  apply Exists.intro
  refine ⟨fun W hW => ?_, hK _ ?_⟩
  · obtain ⟨c0, c1, c2⟩ := HC.out W hW
    go_simp
    first | done | rfl
  clear hK K
  refine wpQuiet_step (fun K hK => ?_)
  go_simp
  apply Exists.intro
  refine ⟨fun W hW => ?_, hK _ ?_⟩
  · obtain ⟨c0, c1, c2⟩ := HC.out W hW
    go_simp
    first | done | rfl
  clear hK K
  refine wpQuiet_step (fun K hK => ?_)
  go_simp
  apply Exists.intro
  refine ⟨fun W hW => ?_, hK _ ?_⟩
  · obtain ⟨c0, c1, c2⟩ := HC.out W hW
    go_simp
    first | done | rfl
  clear hK K
  refine wpQuiet_step (fun K hK => ?_)
  go_simp
  apply Exists.intro
  refine ⟨fun W hW => ?_, hK _ ?_⟩
  · obtain ⟨c0, c1, c2⟩ := HC.out W hW
    go_simp
    first | done | rfl
  clear hK K
  refine wpQuiet_step (fun K hK => ?_)
  go_simp
  apply Exists.intro
  refine ⟨fun W hW => ?_, hK _ ?_⟩
  · obtain ⟨c0, c1, c2⟩ := HC.out W hW
    go_simp
    first | done | rfl
  clear hK K
  refine wpQuiet_step (fun K hK => ?_)
  go_simp
  apply Exists.intro
  refine ⟨fun W hW => ?_, hK _ ?_⟩
  · obtain ⟨c0, c1, c2⟩ := HC.out W hW
    go_simp
    first | done | rfl
  clear hK K
  refine wpQuiet_step (fun K hK => ?_)
  go_simp
  apply Exists.intro
  refine ⟨fun W hW => ?_, hK _ ?_⟩
  · exact Calls.grew_of hW (HUS.out W (HG.out W hW))
  clear hK K
  refine wpQuiet_step (fun K hK => ?_)
  go_simp
  apply Exists.intro
  refine ⟨fun W hW => ?_, hK _ ?_⟩
  · obtain ⟨c0, c1, c2⟩ := HC.out W hW
    go_simp
    first | done | rfl
  clear hK K
  refine wpQuiet_step (fun K hK => ?_)
  go_simp
  apply Exists.intro
  refine ⟨fun W hW => ?_, hK _ ?_⟩
  · exact Calls.grew_of hW (HPU.out W (HG.out W hW))
  clear hK K
  refine wpQuiet_step (fun K hK => ?_)
  go_simp
  apply Exists.intro
  refine ⟨fun W hW => ?_, hK _ ?_⟩
  · obtain ⟨c0, c1, c2⟩ := HC.out W hW
    go_simp
    first | done | rfl
  clear hK K
  refine wpQuiet_step (fun K hK => ?_)
  go_simp
  apply Exists.intro
  refine ⟨fun W hW => ?_, hK _ ?_⟩
  · obtain ⟨c0, c1, c2⟩ := HC.out W hW
    go_simp
    first | done | rfl
  clear hK K
  refine wpQuiet_step (fun K hK => ?_)
  go_simp
  apply Exists.intro
  refine ⟨fun W hW => ?_, hK _ ?_⟩
  · obtain ⟨c0, c1, c2⟩ := HC.out W hW
    go_simp
    first | done | rfl
  clear hK K
  refine wpQuiet_step (fun K hK => ?_)
  go_simp
  apply Exists.intro
  refine ⟨fun W hW => ?_, hK _ ?_⟩
  · obtain ⟨c0, c1, c2⟩ := HC.out W hW
    go_simp
    first | done | rfl
  clear hK K
  refine wpQuiet_step (fun K hK => ?_)
  go_simp
  apply Exists.intro
  refine ⟨fun W hW => ?_, hK _ ?_⟩
  · exact Calls.grew_of hW (HLE.out W (HG.out W hW))
  clear hK K
  refine wpQuiet_step (fun K hK => ?_)
  go_simp
  apply Exists.intro
  refine ⟨fun W hW => ?_, hK _ ?_⟩
  · obtain ⟨c0, c1, c2⟩ := HC.out W hW
    go_simp
    first | done | rfl
  clear hK K
  refine wpQuiet_step (fun K hK => ?_)
  go_simp
  apply Exists.intro
  refine ⟨fun W hW => ?_, hK _ ?_⟩
  · exact Calls.grew_of hW (HPU.out W (HG.out W hW))
  clear hK K
  refine wpQuiet_step (fun K hK => ?_)
  go_simp
  apply Exists.intro
  refine ⟨fun W hW => ?_, hK _ ?_⟩
  · obtain ⟨c0, c1, c2⟩ := HC.out W hW
    go_simp
    first | done | rfl
  clear hK K
  refine wpQuiet_step (fun K hK => ?_)
  go_simp
  apply Exists.intro
  refine ⟨fun W hW => ?_, hK _ ?_⟩
  · obtain ⟨c0, c1, c2⟩ := HC.out W hW
    go_simp
    first | done | rfl
  clear hK K
  refine wpQuiet_step (fun K hK => ?_)
  go_simp
  apply Exists.intro
  refine ⟨fun W hW => ?_, hK _ ?_⟩
  · obtain ⟨c0, c1, c2⟩ := HC.out W hW
    go_simp
    first | done | rfl
  clear hK K
  refine wpQuiet_nil ?_
  intro W2 hW2
  clear HSU HUS HLE HPU HC hwr
  go_wp2_with fail
  go_loopw [6] (fun v6 wr => ∃ k : Nat, k ≤ L.length ∧ v6 = .int .i64 (k : Int) ∧ Grew w1 wr) (fun v6 _ => L.length - (vInt v6).toNat)
  case atStart => exact ⟨0, Nat.zero_le _, rfl, hW2⟩
  case round =>
    obtain ⟨k, hk, rfl, hg⟩ := hrel
    have hk0 : (0 : Int) ≤ (k : Int) := by omega
    by_cases hlt : k < L.length
    · have hki : (k : Int) < (L.length : Int) := by omega
      have hkc : (k : Int) < (cap : Int) := by omega
      have hkc2 : (k : Int) < (cap2 : Int) := by omega
      have hp := HP.out wr (HG.out wr hg)
      have hr := HR.out wr hg.bel
      obtain ⟨c0, _, _⟩ := hp.cs
      obtain ⟨g1, rfl, hc1⟩ := hp.row.at_ k hlt
      obtain ⟨g2, rfl, hc2⟩ := hr.at_ k hlt
      have HGR := Lib.hid hg
      generalize (L[k]'hlt) = s at hc1 hc2
      clear hp hr hg HP HR HB HG
      go_wp2_with fail
      go_quiet (fail)
      go_wp2_with fail
      go_roundw
      · exact ⟨k + 1, by omega, by go_num, ⟨bdrewN' HGR.out.bel _⟩⟩
      · simp only [vInt]; omega
    · obtain rfl : k = L.length := by omega
      have hki : ¬ (L.length : Int) < (L.length : Int) := by omega
      have HF := Lib.hid (HG.out wr hg)
      clear hg HP HR HB HG
      go_wp2_with fail
      go_ret
      exact ⟨rfl, HF.out⟩
end Go.Proofs.YtjdklifkalnamaaGreatDoor
