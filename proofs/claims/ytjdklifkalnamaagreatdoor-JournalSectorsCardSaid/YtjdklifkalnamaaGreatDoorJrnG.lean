/-
  Which records have become durable: the journal's durable, settle, Sure.
-/
import Derived.Test.YtjdklifkalnamaaGreatDoorJrnC
import Derived.Deep.LoopGhost
namespace Go.Proofs.YtjdklifkalnamaaGreatDoor
open Go.RowKit
set_option linter.unusedVariables false

namespace Jrn
/-- Have the sectors from one to ahead of another one become durable, as they were written? -/
def durB (r : Nat → X) (wl : List Nat) (base : Nat) (ts : List Nat) (fr to_ : Nat) : Bool := decide (∀ i, i < to_ → fr ≤ i → firmAt r wl base ts i = true)
end Jrn
theorem KeyRow.below {W W' : World} {B : Nat} {v : Value} {ks : List Nat} (h : KeyRow W B v ks) (hb : Below W.heap.size W W') : KeyRow W' B v ks := by
  unfold KeyRow at h ⊢
  obtain ⟨h1, h2⟩ := h
  refine ⟨h1, ?_⟩
  rcases h2 with h2 | ⟨g, cap, cur, e, h0, hh, h3, h4, h5, h6⟩
  · exact Or.inl h2
  · have hl : g < W.heap.size := by
      refine Nat.lt_of_not_le fun hge => ?_
      rw [Array.getElem?_eq_none hge] at hh
      cases hh
    exact Or.inr ⟨g, cap, cur, e, h0, (hb.block g hl).trans hh, h3, h4, h5, h6⟩
section
variable {w : World} {K : JK} {vs vr : Value} {L : List Jrn.Rec} {sure firm : Nat} {dead : Bool} {wn : Nat} {d : Dsk.St}
set_option maxRecDepth 100000 in
set_option maxHeartbeats 8000000 in
theorem jdurable_any (h : JnAt w K vs vr L sure firm dead wn d) (fr to_ : Nat) (hto : to_ ≤ Jrn.usedL L) :
    Calls Tryz.prog 50 #[.pointer (some ⟨K.gj, 0, none⟩), .int .i64 (fr : Int), .int .i64 (to_ : Int)] w fun e w' => e = .returned (.bool (Jrn.durB (Jrn.rx d) (Dsk.waits d.secs) K.base (Jrn.sts L) fr to_)) ∧ Below w.heap.size w w' := by
  have hroom := h.room
  have htop := h.top
  have hmost := h.gd.disk.most
  have hwl := Dsk.waits_len d.secs
  have HWT := Lib.hid (waiting_any h.gd.disk)
  have HDK := Lib.hid (gdisk_any h.gd)
  have HJ := Lib.hid h
  have hsl := Jrn.sts_len L h.shp
  have HD : Hid (∀ i, i < to_ → Jrn.firmAt (Jrn.rx d) (Dsk.waits d.secs) K.base (Jrn.sts L) i = false → fr ≤ i → Jrn.durB (Jrn.rx d) (Dsk.waits d.secs) K.base (Jrn.sts L) fr to_ = false) := Lib.hid (fun i h1 h2 h3 => by
    unfold Jrn.durB
    rw [decide_eq_false_iff_not]
    intro hc
    rw [hc i h1 h3] at h2
    cases h2)
  have HT : Hid ((∀ i, fr ≤ i → i < to_ → Jrn.firmAt (Jrn.rx d) (Dsk.waits d.secs) K.base (Jrn.sts L) i = true) → Jrn.durB (Jrn.rx d) (Dsk.waits d.secs) K.base (Jrn.sts L) fr to_ = true) := Lib.hid (fun hc => by
    unfold Jrn.durB
    rw [decide_eq_true_iff]
    exact fun i h1 h2 => hc i h2 h1)
  generalize Jrn.durB (Jrn.rx d) (Dsk.waits d.secs) K.base (Jrn.sts L) fr to_ = res at HD HT ⊢
  obtain ⟨c0, -⟩ := h.cs
  generalize hwv : Dsk.waits d.secs = WL at *
  unfold WaitsPost at HWT
  clear h hwv
  go_enter Tryz.func50, Tryz.ntmps50
  go_wp2_with fail
  refine HDK.out.mono ?_
  rintro r w1 ⟨rfl, rfl⟩
  go_wp2_with fail
  refine HWT.out.mono ?_
  rintro r w2 ⟨v7, rfl, hk7, hb2⟩
  have HK := Lib.hid hk7
  have HB := Lib.hid hb2
  clear hk7 hb2 HWT HDK c0
  go_wp2_with fail
  go_loopw [8, 9, 10, 11] (fun v8 v9 v10 v11 wr => ∃ i : Nat, v8 = .int .i64 (i : Int) ∧ fr ≤ i ∧ (∀ j, fr ≤ j → j < i → Jrn.firmAt (Jrn.rx d) WL K.base (Jrn.sts L) j = true) ∧ Below w2.heap.size w2 wr) (fun v8 _ _ _ _ => to_ - (vInt v8).toNat)
  case atStart => exact ⟨fr, rfl, Nat.le_refl _, fun j h1 h2 => absurd h2 (by omega), Below.refl _ _⟩
  case round =>
    obtain ⟨i, rfl, hfi, hall, hb⟩ := hrel
    have hi0 : (0 : Int) ≤ (i : Int) := by omega
    by_cases hlt : i < to_
    · have hki : (i : Int) < (to_ : Int) := by omega
      have hil : i < (Jrn.sts L).length := by omega
      have hJ2 := HJ.out.below (HB.out.trans (hb.mono HB.out.size))
      have HGET : Hid (∀ W, Grew wr W → Calls Tryz.prog 62 #[.pointer (some ⟨K.gg, 0, none⟩), .int .i64 ((K.base : Int) + (i : Int))] W (GReadPost W ((Jrn.rx d (K.base + i)).1, ((Jrn.rx d (K.base + i)).2.1 : Int), (Jrn.rx d (K.base + i)).2.2))) :=
        Lib.hid (fun W hW => by
          have := gget_any (hJ2.below hW.bel).gd ((K.base + i : Nat) : Int)
          rw [Jrn.rx_eq] at this
          rw [show (K.base : Int) + (i : Int) = ((K.base + i : Nat) : Int) by omega]
          exact this)
      have HC : Hid (∀ W, Grew wr W → JCells W K vs vr sure firm dead) := Lib.hid (fun W hW => (hJ2.below hW.bel).cs)
      have HCT : Hid (∀ W, Grew wr W → Calls Tryz.prog 67 #[v7, .int .i64 ((K.base : Int) + (i : Int))] W fun e w' => e = .returned (.bool (WL.contains (K.base + i))) ∧ w' = W) := Lib.hid (fun W hW => by
        have := containsK_any ((HK.out.below hb).below hW.bel) (by omega) (K.base + i)
        rw [show ((K.base + i : Nat) : Int) = (K.base : Int) + (i : Int) by omega] at this
        exact this)
      obtain ⟨A4, cap4, hv4, hlc4, hcm4, -⟩ := hJ2.st.any
      subst hv4
      have HRW : Hid (∀ W, Grew wr W → ∃ g, A4 = some ⟨g, 0, none⟩ ∧ W.cell? ⟨g, i, none⟩ = some (.int .i64 (((Jrn.sts L)[i]'hil : Nat) : Int))) := Lib.hid (fun W hW => (hJ2.below hW.bel).st.at_ i hil)
      have hwr1 : IntKind.i64.wrap ((K.base : Int) + (i : Int)) = (K.base : Int) + (i : Int) := by rw [IntKind.wrap_i64]; omega
      have hgd : (Jrn.sts L).getD i 0 = (Jrn.sts L)[i]'hil := by rw [List.getD_eq_getElem?_getD, List.getElem?_eq_getElem hil]; rfl
      have hfa : Jrn.firmAt (Jrn.rx d) WL K.base (Jrn.sts L) i = (((Jrn.rx d (K.base + i)).2.1 == (Jrn.sts L)[i]'hil) && !WL.contains (K.base + i)) := by unfold Jrn.firmAt; rw [hgd]
      have HFA := Lib.hid hfa
      have HALL := Lib.hid hall
      have HBW := Lib.hid (HB.out.trans (hb.mono HB.out.size))
      have HBW2 := Lib.hid hb
      clear hfa hgd hall hb hJ2
      have k1 : (i : Int) < ((Jrn.sts L).length : Int) := by omega
      have k2 : (i : Int) < (cap4 : Int) := by omega
      generalize (Jrn.sts L)[i]'hil = x at HRW HFA
      generalize Jrn.rx d (K.base + i) = y at HGET HFA
      generalize WL.contains (K.base + i) = z at HCT HFA
      obtain ⟨dt, st, cd⟩ := y
      unfold GReadPost at HGET
      try dsimp only at HGET
      go_upto_region 5 with fail
      refine wp_region_grew (w0 := wr) (by kernel_rfl) (by kernel_rfl) (Below.refl _ _) ?_
      refine wpQuiet_step (fun K hK => ?_)
      go_simp
      apply Exists.intro
      refine ⟨fun W hW => ?_, hK _ ?_⟩
      · obtain ⟨c0, c1, -⟩ := HC.out W hW
        go_simp
        first | done | rfl
      clear hK K
      refine wpQuiet_step (fun K hK => ?_)
      go_simp
      apply Exists.intro
      refine ⟨fun W hW => ?_, hK _ ?_⟩
      · obtain ⟨c0, c1, -⟩ := HC.out W hW
        go_simp
        first | done | rfl
      clear hK K
      refine wpQuiet_step (fun K hK => ?_)
      go_simp
      apply Exists.intro
      refine ⟨fun W hW => ?_, hK _ ?_⟩
      · obtain ⟨c0, c1, -⟩ := HC.out W hW
        go_simp
        first | done | rfl
      clear hK K
      refine wpQuiet_step (fun K hK => ?_)
      go_simp
      apply Exists.intro
      refine ⟨fun W hW => ?_, hK _ ?_⟩
      · obtain ⟨c0, c1, -⟩ := HC.out W hW
        go_simp
        first | done | rfl
      clear hK K
      refine wpQuiet_step (fun K hK => ?_)
      go_simp
      apply Exists.intro
      refine ⟨fun W hW => ?_, hK _ ?_⟩
      · obtain ⟨c0, c1, -⟩ := HC.out W hW
        go_simp
        first | done | rfl
      clear hK K
      refine wpQuiet_step (fun K hK => ?_)
      go_simp
      apply Exists.intro
      refine ⟨fun W hW => ?_, hK _ ?_⟩
      · obtain ⟨c0, c1, -⟩ := HC.out W hW
        go_simp
        first | done | rfl
      clear hK K
      refine wpQuiet_step (fun K hK => ?_)
      go_simp
      apply Exists.intro
      refine ⟨fun W hW => ?_, hK _ ?_⟩
      · obtain ⟨c0, c1, -⟩ := HC.out W hW
        go_simp
        first | done | rfl
      clear hK K
      refine wpQuiet_step (fun K hK => ?_)
      go_simp
      apply Exists.intro
      refine ⟨fun W hW => ?_, hK _ ?_⟩
      · obtain ⟨c0, c1, -⟩ := HC.out W hW
        go_simp
        first | done | rfl
      clear hK K
      refine wpQuiet_step (fun K hK => ?_)
      go_simp
      apply Exists.intro
      refine ⟨fun W hW => ?_, hK _ ?_⟩
      · obtain ⟨c0, c1, -⟩ := HC.out W hW
        go_simp
        first | done | rfl
      clear hK K
      refine wpQuiet_step (fun K hK => ?_)
      go_simp
      apply Exists.intro
      refine ⟨fun W hW => ?_, hK _ ?_⟩
      · obtain ⟨c0, c1, -⟩ := HC.out W hW
        go_simp
        first | done | rfl
      clear hK K
      refine wpQuiet_step (fun K hK => ?_)
      go_simp
      apply Exists.intro
      refine ⟨fun W hW => ?_, hK _ ?_⟩
      · exact Calls.grew_of hW (HGET.out W hW)
      clear hK K
      refine wpQuiet_step (fun K hK => ?_)
      go_simp
      apply Exists.intro
      refine ⟨fun W hW => ?_, hK _ ?_⟩
      · obtain ⟨c0, c1, -⟩ := HC.out W hW
        go_simp
        first | done | rfl
      clear hK K
      refine wpQuiet_step (fun K hK => ?_)
      go_simp
      apply Exists.intro
      refine ⟨fun W hW => ?_, hK _ ?_⟩
      · obtain ⟨c0, c1, -⟩ := HC.out W hW
        go_simp
        first | done | rfl
      clear hK K
      refine wpQuiet_step (fun K hK => ?_)
      go_simp
      apply Exists.intro
      refine ⟨fun W hW => ?_, hK _ ?_⟩
      · obtain ⟨c0, c1, -⟩ := HC.out W hW
        go_simp
        first | done | rfl
      clear hK K
      refine wpQuiet_step (fun K hK => ?_)
      go_simp
      apply Exists.intro
      refine ⟨fun W hW => ?_, hK _ ?_⟩
      · obtain ⟨c0, c1, -⟩ := HC.out W hW
        go_simp
        first | done | rfl
      clear hK K
      refine wpQuiet_step (fun K hK => ?_)
      go_simp
      apply Exists.intro
      refine ⟨fun W hW => ?_, hK _ ?_⟩
      · obtain ⟨c0, c1, -⟩ := HC.out W hW
        go_simp
        first | done | rfl
      clear hK K
      refine wpQuiet_step (fun K hK => ?_)
      go_simp
      apply Exists.intro
      refine ⟨fun W hW => ?_, hK _ ?_⟩
      · obtain ⟨c0, c1, -⟩ := HC.out W hW
        go_simp
        first | done | rfl
      clear hK K
      refine wpQuiet_step (fun K hK => ?_)
      go_simp
      apply Exists.intro
      refine ⟨fun W hW => ?_, hK _ ?_⟩
      · obtain ⟨c0, c1, -⟩ := HC.out W hW
        go_simp
        first | done | rfl
      clear hK K
      refine wpQuiet_nil ?_
      intro W2 hW2
      obtain ⟨c0, c1, c2, c3, c4, c5, c6, c7, c8⟩ := HC.out W2 hW2
      obtain ⟨g, rfl, hcx⟩ := HRW.out W2 hW2
      have HCT2 := Lib.hid (HCT.out W2 hW2)
      have HW2 := Lib.hid (And.intro (HBW.out.trans (hW2.bel.mono HBW.out.size)) (HBW2.out.trans (hW2.bel.mono HBW2.out.size)))
      clear hW2 HC HCT HRW HGET c0 c2 c3 c5 c6 c7 c8
      by_cases hs : st = x
      · have hs1 : ((st : Int) != (x : Int)) = false := by rw [hs, bne_self_eq_false]
        have hs2 : ((st : Int) == (x : Int)) = true := by rw [hs, beq_self_eq_true]
        have hs3 : (st == x) = true := by rw [beq_iff_eq]; exact hs
        have HFS := Lib.hid (And.intro HFA.out hs3)
        clear hs hs3 HFA
        cases z
        · go_wp2_with fail
          refine HCT2.out.mono ?_
          rintro r w5 ⟨rfl, rfl⟩
          go_wp2_with fail
          have hfi2 : Jrn.firmAt (Jrn.rx d) WL K.base (Jrn.sts L) i = true := by rw [HFS.out.1, HFS.out.2]; rfl
          go_roundw
          · refine ⟨i + 1, by go_num, by omega, fun j h1 h2 => ?_, HW2.out.2⟩
            by_cases hj : j = i
            · rw [hj]; exact hfi2
            · exact HALL.out j h1 (by omega)
          · simp only [vInt]; omega
        · have hR := HD.out i hlt (by rw [HFS.out.1, HFS.out.2]; rfl) hfi
          have HR := Lib.hid hR
          clear hR
          go_wp2_with fail
          refine HCT2.out.mono ?_
          rintro r w5 ⟨rfl, rfl⟩
          go_wp2_with fail
          go_ret
          rw [HR.out]
          exact ⟨rfl, HW2.out.1⟩
      · have hs1 : ((st : Int) != (x : Int)) = true := by rw [bne_iff_ne]; omega
        have hs2 : ((st : Int) == (x : Int)) = false := by rw [beq_eq_false_iff_ne]; omega
        have hR := HD.out i hlt (by rw [HFA.out, (by rw [beq_eq_false_iff_ne]; exact hs : (st == x) = false)]; rfl) hfi
        have HR := Lib.hid hR
        clear hR hs
        go_wp2_with fail
        go_ret
        rw [HR.out]
        exact ⟨rfl, HW2.out.1⟩
    · have hki : ¬ (i : Int) < (to_ : Int) := by omega
      have hR := HT.out (fun j h1 h2 => hall j h1 (by omega))
      have HR := Lib.hid hR
      have HF := Lib.hid (HB.out.trans (hb.mono HB.out.size))
      clear hR hall hb
      go_wp2_with fail
      go_ret
      rw [HR.out]
      exact ⟨rfl, HF.out⟩
/-- Nothing more has become durable. -/
theorem jsettle_still (h : JnAt w K vs vr L sure firm dead wn d) (hsl : sure ≤ L.length) (hfl : firm ≤ 8192)
    (hst : sure = L.length ∨ ∃ hs : sure < L.length, firm + Jrn.need (L[sure]'hs).1.length ≤ Jrn.usedL L ∧ Jrn.durB (Jrn.rx d) (Dsk.waits d.secs) K.base (Jrn.sts L) firm (firm + Jrn.need (L[sure]'hs).1.length) = false) :
    Calls Tryz.prog 31 #[.pointer (some ⟨K.gj, 0, none⟩)] w fun e w' => e = .returned (.tuple #[]) ∧ Below w.heap.size w w' := by
  have hroom := h.room
  have htop := h.top
  have hul := Jrn.len_used L
  obtain ⟨-, -, -, -, -, c5, c6, c7, -⟩ := h.cs
  obtain ⟨A, cap, rfl, hlc, hcm, hcell⟩ := h.rc.any
  rw [List.length_map] at c5 hlc
  rcases hst with hst | ⟨hs, hle, hdur⟩
  · subst hst
    have k1 : ¬ (L.length : Int) < (L.length : Int) := by omega
    clear h hcell hfl hroom htop hul hlc hcm hsl
    generalize L.length = n at *
    go_enter Tryz.func31, Tryz.ntmps31
    go_wp2_with fail
    refine wp_loop_rounds 1 ?_
    rw [rounds_succ]
    go_upto_region 0 with fail
    go_quiet (fail)
    go_wp2_with fail
    go_returns
    exact ⟨rfl, below_drewN (Below.refl _ _) _⟩
  · have hsh := (h.shp _ (List.getElem_mem hs)).short
    have HND : Hid (∀ W, Calls Tryz.prog 37 #[.int .i64 ((L[sure]'hs).1.length : Int)] W fun e w' => e = .returned (.int .i64 (Jrn.need (L[sure]'hs).1.length : Int)) ∧ w' = W) := Lib.hid (fun W => jnneed_any _ (by omega) W)
    have HDU : Hid (∀ W, Below w.heap.size w W → Calls Tryz.prog 50 #[.pointer (some ⟨K.gj, 0, none⟩), .int .i64 (firm : Int), .int .i64 ((firm : Int) + (Jrn.need (L[sure]'hs).1.length : Int))] W fun e w' => e = .returned (.bool false) ∧ Below W.heap.size W w') := Lib.hid (fun W hb => by
      have := jdurable_any (h.below hb) firm (firm + Jrn.need (L[sure]'hs).1.length) hle
      rw [hdur] at this
      rw [show (firm : Int) + (Jrn.need (L[sure]'hs).1.length : Int) = ((firm + Jrn.need (L[sure]'hs).1.length : Nat) : Int) by omega]
      exact this)
    obtain ⟨g, rfl, hc⟩ := hcell sure (by rw [List.length_map]; exact hs)
    rw [List.getElem_map] at hc
    have HC : Hid (∀ W, Grew w W → W.cell? ⟨K.gj, 5, none⟩ = some (.slice (some ⟨g, 0, none⟩) L.length cap) ∧ W.cell? ⟨K.gj, 6, none⟩ = some (.int .i64 (sure : Int)) ∧ W.cell? ⟨K.gj, 7, none⟩ = some (.int .i64 (firm : Int)) ∧ W.cell? ⟨g, sure, none⟩ = some (.string (S (L[sure]'hs).1))) := Lib.hid (fun W hW => by
      have h2 := h.below hW.bel
      obtain ⟨-, -, -, -, -, d5, d6, d7, -⟩ := h2.cs
      rw [List.length_map] at d5
      obtain ⟨g', e, hd⟩ := h2.rc.at_ sure (by rw [List.length_map]; exact hs)
      injection e with e
      injection e with e1 _ _
      subst e1
      rw [List.getElem_map] at hd
      exact ⟨d5, d6, d7, hd⟩)
    have k1 : (sure : Int) < (L.length : Int) := by omega
    have k2 : (sure : Int) < (cap : Int) := by omega
    have k3 : (0 : Int) ≤ (sure : Int) := by omega
    have hnd : Jrn.need (L[sure]'hs).1.length ≤ 200 := by unfold Jrn.need; omega
    generalize Jrn.need (L[sure]'hs).1.length = nd at *
    have hwr1 : IntKind.i64.wrap ((firm : Int) + (nd : Int)) = (firm : Int) + (nd : Int) := by rw [IntKind.wrap_i64]; omega
    generalize (L[sure]'hs).1 = s at *
    clear h hcell hfl hroom htop hul hlc hcm hsl hdur hle hs
    go_enter Tryz.func31, Tryz.ntmps31
    go_wp2_with fail
    refine wp_loop_rounds 1 ?_
    rw [rounds_succ]
    go_upto_region 0 with fail
    go_quiet (fail)
    go_upto_region 1 with fail
    refine wp_region_grew (w0 := w) (by kernel_rfl) (by kernel_rfl) (jbdn (Below.refl _ _) _) ?_
    refine wpQuiet_step (fun K hK => ?_)
    go_simp
    apply Exists.intro
    refine ⟨fun W hW => ?_, hK _ ?_⟩
    · obtain ⟨c5, c6, c7, hc⟩ := HC.out W hW
      go_simp
      first | done | rfl
    clear hK K
    refine wpQuiet_step (fun K hK => ?_)
    go_simp
    apply Exists.intro
    refine ⟨fun W hW => ?_, hK _ ?_⟩
    · obtain ⟨c5, c6, c7, hc⟩ := HC.out W hW
      go_simp
      first | done | rfl
    clear hK K
    refine wpQuiet_step (fun K hK => ?_)
    go_simp
    apply Exists.intro
    refine ⟨fun W hW => ?_, hK _ ?_⟩
    · obtain ⟨c5, c6, c7, hc⟩ := HC.out W hW
      go_simp
      first | done | rfl
    clear hK K
    refine wpQuiet_step (fun K hK => ?_)
    go_simp
    apply Exists.intro
    refine ⟨fun W hW => ?_, hK _ ?_⟩
    · obtain ⟨c5, c6, c7, hc⟩ := HC.out W hW
      go_simp
      first | done | rfl
    clear hK K
    refine wpQuiet_step (fun K hK => ?_)
    go_simp
    apply Exists.intro
    refine ⟨fun W hW => ?_, hK _ ?_⟩
    · obtain ⟨c5, c6, c7, hc⟩ := HC.out W hW
      go_simp
      first | done | rfl
    clear hK K
    refine wpQuiet_step (fun K hK => ?_)
    go_simp
    apply Exists.intro
    refine ⟨fun W hW => ?_, hK _ ?_⟩
    · obtain ⟨c5, c6, c7, hc⟩ := HC.out W hW
      go_simp
      first | done | rfl
    clear hK K
    refine wpQuiet_step (fun K hK => ?_)
    go_simp
    apply Exists.intro
    refine ⟨fun W hW => ?_, hK _ ?_⟩
    · obtain ⟨c5, c6, c7, hc⟩ := HC.out W hW
      go_simp
      first | done | rfl
    clear hK K
    refine wpQuiet_step (fun K hK => ?_)
    go_simp
    apply Exists.intro
    refine ⟨fun W hW => ?_, hK _ ?_⟩
    · obtain ⟨c5, c6, c7, hc⟩ := HC.out W hW
      go_simp
      first | done | rfl
    clear hK K
    refine wpQuiet_step (fun K hK => ?_)
    go_simp
    apply Exists.intro
    refine ⟨fun W hW => ?_, hK _ ?_⟩
    · obtain ⟨c5, c6, c7, hc⟩ := HC.out W hW
      go_simp
      first | done | rfl
    clear hK K
    refine wpQuiet_step (fun K hK => ?_)
    go_simp
    apply Exists.intro
    refine ⟨fun W hW => ?_, hK _ ?_⟩
    · obtain ⟨c5, c6, c7, hc⟩ := HC.out W hW
      go_simp
      first | done | rfl
    clear hK K
    refine wpQuiet_step (fun K hK => ?_)
    go_simp
    apply Exists.intro
    refine ⟨fun W hW => ?_, hK _ ?_⟩
    · obtain ⟨c5, c6, c7, hc⟩ := HC.out W hW
      go_simp
      first | done | rfl
    clear hK K
    refine wpQuiet_step (fun K hK => ?_)
    go_simp
    apply Exists.intro
    refine ⟨fun W hW => ?_, hK _ ?_⟩
    · obtain ⟨c5, c6, c7, hc⟩ := HC.out W hW
      go_simp
      first | done | rfl
    clear hK K
    refine wpQuiet_step (fun K hK => ?_)
    go_simp
    apply Exists.intro
    refine ⟨fun W hW => ?_, hK _ ?_⟩
    · obtain ⟨c5, c6, c7, hc⟩ := HC.out W hW
      go_simp
      first | done | rfl
    clear hK K
    refine wpQuiet_step (fun K hK => ?_)
    go_simp
    apply Exists.intro
    refine ⟨fun W hW => ?_, hK _ ?_⟩
    · obtain ⟨c5, c6, c7, hc⟩ := HC.out W hW
      go_simp
      first | done | rfl
    clear hK K
    refine wpQuiet_step (fun K hK => ?_)
    go_simp
    apply Exists.intro
    refine ⟨fun W hW => ?_, hK _ ?_⟩
    · obtain ⟨c5, c6, c7, hc⟩ := HC.out W hW
      go_simp
      first | done | rfl
    clear hK K
    refine wpQuiet_step (fun K hK => ?_)
    go_simp
    apply Exists.intro
    refine ⟨fun W hW => ?_, hK _ ?_⟩
    · exact Calls.grew_of hW ((HND.out W).mono fun e w' hq => ⟨hq.1, by rw [hq.2]; exact Below.refl _ _⟩)
    clear hK K
    refine wpQuiet_step (fun K hK => ?_)
    go_simp
    apply Exists.intro
    refine ⟨fun W hW => ?_, hK _ ?_⟩
    · obtain ⟨c5, c6, c7, hc⟩ := HC.out W hW
      go_simp
      first | done | rfl
    clear hK K
    refine wpQuiet_step (fun K hK => ?_)
    go_simp
    apply Exists.intro
    refine ⟨fun W hW => ?_, hK _ ?_⟩
    · obtain ⟨c5, c6, c7, hc⟩ := HC.out W hW
      go_simp
      first | done | rfl
    clear hK K
    refine wpQuiet_nil ?_
    intro W2 hW2
    have HW2 := Lib.hid hW2.bel
    obtain ⟨-, -, d7, -⟩ := HC.out W2 hW2
    clear hW2
    go_wp2_with fail
    refine (HDU.out _ HW2.out).mono ?_
    rintro r w5 ⟨rfl, hb5⟩
    have HB5 := Lib.hid (HW2.out.trans (hb5.mono HW2.out.size))
    clear hb5
    go_wp2_with fail
    go_returns
    exact ⟨rfl, HB5.out⟩
/-- All has become durable. -/
theorem jsettle_all (h : JnAt w K vs vr L sure firm dead wn d) (hsl : sure ≤ L.length) (hfl : firm = Jrn.usedL (L.take sure))
    (hall : ∀ i, i < Jrn.usedL L → Jrn.firmAt (Jrn.rx d) (Dsk.waits d.secs) K.base (Jrn.sts L) i = true) :
    Calls Tryz.prog 31 #[.pointer (some ⟨K.gj, 0, none⟩)] w fun e w' => e = .returned (.tuple #[]) ∧ JnAt w' K vs vr L L.length (Jrn.usedL L) dead wn d ∧ Mv w w' [K.gj] := by
  have hroom := h.room
  have htop := h.top
  have hul := Jrn.len_used L
  have hshp := h.shp
  obtain ⟨A, cap, hvr, hlc, hcm, hcell0⟩ := h.rc.any
  rw [List.length_map] at hvr hlc
  have HVR := Lib.hid hvr
  clear hvr
  have HSET6 : Hid (∀ W k f, JnAt W K vs vr L k f dead wn d → JnAt (W.setCell ⟨K.gj, 6, none⟩ (.int .i64 ((k : Int) + 1))) K vs vr L (k + 1) f dead wn d) := Lib.hid (fun W k f hq => by
    have := hq.set 6 (.int .i64 ((k + 1 : Nat) : Int)) (k + 1) f dead rfl
    rw [show ((k + 1 : Nat) : Int) = (k : Int) + 1 by omega] at this
    exact this)
  have HSET7 : Hid (∀ W k f (m : Nat), JnAt W K vs vr L k f dead wn d → JnAt (W.setCell ⟨K.gj, 7, none⟩ (.int .i64 (m : Int))) K vs vr L k m dead wn d) := Lib.hid (fun W k f m hq => hq.set 7 (.int .i64 (m : Int)) k m dead rfl)
  have HND : Hid (∀ (s : List UInt8) W, s.length ≤ 6000 → Calls Tryz.prog 37 #[.int .i64 (s.length : Int)] W fun e w' => e = .returned (.int .i64 (Jrn.need s.length : Int)) ∧ Below W.heap.size W w') := Lib.hid (fun s W hs => (jnneed_any _ (by omega) W).mono fun e w' hq => ⟨hq.1, by rw [hq.2]; exact Below.refl _ _⟩)
  have HDU : Hid (∀ W k f (m : Nat), JnAt W K vs vr L k f dead wn d → m ≤ Jrn.usedL L → Calls Tryz.prog 50 #[.pointer (some ⟨K.gj, 0, none⟩), .int .i64 (f : Int), .int .i64 (m : Int)] W fun e w' => e = .returned (.bool true) ∧ Below W.heap.size W w') := Lib.hid (fun W k f m hq hm => by
    have := jdurable_any hq f m hm
    have e : Jrn.durB (Jrn.rx d) (Dsk.waits d.secs) K.base (Jrn.sts L) f m = true := by
      unfold Jrn.durB
      rw [decide_eq_true_iff]
      exact fun i h1 h2 => hall i (by omega)
    rw [e] at this
    exact this)
  have H0 := Lib.hid h
  clear h hcell0
  go_enter Tryz.func31, Tryz.ntmps31
  go_wp2_with fail
  go_loopg [2] L.length (fun g v2 wr => ∃ k : Nat, k ≤ L.length ∧ L.length - k ≤ g ∧ JnAt wr K vs vr L k (Jrn.usedL (L.take k)) dead wn d ∧ Mv w wr [K.gj])
  case atStart => exact ⟨sure, hsl, by omega, by rw [← hfl]; exact H0.out, Mv.refl _ _⟩
  case round =>
    obtain ⟨k, hk, hg, hJ, hm⟩ := hrel
    by_cases hlt : k < L.length
    · have hki : (k : Int) < (L.length : Int) := by omega
      have hsh := (hshp _ (List.getElem_mem hlt)).short
      have hut : Jrn.usedL (L.take (k + 1)) = Jrn.usedL (L.take k) + Jrn.need (L[k]'hlt).1.length := by
        rw [List.take_succ_eq_append_getElem hlt, Jrn.usedL_snoc]
      have hule : Jrn.usedL (L.take (k + 1)) ≤ Jrn.usedL L := by
        have := Jrn.usedL_append (L.take (k + 1)) (L.drop (k + 1))
        rw [List.take_append_drop] at this
        omega
      have hrc := hJ.rc
      rw [HVR.out] at hrc
      obtain ⟨g, hA, hc⟩ := hrc.at_ k (by rw [List.length_map]; exact hlt)
      subst hA
      rw [List.getElem_map] at hc
      clear hrc
      have HC : Hid (∀ W, Grew wr W → W.cell? ⟨K.gj, 5, none⟩ = some (.slice (some ⟨g, 0, none⟩) L.length cap) ∧ W.cell? ⟨K.gj, 6, none⟩ = some (.int .i64 (k : Int)) ∧ W.cell? ⟨K.gj, 7, none⟩ = some (.int .i64 (Jrn.usedL (L.take k) : Int)) ∧ W.cell? ⟨g, k, none⟩ = some (.string (S (L[k]'hlt).1))) := Lib.hid (fun W hW => by
        have h2 := hJ.below hW.bel
        obtain ⟨-, -, -, -, -, d5, d6, d7, -⟩ := h2.cs
        have h3 := h2.rc
        rw [HVR.out] at d5 h3
        obtain ⟨g', e, hd⟩ := h3.at_ k (by rw [List.length_map]; exact hlt)
        injection e with e
        injection e with e1 _ _
        subst e1
        rw [List.getElem_map] at hd
        exact ⟨d5, d6, d7, hd⟩)
      have HNDk := Lib.hid (fun W => HND.out (L[k]'hlt).1 W hsh)
      have HDUk := Lib.hid (fun W hq => HDU.out W k (Jrn.usedL (L.take k)) (Jrn.usedL (L.take (k + 1))) hq hule)
      rw [show (Jrn.usedL (L.take (k + 1)) : Int) = (Jrn.usedL (L.take k) : Int) + (Jrn.need (L[k]'hlt).1.length : Int) by omega] at HDUk
      obtain ⟨-, -, -, -, -, c5, c6, c7, -⟩ := hJ.cs
      rw [HVR.out] at c5
      have HJ := Lib.hid (And.intro hJ hm)
      have k2 : (k : Int) < (cap : Int) := by omega
      have k3 : (0 : Int) ≤ (k : Int) := by omega
      have HUT := Lib.hid hut
      have hb1 : Jrn.usedL (L.take k) ≤ 8192 := by omega
      have hb2 : Jrn.need (L[k]'hlt).1.length ≤ 8192 := by omega
      have hb3 : L.length ≤ 8192 := by omega
      clear hJ hm hc hut hule hsh
      generalize Jrn.usedL (L.take k) = u at *
      generalize Jrn.need (L[k]'hlt).1.length = nd at *
      generalize (L[k]'hlt).1 = s at *
      have hwr1 : IntKind.i64.wrap ((u : Int) + (nd : Int)) = (u : Int) + (nd : Int) := by rw [IntKind.wrap_i64]; omega
      go_wp2_with fail
      go_quiet (fail)
      go_upto_region 1 with fail
      refine wp_region_grew (w0 := wr) (by kernel_rfl) (by kernel_rfl) (jbdn (Below.refl _ _) _) ?_
      refine wpQuiet_step (fun K hK => ?_)
      go_simp
      apply Exists.intro
      refine ⟨fun W hW => ?_, hK _ ?_⟩
      · obtain ⟨c5, c6, c7, hc⟩ := HC.out W hW
        go_simp
        first | done | rfl
      clear hK K
      refine wpQuiet_step (fun K hK => ?_)
      go_simp
      apply Exists.intro
      refine ⟨fun W hW => ?_, hK _ ?_⟩
      · obtain ⟨c5, c6, c7, hc⟩ := HC.out W hW
        go_simp
        first | done | rfl
      clear hK K
      refine wpQuiet_step (fun K hK => ?_)
      go_simp
      apply Exists.intro
      refine ⟨fun W hW => ?_, hK _ ?_⟩
      · obtain ⟨c5, c6, c7, hc⟩ := HC.out W hW
        go_simp
        first | done | rfl
      clear hK K
      refine wpQuiet_step (fun K hK => ?_)
      go_simp
      apply Exists.intro
      refine ⟨fun W hW => ?_, hK _ ?_⟩
      · obtain ⟨c5, c6, c7, hc⟩ := HC.out W hW
        go_simp
        first | done | rfl
      clear hK K
      refine wpQuiet_step (fun K hK => ?_)
      go_simp
      apply Exists.intro
      refine ⟨fun W hW => ?_, hK _ ?_⟩
      · obtain ⟨c5, c6, c7, hc⟩ := HC.out W hW
        go_simp
        first | done | rfl
      clear hK K
      refine wpQuiet_step (fun K hK => ?_)
      go_simp
      apply Exists.intro
      refine ⟨fun W hW => ?_, hK _ ?_⟩
      · obtain ⟨c5, c6, c7, hc⟩ := HC.out W hW
        go_simp
        first | done | rfl
      clear hK K
      refine wpQuiet_step (fun K hK => ?_)
      go_simp
      apply Exists.intro
      refine ⟨fun W hW => ?_, hK _ ?_⟩
      · obtain ⟨c5, c6, c7, hc⟩ := HC.out W hW
        go_simp
        first | done | rfl
      clear hK K
      refine wpQuiet_step (fun K hK => ?_)
      go_simp
      apply Exists.intro
      refine ⟨fun W hW => ?_, hK _ ?_⟩
      · obtain ⟨c5, c6, c7, hc⟩ := HC.out W hW
        go_simp
        first | done | rfl
      clear hK K
      refine wpQuiet_step (fun K hK => ?_)
      go_simp
      apply Exists.intro
      refine ⟨fun W hW => ?_, hK _ ?_⟩
      · obtain ⟨c5, c6, c7, hc⟩ := HC.out W hW
        go_simp
        first | done | rfl
      clear hK K
      refine wpQuiet_step (fun K hK => ?_)
      go_simp
      apply Exists.intro
      refine ⟨fun W hW => ?_, hK _ ?_⟩
      · obtain ⟨c5, c6, c7, hc⟩ := HC.out W hW
        go_simp
        first | done | rfl
      clear hK K
      refine wpQuiet_step (fun K hK => ?_)
      go_simp
      apply Exists.intro
      refine ⟨fun W hW => ?_, hK _ ?_⟩
      · obtain ⟨c5, c6, c7, hc⟩ := HC.out W hW
        go_simp
        first | done | rfl
      clear hK K
      refine wpQuiet_step (fun K hK => ?_)
      go_simp
      apply Exists.intro
      refine ⟨fun W hW => ?_, hK _ ?_⟩
      · obtain ⟨c5, c6, c7, hc⟩ := HC.out W hW
        go_simp
        first | done | rfl
      clear hK K
      refine wpQuiet_step (fun K hK => ?_)
      go_simp
      apply Exists.intro
      refine ⟨fun W hW => ?_, hK _ ?_⟩
      · obtain ⟨c5, c6, c7, hc⟩ := HC.out W hW
        go_simp
        first | done | rfl
      clear hK K
      refine wpQuiet_step (fun K hK => ?_)
      go_simp
      apply Exists.intro
      refine ⟨fun W hW => ?_, hK _ ?_⟩
      · obtain ⟨c5, c6, c7, hc⟩ := HC.out W hW
        go_simp
        first | done | rfl
      clear hK K
      refine wpQuiet_step (fun K hK => ?_)
      go_simp
      apply Exists.intro
      refine ⟨fun W hW => ?_, hK _ ?_⟩
      · obtain ⟨c5, c6, c7, hc⟩ := HC.out W hW
        go_simp
        first | done | rfl
      clear hK K
      refine wpQuiet_step (fun K hK => ?_)
      go_simp
      apply Exists.intro
      refine ⟨fun W hW => ?_, hK _ ?_⟩
      · exact Calls.grew_of hW (HNDk.out W)
      clear hK K
      refine wpQuiet_step (fun K hK => ?_)
      go_simp
      apply Exists.intro
      refine ⟨fun W hW => ?_, hK _ ?_⟩
      · obtain ⟨c5, c6, c7, hc⟩ := HC.out W hW
        go_simp
        first | done | rfl
      clear hK K
      refine wpQuiet_step (fun K hK => ?_)
      go_simp
      apply Exists.intro
      refine ⟨fun W hW => ?_, hK _ ?_⟩
      · obtain ⟨c5, c6, c7, hc⟩ := HC.out W hW
        go_simp
        first | done | rfl
      clear hK K
      refine wpQuiet_nil ?_
      intro W2 hW2
      have HJ2 := Lib.hid (And.intro (HJ.out.1.below hW2.bel) (HJ.out.2.trans (Mv.of_below hW2.bel _)))
      obtain ⟨-, -, d7, -⟩ := HC.out W2 hW2
      clear hW2 c5 c6 c7 HJ HC
      go_wp2_with fail
      refine (HDUk.out _ HJ2.out.1).mono ?_
      rintro r w5 ⟨rfl, hb5⟩
      have HJ5 := Lib.hid (And.intro (HJ2.out.1.below hb5) (HJ2.out.2.trans (Mv.of_below hb5 _)))
      clear hb5 HJ2 d7
      obtain ⟨-, -, -, -, -, -, c6, c7, -⟩ := HJ5.out.1.cs
      have f6 := HJ5.out.1.has.free 6
      have f7 := HJ5.out.1.has.free 7
      have hwr2 : IntKind.i64.wrap ((k : Int) + 1) = (k : Int) + 1 := by rw [IntKind.wrap_i64]; omega
      have HF := Lib.hid (And.intro (HSET7.out _ _ _ (u + nd) (HSET6.out _ _ _ HJ5.out.1)) (HJ5.out.2.trans ((Mv.of_only (Only.set w5 K.gj 6 (.int .i64 ((k : Int) + 1))) (by simp)).trans (Mv.of_only (Only.set _ K.gj 7 (.int .i64 ((u + nd : Nat) : Int))) (by simp)))))
      rw [show ((u + nd : Nat) : Int) = (u : Int) + (nd : Int) by omega] at HF
      clear HJ5
      go_wp2_with fail
      go_roundg (L.length - (k + 1))
      case measure => omega
      case rel => exact ⟨k + 1, by omega, by omega, by rw [HUT.out]; exact HF.out.1, HF.out.2⟩
    · obtain rfl : k = L.length := by omega
      have hki : ¬ (L.length : Int) < (L.length : Int) := by omega
      obtain ⟨-, -, -, -, -, c5, c6, -⟩ := hJ.cs
      rw [HVR.out] at c5
      rw [List.take_length] at hJ
      have HF := Lib.hid (And.intro hJ hm)
      clear hJ hm
      go_wp2_with fail
      go_quiet (fail)
      go_wp2_with fail
      go_returns
      exact ⟨rfl, HF.out.1.below (jbdn (Below.refl _ wr) _), HF.out.2.trans (Mv.of_below (jbdn (Below.refl _ wr) _) _)⟩
end
end Go.Proofs.YtjdklifkalnamaaGreatDoor
