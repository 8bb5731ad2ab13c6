/-
  A flush: the contract.
-/
import Derived.Test.YthadcmbbdggneaaGreatDoorDskE
import Derived.Test.YthadcmbbdggneaaGreatDoorFlushP
import Derived.Maps.RangeWalk
namespace Go.Proofs.YthadcmbbdggneaaGreatDoor
open Go.RowKit
set_option linter.unusedVariables false

abbrev LogS (g bd n : Nat) (W : World) : Prop := W.cell? ⟨g, 0, none⟩ = some (.slice (some ⟨bd, 0, none⟩) n n)
theorem heldE_out {c : Array Value} {y : DataW (Array Value) × List MemPlace} (h : heldE (.agg c) = some y) : y.1 = .held c := by
  unfold heldE at h
  injection h with h
  rw [← h]
/-- What has come out of the map: its key is a place that waits, its element what waits there. -/
theorem came {D : DataW (Array Value)} {L : List Dsk.Sec} {left : Lit → Bool} (hD : Says D (fun x => if left (.int .i64 x) = true then Dsk.pendI L x else none)) {x : Int} {c : Array Value} {kl : Lit} {y : DataW (Array Value) × List MemPlace}
    (hkey : keyOf Tryz.prog 3 (.int .i64 x) = some kl) (hlk : left kl = true) (hv : heldE (.agg c) = some y) (hat : ∀ zd, D.atKey kl zd = y.1) :
    ∃ i s p, x = ((i : Nat) : Int) ∧ kl = .int .i64 (i : Int) ∧ L[i]? = some s ∧ s.pend = some p ∧ c = secV p.1 p.2 ∧ left (.int .i64 (i : Int)) = true := by
  obtain ⟨x', hx, hkl, hwf⟩ := Maps.keyOf_i64 Tryz.underlying3 hkey
  obtain rfl := encZ_inj hx
  subst hkl
  have h1 := (hD x hwf).2 .nil
  rw [hat, heldE_out hv] at h1
  dsimp only at h1
  rw [if_pos hlk] at h1
  cases hp : Dsk.pendI L x with
  | none => rw [hp] at h1; cases h1
  | some p =>
    rw [hp] at h1
    injection h1 with h1
    unfold Dsk.pendI at hp
    by_cases h0 : 0 ≤ x
    · rw [if_pos h0] at hp
      cases hs : L[x.toNat]? with
      | none => rw [hs] at hp; cases hp
      | some s =>
        rw [hs] at hp
        have e : x = ((x.toNat : Nat) : Int) := by omega
        exact ⟨x.toNat, s, p, e, by rw [← e], hs, hp, h1, by rw [← e]; exact hlk⟩
    · rw [if_neg h0] at hp; cases hp
theorem says_del {D : DataW (Array Value)} {q : PQ} {left : Lit → Bool} (hD : Says D (fun x => if left (.int .i64 x) = true then q x else none)) (k : Int) :
    Says (D.del (.int .i64 k)) (fun x => if (left (.int .i64 x) && !(Lit.int .i64 x).sameKey (.int .i64 k)) = true then q x else none) := by
  intro x hx
  by_cases hk : x = k
  · subst hk
    have hs : (Lit.int .i64 x).sameKey (.int .i64 x) = true := Go.WideAt.sameKey_self (keyIntLit x)
    dsimp only
    rw [hs]
    simp only [Bool.not_true, Bool.and_false, Bool.false_eq_true, if_false]
    exact ⟨Go.Maps.has_del_same, fun z => Go.Maps.atKey_del_same z⟩
  · have hne : Lit.int .i64 x ≠ Lit.int .i64 k := fun h => hk (by injection h)
    have hs : (Lit.int .i64 x).sameKey (.int .i64 k) = false := by
      rw [Bool.eq_false_iff]
      exact fun h => hne (Go.WideAt.sameKey_eq h)
    dsimp only
    rw [hs]
    simp only [Bool.not_false, Bool.and_true]
    obtain ⟨h1, h2⟩ := hD x hx
    exact ⟨by rw [Go.Maps.has_del_other hne]; exact h1, fun z => by rw [Go.Maps.atKey_del_other hne]; exact h2 z⟩

set_option maxRecDepth 100000 in
set_option maxHeartbeats 4000000 in
theorem flush_any {w : World} {g bd mb : Nat} {d : Dsk.St} (h : DiskAt w g bd mb d) (ha : d.acts < 1000000000000) (hfl : d.falls < 1000000000000) :
    Calls Tryz.prog 54 #[.pointer (some ⟨g, 0, none⟩)] w (DPost w g bd mb (Dsk.flush d).1 (Dsk.flush d).2) := by
  have HA := Lib.hid (powered_any h)
  have HT := Lib.hid (act_any h ha hfl)
  have hW : Dsk.flush d = if d.up = false then (8, d) else if (Dsk.act d).1 = false then (8, (Dsk.act d).2) else (0, { (Dsk.act d).2 with secs := (Dsk.act d).2.secs.map Dsk.flushed }) := rfl
  by_cases hu : d.up = true
  · rw [if_neg (by rw [hu]; decide)] at hW
    rw [hu] at HA
    unfold ActPost at HT
    cases hact : (Dsk.act d).1 with
    | false =>
      rw [if_pos hact] at hW
      have HW := Lib.hid hW
      rw [hact] at HT
      generalize (Dsk.act d).2 = d1 at HT HW
      clear h hW hact
      go_enter Tryz.func54, Tryz.ntmps54
      go_wp2_with fail
      refine HA.out.mono ?_
      rintro r w1 ⟨rfl, rfl⟩
      go_wp2_with fail
      refine HT.out.mono ?_
      rintro r w1 ⟨rfl, hd, hm⟩
      go_wp2_with fail
      go_ret
      rw [HW.out]
      exact ⟨rfl, hd, hm⟩
    | true =>
      rw [if_neg (by rw [hact]; decide)] at hW
      have HW := Lib.hid hW
      rw [hact] at HT
      generalize (Dsk.act d).2 = d1 at HT HW
      clear h hW hact
      obtain ⟨z, hz, hzs⟩ := zeroSome
      have HZS := Lib.hid hzs; clear hzs
      go_enter Tryz.func54, Tryz.ntmps54
      go_wp2_with fail
      refine HA.out.mono ?_
      rintro r w1 ⟨rfl, rfl⟩
      go_wp2_with fail
      refine HT.out.mono ?_
      rintro r w1 ⟨rfl, hd, hm⟩
      obtain ⟨l0, k0, t0, hc, hr⟩ := hd.cells
      obtain ⟨hl1, hl2, hl3⟩ := hd.lt
      obtain ⟨c0, c1, _⟩ := cells9 hc
      obtain ⟨D0, hown, hD0⟩ := hd.pend
      go_wp2_with (at_range; refine wpList_range_own _ rfl _ 73 rfl 3 87 lawInt Tryz.underlying73 heldE mb 8192 D0 rfl hown ?_; intro w0 hrg0 hg0 hs0)
      go_frame
      have hstart : Dsk.flushTo d1.secs (Go.Maps.has D0) = d1.secs := Dsk.flushTo_start fun i s hs hp => by
        have hi : i < d1.secs.length := (List.getElem?_eq_some_iff.1 hs).1
        have := hd.most
        rw [(hD0 (i : Int) (wfn (by omega))).1, Dsk.pendI_nat, hs]
        cases hq : s.pend with
        | none => exact absurd hq hp
        | some p => simp [hq]
      have hsays0 : Says D0 (fun x => if Go.Maps.has D0 (.int .i64 x) = true then Dsk.pendI d1.secs x else none) := fun x hx => by
        obtain ⟨e1, e2⟩ := hD0 x hx
        dsimp only
        rw [e1]
        cases hq : Dsk.pendI d1.secs x with
        | none => rw [hq] at e2; exact ⟨rfl, e2⟩
        | some p => rw [hq] at e2; exact ⟨rfl, e2⟩
      go_loopw [5] (fun _ wr => ∃ (left : Lit → Bool) (cnt : Nat) (D : DataW (Array Value)), wr.ranges Tryz.prog 3 heldE mb w1.heap.size 8192 D left cnt ∧ Says D (fun x => if left (.int .i64 x) = true then Dsk.pendI d1.secs x else none) ∧ Rows wr bd (Dsk.flushTo d1.secs left) ∧ Mv w1 wr [bd, mb])
        (fun _ wr => wr.rangeLeft mb w1.heap.size)
      case atStart => exact ⟨_, _, D0, hrg0, hsays0, by rw [hstart]; exact hd.rows.keep (hg0.block bd hl2 (by simp)), ⟨hg0.os, hg0.tape, hg0.output, hg0.size, fun i hi _ => hg0.block i hi (by simp)⟩⟩
      case round =>
        obtain ⟨left, cnt, D, hrg, hsay, hrow, hmv⟩ := hrel
        clear hrg0 hg0 hs0 hstart hsays0 c1
        go_wp2_with (at_next; refine wpList_next_ranges _ rfl _ rfl 3 lawInt heldE (Value.int .i64) Value.agg (fun key kl hk => (by obtain ⟨x, hx, _⟩ := Maps.keyOf_i64 Tryz.underlying3 hk; exact ⟨x, hx⟩)) (fun v y hv => heldE_shape hv) mb w1.heap.size 8192 _ _ _ rfl hrg ?_ ?_)
        · intro hc0 hl0
          have hfin : DPost w g bd mb (Dsk.flush d).1 (Dsk.flush d).2 (.returned (.int .i64 0)) wr := by
            rw [HW.out]
            rw [Dsk.flushTo_end hl0] at hrow
            have hlm : (d1.secs.map Dsk.flushed).length = d1.secs.length := List.length_map ..
            refine ⟨rfl, ⟨⟨l0, k0, t0, ?_, hr⟩, hrow, ?_, ?_, hd.n1, hd.n2, hd.n3, ?_, ?_⟩, hm.trans (hmv.wide (by simp))⟩
            · rw [hlm]; exact hmv.has hc (by have := hd.n1; have := hd.n2; simp; omega)
            · refine (show Pend wr mb 8192 _ from ⟨D, hrg.owns, hsay⟩).same fun x => ?_
              rw [if_neg (by rw [hl0]; decide)]
              refine Dsk.pendI_none (fun s hs => ?_) x
              obtain ⟨s', _, rfl⟩ := List.mem_map.1 hs
              unfold Dsk.flushed
              split
              · rfl
              · assumption
            · intro s hs
              obtain ⟨s', hs', rfl⟩ := List.mem_map.1 hs
              exact Dsk.flushed_full (hd.good s' hs')
            · rw [hlm]; exact hd.pos
            · rw [hlm]; exact hd.most
          have HFIN := Lib.hid hfin
          clear hfin hrg hsay hrow hmv hl0 hown hD0 hd hm hc hr c0
          go_wp2_with fail
          go_ret
          exact HFIN.out
        · intro x c kl y ps w2 cnt2 hkey hlk hv hat hrg2 hlt hg2 hs2 hen
          obtain ⟨i, s, p, rfl, rfl, hs, hp, rfl, hli⟩ := came hsay hkey hlk hv hat
          have hil : i < d1.secs.length := (List.getElem?_eq_some_iff.1 hs).1
          have hmost := hd.most
          have hgood := hd.good s (List.mem_of_getElem? hs)
          have hp65 := hgood.2 p hp
          have hfs : Dsk.flushed s = ⟨p.1, p.2, none⟩ := by unfold Dsk.flushed; rw [hp]
          have hstep := Dsk.flushTo_step hs hli
          rw [hfs] at hstep
          have HLE := Lib.hid hrg.left_eq
          have hrg3 : mb ≠ w1.heap.size ∧ w1.heap.size ≠ bd ∧ w1.heap.size ≠ g := by omega
          have hm2 : Mv wr w2 [w1.heap.size] := ⟨hg2.os, hg2.tape, hg2.output, hg2.size, fun k hk hn => hg2.block k hk (fun e => hn (by injection e with e; rw [e]; simp))⟩
          have hrow2 : Rows w2 bd (Dsk.flushTo d1.secs left) := hrow.keep (hm2.block bd hrow.lt (by simp; omega))
          have hmv2 : Mv w1 w2 [bd, mb] := ⟨hm2.os.trans hmv.os, hm2.tape.trans hmv.tape, hm2.output.trans hmv.output, Nat.le_trans hmv.size hm2.size, fun k hk hn => (hm2.block k (Nat.lt_of_lt_of_le hk hmv.size) (by simp; omega)).trans (hmv.block k hk hn)⟩
          have hgm : g ∉ [bd, mb] := by have := hd.n1; have := hd.n2; simp; omega
          have hsay2 := says_del hsay (i : Int)
          have hwi : (Lit.int .i64 (i : Int)).wf = true := wfn (by omega)
          have hki := keyInt hwi
          have hsz := secV_size (a := p.2) hp65
          have hone := secV_one p.1 p.2
          have hbd : Below w2.heap.size w2 ((w2.alloc (.cells z 87)).setRow w2.heap.size (secV p.1 p.2)) := below_setRow ((Below.refl _ w2).alloc (Nat.le_refl _) _) (Nat.le_refl _) _
          have hn6 : Has ((w2.alloc (.cells z 87)).setRow w2.heap.size (secV p.1 p.2)) w2.heap.size 87 (secV p.1 p.2) := setRow_heap _ _ _ _ _ _ (heap_alloc_new _ _)
          have hst := fun W (hW : Rows W bd (Dsk.flushTo d1.secs left)) => hW.store (i := i) (by rw [Dsk.flushTo_len]; exact hil) ⟨p.1, p.2, none⟩ hp65 (fun s' hs' => (Dsk.flushTo_full hd.good s' hs').1)
          have hth := fun W (hW : Rows W bd (Dsk.flushTo d1.secs left)) => hW.there (i := i) (by rw [Dsk.flushTo_len]; exact hil)
          rw [← hstep] at hst
          dsimp only at hst
          have HA6 : Hid (secVals p.1 p.2 = secVals p.1 p.2) := rfl
          have c0' : ∀ W, Mv w1 W [bd, mb] → LogS g bd d1.secs.length W := fun W hW => (World.cell?_of_block (hW.block g hl1 hgm)).trans c0
          obtain ⟨AL, hAL⟩ : ∃ AL, secVals p.1 p.2 = AL := ⟨_, rfl⟩
          have HI : Hid ((Tryz.prog.info? 87).map (·.size) = some AL.toArray.size) := Lib.hid (by rw [← hAL]; exact secSzA hp65)
          simp only [secV] at hsz hone hbd hn6 hen ⊢
          rw [hAL] at hsz hone hbd hn6 hst hen ⊢
          have HO := Lib.hid hone
          have HSZ := Lib.hid hsz
          have HBD := Lib.hid hbd
          have HN6 : Hid _ := hn6
          have HST : Hid _ := hst
          have HTH : Hid _ := hth
          have HC0 : Hid _ := c0'
          have HW2 := Lib.hid (And.intro hrow2 hmv2)
          have HRG := Lib.hid hrg2
          have hi0 : (0 : Int) ≤ (i : Int) := by omega
          have hin : (i : Int) < (d1.secs.length : Int) := by omega
          have c1' : ∀ W, Mv w1 W [bd, mb] → W.cell? ⟨g, 1, none⟩ = some (.map (some mb)) := fun W hW => (hW.has hc hgm).cell 1
          have HC1 : Hid _ := c1'
          generalize d1.secs.length = n at hin HC0
          clear hsz hone hbd hn6 hst hth c0' c1' hrow2 hmv2 hrg2 HA6 hm2 hrow hmv hrg hsay hstep hfs hgood hmost hil hs hp hkey hlk hv hat hg2 hs2
          go_upto_region 10 with (refine wpList_store_row rfl 87 (.tmp 6) (.tmp 26) rfl w2.heap.size AL.toArray ?e2 ?e3 _ _ (heap_alloc_new _ _) HI.out ?e4 HO.out ?_; (case e2 => rfl); (case e3 => rfl); (case e4 => rw [HSZ.out, HZS.out]))
          simp only [Act.put]
          generalize World.setRow (World.alloc w2 _) _ _ = W3 at HBD HN6 ⊢
          have hg3 : w2.grownBy W3 none := ⟨HBD.out.os, HBD.out.tape, HBD.out.output, HBD.out.size, fun k hk _ => HBD.out.block k hk⟩
          have hm3 : Mv w1 W3 [bd, mb] := HW2.out.2.trans (Mv.of_below HBD.out _)
          have hr3 : Rows W3 bd (Dsk.flushTo d1.secs left) := HW2.out.1.keep (HBD.out.block bd HW2.out.1.lt)
          have hx : LogS g bd n W3.drew := HC0.out _ hm3.drew
          have ho4 := only_setCells bd AL (i * 65) W3.drew
          have hm4 : Mv w1 (W3.drew.setCells bd (i * 65) AL) [bd, mb] := hm3.drew.trans (Mv.of_only ho4 (by simp))
          have hx4 : LogS g bd n (W3.drew.setCells bd (i * 65) AL) := HC0.out _ hm4
          have hr3' : Rows W3.drew bd (Dsk.flushTo d1.secs left) := hr3
          have hr4 := HST.out _ hr3'
          have hth3 := HTH.out _ hr3'
          have hrn := (HRG.out.kept hg3 (by simp) (by simp)).kept (w' := W3.drew.setCells bd (i * 65) AL) (row := some bd) ⟨ho4.os, ho4.tape, ho4.output, ho4.size, ho4.block⟩ (by have := hd.n3; simp; omega) (by simp; omega)
          have HN := Lib.hid (And.intro hrn (And.intro hr4 hm4))
          have hc4 := HC1.out _ hm4
          have HTH3 : Hid _ := hth3
          clear hg3 hm3 hr3 ho4 hm4 hr3' hr4 hth3 hrn HRG HW2 HBD HST HTH hen
          refine wp_region_held_drew (S := LogS g bd n) (by kernel_rfl) hx (fun hHeld => ?_)
          first
          | (refine take_wanted (i := 0) (v := ?_) rfl rfl (by kernel_rfl) (by kernel_rfl) (by kernel_rfl) (fun _ _ _ h => h) (by rfl) (by assumption) ?_ ?_; rotate_left; (focus (intro w hSw; (try dsimp only at hSw); go_simp; first | done | with_reducible rfl)); (simp only [Act.at, List.setIfInBounds_toArray, List.set_cons_zero, List.set_cons_succ]))
          | (refine take_unwanted (i := 0) rfl rfl (by kernel_rfl) (by kernel_rfl) (by kernel_rfl) (fun _ _ _ h => h) (by rfl) (by assumption) ?_; (simp only [Act.at, List.setIfInBounds_toArray, List.set_cons_zero, List.set_cons_succ]))
          first
          | (refine take_wanted (i := 1) (v := ?_) rfl rfl (by kernel_rfl) (by kernel_rfl) (by kernel_rfl) (fun _ _ _ h => h) (by rfl) (by assumption) ?_ ?_; rotate_left; (focus (intro w hSw; (try dsimp only at hSw); go_simp; first | done | with_reducible rfl)); (simp only [Act.at, List.setIfInBounds_toArray, List.set_cons_zero, List.set_cons_succ]))
          | (refine take_unwanted (i := 1) rfl rfl (by kernel_rfl) (by kernel_rfl) (by kernel_rfl) (fun _ _ _ h => h) (by rfl) (by assumption) ?_; (simp only [Act.at, List.setIfInBounds_toArray, List.set_cons_zero, List.set_cons_succ]))
          first
          | (refine take_wanted (i := 2) (v := ?_) rfl rfl (by kernel_rfl) (by kernel_rfl) (by kernel_rfl) (fun _ _ _ h => h) (by rfl) (by assumption) ?_ ?_; rotate_left; (focus (intro w hSw; (try dsimp only at hSw); go_simp; first | done | with_reducible rfl)); (simp only [Act.at, List.setIfInBounds_toArray, List.set_cons_zero, List.set_cons_succ]))
          | (refine take_unwanted (i := 2) rfl rfl (by kernel_rfl) (by kernel_rfl) (by kernel_rfl) (fun _ _ _ h => h) (by rfl) (by assumption) ?_; (simp only [Act.at, List.setIfInBounds_toArray, List.set_cons_zero, List.set_cons_succ]))
          first
          | (refine take_wanted (i := 3) (v := ?_) rfl rfl (by kernel_rfl) (by kernel_rfl) (by kernel_rfl) (fun _ _ _ h => h) (by rfl) (by assumption) ?_ ?_; rotate_left; (focus (intro w hSw; (try dsimp only at hSw); go_simp; first | done | with_reducible rfl)); (simp only [Act.at, List.setIfInBounds_toArray, List.set_cons_zero, List.set_cons_succ]))
          | (refine take_unwanted (i := 3) rfl rfl (by kernel_rfl) (by kernel_rfl) (by kernel_rfl) (fun _ _ _ h => h) (by rfl) (by assumption) ?_; (simp only [Act.at, List.setIfInBounds_toArray, List.set_cons_zero, List.set_cons_succ]))
          first
          | (refine take_wanted (i := 4) (v := ?_) rfl rfl (by kernel_rfl) (by kernel_rfl) (by kernel_rfl) (fun _ _ _ h => h) (by rfl) (by assumption) ?_ ?_; rotate_left; (focus (intro w hSw; (try dsimp only at hSw); go_simp; first | done | with_reducible rfl)); (simp only [Act.at, List.setIfInBounds_toArray, List.set_cons_zero, List.set_cons_succ]))
          | (refine take_unwanted (i := 4) rfl rfl (by kernel_rfl) (by kernel_rfl) (by kernel_rfl) (fun _ _ _ h => h) (by rfl) (by assumption) ?_; (simp only [Act.at, List.setIfInBounds_toArray, List.set_cons_zero, List.set_cons_succ]))
          refine held1 (i := 5) (by kernel_rfl) rfl (by rfl) (fun K' hK => ?_)
          refine wp_load_row _ _ rfl w2.heap.size rfl _ _ _ _ HN6.out Tryz.underlying87 rfl HI.out ?_
          refine hK.out _ _ hx (fun hHeld => ?_)
          clear hK K'
          try simp only [Act.put, List.setIfInBounds_toArray]
          first
          | (refine take_wanted (i := 6) (v := ?_) rfl rfl (by kernel_rfl) (by kernel_rfl) (by kernel_rfl) (fun _ _ _ h => h) (by rfl) (by assumption) ?_ ?_; rotate_left; (focus (intro w hSw; (try dsimp only at hSw); go_simp; first | done | with_reducible rfl)); (simp only [Act.at]))
          | (refine take_unwanted (i := 6) rfl rfl (by kernel_rfl) (by kernel_rfl) (by kernel_rfl) (fun _ _ _ h => h) (by rfl) (by assumption) ?_; (simp only [Act.at, List.setIfInBounds_toArray, List.set_cons_zero, List.set_cons_succ]))
          refine held1 (i := 7) (by kernel_rfl) rfl (by rfl) (fun K' hK => ?_)
          refine wp_store_mid _ _ _ rfl bd (i * 65) AL.toArray rfl rfl (by rw [HSZ.out]; exact HTH3.out) HI.out HO.out ?_
          refine hK.out _ _ hx4 (fun hHeld => ?_)
          clear hK K'
          try simp only [Act.put]
          refine wpAnyH_done (by kernel_rfl) ?_ _
          clear hx hx4 hHeld HC0
          generalize World.setCells W3.drew bd (i * 65) AL = W4 at HN hc4 ⊢
          have hrg4 := HN.out.1
          go_wp2_with (at_delete; refine wpList_delete_ranges _ rfl _ _ 73 3 rfl 87 lawInt Tryz.underlying73 heldE mb w1.heap.size 8192 _ _ _ rfl hrg4 _ _ rfl hki ?_; intro w5 cnt5 hrg5 hle hturn; go_frame)
          rw [Maps.strike_twice] at hrg5
          have ho5 : Only W4 w5 mb := hturn.grown
          refine ⟨⟨_, cnt5, _, hrg5, hsay2, HN.out.2.1.keep (ho5.block bd HN.out.2.1.lt (by have := hd.n3; simp; omega)), HN.out.2.2.trans (Mv.of_only ho5 (by simp))⟩, ?_⟩
          rw [hrg5.left_eq, HLE.out]
          omega
  · have hu' : d.up = false := by simpa using hu
    rw [if_pos hu'] at hW
    rw [hu'] at HA
    have HFIN : Hid (DPost w g bd mb (Dsk.flush d).1 (Dsk.flush d).2 (.returned (.int .i64 8)) w) := Lib.hid (by rw [hW]; exact ⟨rfl, h, Mv.refl _ _⟩)
    clear h hW hu HT
    go_enter Tryz.func54, Tryz.ntmps54
    go_wp2_with fail
    refine HA.out.mono ?_
    rintro r w1 ⟨rfl, rfl⟩
    go_wp2_with fail
    go_ret
    exact HFIN.out
end Go.Proofs.YthadcmbbdggneaaGreatDoor
