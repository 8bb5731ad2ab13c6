/-
  A sector is written: the contract.
-/
import Derived.Test.YthadcmbbdggneaaGreatDoorDskD
import Derived.Test.YthadcmbbdggneaaGreatDoorCopyT
namespace Go.Proofs.YthadcmbbdggneaaGreatDoor
open Go.RowKit
set_option linter.unusedVariables false

theorem splice_all {s z : List UInt8} {a : Nat} (hz : z.length = 64) (hs : s.length = 64) : splice (secVals z a) 0 (bcells s) = secVals s a := by
  unfold splice secVals
  rw [bcells_len, List.take_zero, List.nil_append, Nat.zero_add, hs]
  rw [List.drop_append_of_le_length (by rw [bcells_len]; omega)]
  rw [List.drop_eq_nil_of_le (by rw [bcells_len]; omega), List.nil_append]
theorem zeroSome' : ∃ z : Array Value, (∀ W : World, (zeroValue 87).run Tryz.prog W = .ok (.agg z) W) ∧ z.size = 65 ∧ ∀ a : Nat, z.setIfInBounds 64 (.int .i64 (a : Int)) = secV (List.replicate 64 0) a :=
  ⟨secV (List.replicate 64 0) 0, zeroSec, secV_size List.length_replicate, fun a => stamp_sec List.length_replicate⟩
abbrev PutS (g mb : Nat) (W : World) : Prop := W.cell? ⟨g, 1, none⟩ = some (.map (some mb))

set_option maxRecDepth 100000 in
set_option maxHeartbeats 2000000 in
theorem write_any {w : World} {g bd mb : Nat} {d : Dsk.St} (h : DiskAt w g bd mb d) (ha : d.acts < 1000000000000) (hfl : d.falls < 1000000000000) (i : Int) (s : List UInt8) (hs : s.length ≤ 1000000000000) :
    Calls Tryz.prog 52 #[.pointer (some ⟨g, 0, none⟩), .int .i64 i, .string (S s)] w (DPost w g bd mb (Dsk.write d i s).1 (Dsk.write d i s).2) := by
  have HA := Lib.hid (access_any h i)
  have HT := Lib.hid (act_any h ha hfl)
  have hW : Dsk.write d i s = if d.up = false then (8, d) else if ¬ (0 ≤ i ∧ i < (d.secs.length : Int)) then (5, d) else if s.length ≠ 64 then (1, d)
    else if (Dsk.act d).1 = false then (8, (Dsk.act d).2) else (0, Dsk.put (Dsk.act d).2 i.toNat s) := rfl
  by_cases hu : d.up = true
  · rw [if_neg (by rw [hu]; decide)] at hW
    by_cases hi : 0 ≤ i ∧ i < (d.secs.length : Int)
    · rw [if_neg (fun hn => hn hi)] at hW
      have hin : inB i d.secs.length = true := inB_true.2 hi
      rw [hu, hin] at HA
      by_cases hl : s.length = 64
      · rw [if_neg (fun hn => hn hl)] at hW
        have hln : ((s.length : Int) != 64) = false := by rw [bne_eq_false_iff_eq]; omega
        cases hact : (Dsk.act d).1 with
        | false =>
          rw [if_pos hact] at hW
          have HW := Lib.hid hW
          unfold ActPost at HT
          rw [hact] at HT
          generalize (Dsk.act d).2 = d1 at HT HW
          clear h hW hin hi hl hact
          go_enter Tryz.func52, Tryz.ntmps52
          go_wp2_with fail
          refine HA.out.mono ?_
          rintro r w1 ⟨rfl, rfl⟩
          go_wp2_with fail
          refine HT.out.mono ?_
          rintro r w1 ⟨rfl, hd, hm⟩
          go_wp2_with fail
          go_ret
          rw [HW.out]
          exact ⟨rfl, hd, hm⟩
        | true =>
          rw [if_neg (by rw [hact]; decide)] at hW
          have HW := Lib.hid hW
          unfold ActPost at HT
          rw [hact] at HT
          have hlen := Dsk.act_secs (d := d)
          generalize (Dsk.act d).2 = d1 at HT HW hlen
          clear h hW hin hact
          obtain ⟨z, hz, hzs, hzq⟩ := zeroSome'
          have hzz := hzq d1.acts
          have hzl := secVals_len (a := d1.acts) (List.length_replicate (n := 64) (a := (0 : UInt8)))
          have hz1 := secV_one (List.replicate 64 0) d1.acts
          rw [← hzz] at hz1
          have HZI : Hid ((Tryz.prog.info? 87).map (·.size) = some (z.setIfInBounds 64 (.int .i64 (d1.acts : Int))).size) := Lib.hid (by rw [Array.size_setIfInBounds, hzs]; exact secSize)
          have HZZ := Lib.hid hzz; clear hzz hzq
          have HZ1 := Lib.hid hz1; clear hz1
          have HZL := Lib.hid hzl; clear hzl
          go_enter Tryz.func52, Tryz.ntmps52
          go_wp2_with fail
          refine HA.out.mono ?_
          rintro r w1 ⟨rfl, rfl⟩
          go_wp2_with fail
          refine HT.out.mono ?_
          rintro r w1 ⟨rfl, hd, hm⟩
          obtain ⟨l0, k0, t0, hc, hr⟩ := hd.cells
          obtain ⟨_, c1, _, c3, _⟩ := cells9 hc
          go_upto_region 10 with (refine wpList_store_row rfl 87 (.tmp 9) (.tmp 28) rfl w1.heap.size (z.setIfInBounds 64 (.int .i64 (d1.acts : Int))) ?e2 ?e3 _ _ (heap_alloc_new _ _) HZI.out ?e4 HZ1.out ?_; (case e2 => rfl); (case e3 => rfl); (case e4 => rw [Array.size_setIfInBounds]))
          clear hz c3 hzs
          have hn1 : Has ((w1.alloc (.cells z 87)).setRow w1.heap.size (z.setIfInBounds 64 (.int .i64 (d1.acts : Int)))) w1.heap.size 87 (secVals (List.replicate 64 0) d1.acts).toArray := by
            have h2 := setRow_heap (w1.alloc (.cells z 87)) w1.heap.size z (z.setIfInBounds 64 (.int .i64 (d1.acts : Int))) 87 (0, 0) (heap_alloc_new _ _)
            rw [HZZ.out] at h2 ⊢
            exact h2
          have hb2 : Below w1.heap.size w1 ((w1.alloc (.cells z 87)).setRow w1.heap.size (z.setIfInBounds 64 (.int .i64 (d1.acts : Int)))) := below_setRow ((Below.refl _ _).alloc (Nat.le_refl _) _) (Nat.le_refl _) _
          generalize World.setRow (World.alloc w1 _) _ _ = W2 at hn1 hb2 ⊢
          obtain ⟨L1, hL1⟩ : ∃ L1, secVals (List.replicate 64 0) d1.acts = L1 := ⟨_, rfl⟩
          rw [hL1] at hn1 HZL
          have HSP : Hid (splice L1 0 (bcells (s.take 64)) = secVals s d1.acts) := Lib.hid (by
            rw [← hL1, List.take_of_length_le (by omega)]
            exact splice_all List.length_replicate hl)
          clear hL1
          have hsl := fun (b : Nat) (W : World) => arr_all (P := Tryz.prog) Tryz.underlying85 Tryz.sizeOf5 (by decide) b W
          have HMIN : Hid (64 = Nat.min s.length 64) := Lib.hid (by rw [hl]; rfl)
          go_upto_region 11 with (refine wpList_ctext _ rfl (.tmp 30) (.tmp 31) 62 9 rfl 5 Tryz.underlying62 u8size w1.heap.size 0 64 64 rfl s rfl L1 87 hn1 64 HMIN.out (by rw [HZL.out]; decide) ?_; intro W3 hW3)
          rw [HSP.out] at hW3
          have hn3 : Has W3 w1.heap.size 87 (secVals s d1.acts).toArray := by rw [hW3]; exact setRow_heap _ _ _ _ _ _ hn1
          have ho3 : Below w1.heap.size w1 W3 := by rw [hW3]; exact below_setRow hb2 (Nat.le_refl _) _
          clear hW3 hn1 hb2 hsl
          simp only [Act.put, List.setIfInBounds_toArray, List.set_cons_zero, List.set_cons_succ]
          obtain ⟨hl1, hl2, hl3⟩ := hd.lt
          have hwf : (Lit.int .i64 i).wf = true := by have := hd.most; exact wfi (by omega) (by omega)
          have hcm : Has W3 g 77 (dskCells bd mb d1.secs.length d1.up d1.acts d1.falls l0 k0 t0 d1.arm.isSome) := hc.below ho3 hl1
          have hp3 : Pend W3.drew mb 8192 (Dsk.pendI d1.secs) := hd.pend.keep (ho3.block mb hl3)
          obtain ⟨w5, hput, hp5, ho5⟩ := hp3.put hwf (s, d1.acts) (by unfold maxLen; omega)
          have hx : PutS g mb W3.drew := hcm.cell 1
          have hx5 : PutS g mb w5 := (ho5.has (k := g) (t := 77) hcm hd.n2).cell 1
          have hsz3 : (Tryz.prog.info? 87).map (·.size) = some (secV s d1.acts).size := secSzA hl
          have hn3' : W3.drew.heap[w1.heap.size]? = some (.cells (secV s d1.acts) 87 (0, 0)) := hn3
          have HFIN : Hid (DPost w g bd mb 0 (Dsk.put d1 i.toNat s) (.returned (.int .i64 0)) w5) := Lib.hid (by
            have hm3 : Mv w1 w5 [g, bd, mb] := (Mv.of_below ho3 [g, bd, mb]).drew.trans (Mv.of_only ho5 (by simp))
            have hlp : (Dsk.put d1 i.toNat s).secs.length = d1.secs.length := List.length_modify ..
            have hin' : i.toNat < d1.secs.length := by rw [hlen]; omega
            have hit : ((i.toNat : Nat) : Int) = i := by omega
            refine ⟨rfl, ⟨⟨l0, k0, t0, ?_, hr⟩, ?_, ?_, ?_, hd.n1, hd.n2, hd.n3, ?_, ?_⟩, hm.trans hm3⟩
            · rw [hlp]; exact ho5.has (k := g) (t := 77) hcm hd.n2
            · refine (hd.rows.keep ((ho5.block bd (by exact Nat.lt_of_lt_of_le hl2 ho3.size) (by have := hd.n3; simp; omega)).trans (ho3.block bd hl2))).sub hlp fun j x hj => ?_
              have hj' : (d1.secs.modify i.toNat fun x => ⟨x.sure, x.at_, some (s, d1.acts)⟩)[j]? = some x := hj
              rw [List.getElem?_modify] at hj'
              cases hq : d1.secs[j]? with
              | none => rw [hq] at hj'; cases hj'
              | some y =>
                rw [hq] at hj'
                have hj2 := Option.some.inj hj'
                refine ⟨y, rfl, ?_, ?_⟩
                · rw [← hj2]; split <;> rfl
                · rw [← hj2]; split <;> rfl
            · refine Pend.tight (n := 8193) (hp5.same fun y => ?_) (by rw [hlp]; exact hd.most)
              show Dsk.pendI (d1.secs.modify i.toNat fun x => ⟨x.sure, x.at_, some (s, d1.acts)⟩) y = _
              rw [Dsk.pendI_put _ _ hin', hit]
            · intro x hx'
              obtain ⟨j, hj⟩ := List.getElem?_of_mem hx'
              have hj' : (d1.secs.modify i.toNat fun x => ⟨x.sure, x.at_, some (s, d1.acts)⟩)[j]? = some x := hj
              rw [List.getElem?_modify] at hj'
              cases hq : d1.secs[j]? with
              | none => rw [hq] at hj'; cases hj'
              | some y =>
                rw [hq] at hj'
                have hj2 := Option.some.inj hj'
                have hy := hd.good y (List.mem_of_getElem? hq)
                rw [← hj2]
                split
                · exact ⟨hy.1, fun p hp => by injection hp with hp; rw [← hp]; exact hl⟩
                · exact hy
            · rw [hlp]; exact hd.pos
            · rw [hlp]; exact hd.most)
          have HSZ := Lib.hid hsz3
          have HN3 : Hid _ := hn3'
          clear hp3 hp5 ho5 ho3 hcm hsz3 hn3 hn3' hd hm hc hr c1 HSP hl1 hl2 hl3 hwf hlen hl hln hi HA HT
          obtain ⟨A, hAeq⟩ : ∃ A, secV s d1.acts = A := ⟨_, rfl⟩
          rw [hAeq] at HN3 HSZ
          have hput' : (Instr.mapUpdate 73 (.map (some mb)) (.int .i64 i) (.agg A)).run Tryz.prog W3.drew = .ok () w5 := by rw [← hAeq]; exact hput
          clear hput hAeq
          refine wp_region_held_drew (S := PutS g mb) (by kernel_rfl) hx (fun hHeld => ?_)
          first
          | (refine take_wanted (i := 0) (v := ?_) rfl rfl (by kernel_rfl) (by kernel_rfl) (by kernel_rfl) (fun _ _ _ h => h) (by rfl) (by assumption) ?_ ?_; rotate_left; (focus (intro w hSw; (try dsimp only at hSw); go_simp; first | done | with_reducible rfl)); (simp only [Act.at, List.setIfInBounds_toArray, List.set_cons_zero, List.set_cons_succ]))
          | (refine take_unwanted (i := 0) rfl rfl (by kernel_rfl) (by kernel_rfl) (by kernel_rfl) (fun _ _ _ h => h) (by rfl) (by assumption) ?_; (simp only [Act.at, List.setIfInBounds_toArray, List.set_cons_zero, List.set_cons_succ]))
          first
          | (refine take_wanted (i := 1) (v := ?_) rfl rfl (by kernel_rfl) (by kernel_rfl) (by kernel_rfl) (fun _ _ _ h => h) (by rfl) (by assumption) ?_ ?_; rotate_left; (focus (intro w hSw; (try dsimp only at hSw); go_simp; first | done | with_reducible rfl)); (simp only [Act.at, List.setIfInBounds_toArray, List.set_cons_zero, List.set_cons_succ]))
          | (refine take_unwanted (i := 1) rfl rfl (by kernel_rfl) (by kernel_rfl) (by kernel_rfl) (fun _ _ _ h => h) (by rfl) (by assumption) ?_; (simp only [Act.at, List.setIfInBounds_toArray, List.set_cons_zero, List.set_cons_succ]))
          first
          | (refine take_wanted (i := 2) (v := ?_) rfl rfl (by kernel_rfl) (by kernel_rfl) (by kernel_rfl) (fun _ _ _ h => h) (by rfl) (by assumption) ?_ ?_; rotate_left; (focus (intro w hSw; (try dsimp only at hSw); go_simp; first | done | with_reducible rfl)); (simp only [Act.at, List.setIfInBounds_toArray, List.set_cons_zero, List.set_cons_succ]))
          | (refine take_unwanted (i := 2) rfl rfl (by kernel_rfl) (by kernel_rfl) (by kernel_rfl) (fun _ _ _ h => h) (by rfl) (by assumption) ?_; (simp only [Act.at, List.setIfInBounds_toArray, List.set_cons_zero, List.set_cons_succ]))
          first
          | (refine take_wanted (i := 3) (v := ?_) rfl rfl (by kernel_rfl) (by kernel_rfl) (by kernel_rfl) (fun _ _ _ h => h) (by rfl) (by assumption) ?_ ?_; rotate_left; (focus (intro w hSw; (try dsimp only at hSw); go_simp; first | done | with_reducible rfl)); (simp only [Act.at, List.setIfInBounds_toArray, List.set_cons_zero, List.set_cons_succ]))
          | (refine take_unwanted (i := 3) rfl rfl (by kernel_rfl) (by kernel_rfl) (by kernel_rfl) (fun _ _ _ h => h) (by rfl) (by assumption) ?_; (simp only [Act.at, List.setIfInBounds_toArray, List.set_cons_zero, List.set_cons_succ]))
          first
          | (refine take_wanted (i := 4) (v := ?_) rfl rfl (by kernel_rfl) (by kernel_rfl) (by kernel_rfl) (fun _ _ _ h => h) (by rfl) (by assumption) ?_ ?_; rotate_left; (focus (intro w hSw; (try dsimp only at hSw); go_simp; first | done | with_reducible rfl)); (simp only [Act.at, List.setIfInBounds_toArray, List.set_cons_zero, List.set_cons_succ]))
          | (refine take_unwanted (i := 4) rfl rfl (by kernel_rfl) (by kernel_rfl) (by kernel_rfl) (fun _ _ _ h => h) (by rfl) (by assumption) ?_; (simp only [Act.at, List.setIfInBounds_toArray, List.set_cons_zero, List.set_cons_succ]))
          refine held1 (i := 5) (by kernel_rfl) rfl (by rfl) (fun K' hK => ?_)
          refine wp_load_row _ _ rfl w1.heap.size rfl _ _ _ _ HN3.out Tryz.underlying87 rfl HSZ.out ?_
          refine hK.out _ _ hx (fun hHeld => ?_)
          clear hK K'
          try simp only [Act.put, List.setIfInBounds_toArray]
          refine held1 (i := 6) (by kernel_rfl) rfl (by rfl) (fun K' hK => ?_)
          go_simp
          refine hK.out _ _ hx5 (fun hHeld => ?_)
          clear hK K'
          try simp only [Act.put, List.setIfInBounds_toArray, List.set_cons_zero, List.set_cons_succ]
          refine wpAnyH_done (by kernel_rfl) ?_ _
          clear hput' hx hHeld
          go_wp2_with fail
          go_ret
          rw [HW.out]
          exact HFIN.out
      · rw [if_pos hl] at hW
        have hln : ((s.length : Int) != 64) = true := by rw [bne_iff_ne]; omega
        have HFIN : Hid (DPost w g bd mb (Dsk.write d i s).1 (Dsk.write d i s).2 (.returned (.int .i64 1)) w) := Lib.hid (by rw [hW]; exact ⟨rfl, h, Mv.refl _ _⟩)
        clear h hW hin hi hl HT
        go_enter Tryz.func52, Tryz.ntmps52
        go_wp2_with fail
        refine HA.out.mono ?_
        rintro r w1 ⟨rfl, rfl⟩
        go_wp2_with fail
        go_ret
        exact HFIN.out
    · rw [if_pos hi] at hW
      have hin : inB i d.secs.length = false := by rw [Bool.eq_false_iff, ne_eq, inB_true]; exact hi
      rw [hu, hin] at HA
      have HFIN : Hid (DPost w g bd mb (Dsk.write d i s).1 (Dsk.write d i s).2 (.returned (.int .i64 5)) w) := Lib.hid (by rw [hW]; exact ⟨rfl, h, Mv.refl _ _⟩)
      clear h hW hin hi HT
      go_enter Tryz.func52, Tryz.ntmps52
      go_wp2_with fail
      refine HA.out.mono ?_
      rintro r w1 ⟨rfl, rfl⟩
      go_wp2_with fail
      go_ret
      exact HFIN.out
  · have hu' : d.up = false := by simpa using hu
    rw [if_pos hu'] at hW
    rw [hu'] at HA
    have HFIN : Hid (DPost w g bd mb (Dsk.write d i s).1 (Dsk.write d i s).2 (.returned (.int .i64 8)) w) := Lib.hid (by rw [hW]; exact ⟨rfl, h, Mv.refl _ _⟩)
    clear h hW hu HT
    go_enter Tryz.func52, Tryz.ntmps52
    go_wp2_with fail
    refine HA.out.mono ?_
    rintro r w1 ⟨rfl, rfl⟩
    go_wp2_with fail
    go_ret
    exact HFIN.out
end Go.Proofs.YthadcmbbdggneaaGreatDoor
