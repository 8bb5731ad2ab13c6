/-
  The contract of the insertion sort of slices at fields.
-/
import Derived.Test.YtfppobnfajkmmaaSortMem
namespace Go.Proofs.Ytfppobnfajkmmaa
open Go.RowKit Go.Sort Go.Lib
set_option linter.unusedVariables false

/-- Less, by the names. -/
abbrev nlt (x y : Fld) : Bool := ltOf ncmp x y

set_option maxHeartbeats 4000000 in
set_option maxRecDepth 100000 in
theorem ins_any (blk off cap a b : Nat) (d : Array Fld) (w : World) (hH : HoldsK Fld.cs 6 w blk off d) (hblk : blk < w.heap.size) (hab : a ≤ b) (hb : b ≤ d.size) (hsz : d.size < 1000000) :
    Calls Try.prog 55 #[.slice (some ⟨blk, off, none⟩) d.size cap, .int .i64 (a : Int), .int .i64 (b : Int), .func (.func 20) #[] #[]] w fun e w' =>
      e = .returned (.tuple #[]) ∧ ∃ n os, w' = SW w blk off n (Sort.insertionSort nlt d a b) os := by
  have mixed : Try.prog.follows .mixedOrders = true := by kernel_rfl
  have eg := enters_of Try.func20 (by kernel_rfl) rfl
  have HST : Hid (w = SW w blk off 0 d #[]) := by
    show w = _
    unfold SW sortWorldK
    rw [grow_empty]
    exact (putRowK_self Fld.cs 6 w blk off d hH).symm
  have HH : Hid (HoldsK Fld.cs 6 w blk off d) := hH
  clear hH
  go_enter Try.func55, Try.ntmps55
  go_wp2_with fail
  go_loopg [8] (b - a) (fun g1 vi wr => ∃ (i n : Nat) (dk : Array Fld) (os : Array Obj), vi = .int .i64 (i : Int) ∧ a < i ∧ i ≤ b + 1 ∧ b + 1 - i ≤ g1 + 1 ∧ dk.size = d.size ∧ wr = SW w blk off n dk os ∧ Hid (insOuter nlt a b i dk = insOuter nlt a b (a + 1) d))
  case atStart => exact ⟨a + 1, 0, d, #[], by go_num, by omega, by omega, by omega, rfl, HST.out, rfl⟩
  case round =>
    obtain ⟨i, n, dk, os, rfl, hai, hib, hg1, hsk, rfl, HO⟩ := hrel
    by_cases hlt : i < b
    · have hltz : (i : Int) < (b : Int) := by omega
      go_wp2_with fail
      go_loopg [9] i (fun g2 vj wr2 => ∃ (j m : Nat) (dj : Array Fld) (oj : Array Obj), vj = .int .i64 (j : Int) ∧ a ≤ j ∧ j ≤ i ∧ j ≤ g2 ∧ dj.size = d.size ∧ wr2 = SW w blk off m dj oj ∧ Hid (insInner nlt a j dj = insInner nlt a i dk))
      case atStart => exact ⟨i, n, dk, os, rfl, by omega, Nat.le_refl _, Nat.le_refl _, hsk, rfl, rfl⟩
      case round =>
        obtain ⟨j, m, dj, oj, rfl, haj, hji, hg2, hsj, rfl, HI⟩ := hrel
        have out : (j ≤ a ∨ nlt dj[j]! dj[j - 1]! = false) → Hid (insOuter nlt a b (i + 1) dj = insOuter nlt a b (a + 1) d) := fun hs => by
          show _ = _
          rw [← HO.out, insOuter_go _ _ _ _ _ hlt, ← HI.out, insInner_stop _ _ _ _ hs]
        have OUT : Aside _ := out
        clear out
        by_cases hja : a < j
        · have hjaz : (a : Int) < (j : Int) := by omega
          obtain ⟨jp, rfl⟩ : ∃ jp, j = jp + 1 := ⟨j - 1, by omega⟩
          have jz : (jp : Int) + 1 < (d.size : Int) := by omega
          have jz1 : (jp : Int) < (d.size : Int) := by omega
          have hjaz' : (a : Int) < (jp : Int) + 1 := by omega
          have p0 : (0 : Int) ≤ (jp : Int) + 1 := by omega
          have e0 : ((jp : Int) + 1).toNat = jp + 1 := by omega
          have hwp : IntKind.i64.wrap (jp : Int) = (jp : Int) := by rw [IntKind.wrap_i64]; omega
          have lj := cmp_cells HH.out hblk m dj oj hsj (jp + 1) (by omega)
          have lp := cmp_cells HH.out hblk m dj oj hsj jp (by omega)
          have hcg := fun n' os' => closure_cmp dj[jp + 1]! dj[jp]! (grow ((SW w blk off m dj oj).drewN n') os')
          have CLS : Hid (∀ n' os', grow ((SW w blk off m dj oj).drewN n') os' = SW w blk off (m + n') dj (oj ++ os')) := fun n' os' => sortWorldK_grown_c Fld.cs 6 w blk off m n' dj oj os'
          obtain ⟨xj, hxj⟩ : ∃ x, dj[jp + 1]! = x := ⟨_, rfl⟩
          obtain ⟨xp, hxp⟩ : ∃ x, dj[jp]! = x := ⟨_, rfl⟩
          obtain ⟨cv, hcv⟩ : ∃ c, ncmp xj xp = c := ⟨_, rfl⟩
          have HX : Hid (dj[jp + 1]! = xj ∧ dj[jp]! = xp ∧ ncmp xj xp = cv) := ⟨hxj, hxp, hcv⟩
          rw [hxj] at lj hcg
          rw [hxp] at lp hcg
          rw [hcv] at hcg
          clear hxj hxp hcv
          obtain ⟨nj, vj⟩ := xj
          obtain ⟨np, vp⟩ := xp
          rw [Fld.v_eq, Fld.v_eq] at hcg
          dsimp only at lj lp
          generalize hwq : SW w blk off m dj oj = wq at lj lp hcg CLS ⊢
          have HWQ := Lib.hid hwq; clear hwq
          by_cases hlv : cv < 0
          · go_wp2_with fail
            go_quiet_grown (exact Calls.grown_of (hcg _ _))
            go_wp2_with fail
            have hw2 : grow (wq.drewN nq) osq = SW w blk off (m + nq) dj (oj ++ osq) := CLS.out nq osq
            clear lj lp hcg
            rw [hw2]
            clear hw2
            obtain ⟨hsa, hsw⟩ := swap_facts HH.out hblk (m + nq) dj (oj ++ osq) hsj (jp + 1) jp (by omega) (by omega)
            generalize dj[jp + 1]!.cs = cj at hsa hsw
            generalize dj[jp]!.cs = cp at hsa hsw
            have HSW : Hid _ := hsa
            have HW2 : Hid _ := hsw
            clear hsa hsw
            generalize SW w blk off (m + nq) dj (oj ++ osq) = wq2 at HSW HW2 ⊢
            refine wp_region_any (by assumption) ?_
            change wpAny _ _ _ _ _ _ _ (World.drew _)
            (refine grab (i := 0) (v := ?_) rfl rfl (by kernel_rfl) (by kernel_rfl) (by kernel_rfl) (fun _ _ _ h => h) (by rfl) ?_ ?_; rotate_left; (focus (intro w; go_simp; first | done | with_reducible rfl)); (simp only [Act.at, List.setIfInBounds_toArray, List.set_cons_zero, List.set_cons_succ]))
            (refine grab (i := 1) (v := ?_) rfl rfl (by kernel_rfl) (by kernel_rfl) (by kernel_rfl) (fun _ _ _ h => h) (by rfl) ?_ ?_; rotate_left; (focus (intro w; go_simp; first | done | with_reducible rfl)); (simp only [Act.at, List.setIfInBounds_toArray, List.set_cons_zero, List.set_cons_succ]))
            (refine grab (i := 2) (v := ?_) rfl rfl (by kernel_rfl) (by kernel_rfl) (by kernel_rfl) (fun _ _ _ h => h) (by rfl) ?_ ?_; rotate_left; (focus (intro w; go_simp; first | done | with_reducible rfl)); (simp only [Act.at, List.setIfInBounds_toArray, List.set_cons_zero, List.set_cons_succ]))
            (refine grab (i := 3) (v := ?_) rfl rfl (by kernel_rfl) (by kernel_rfl) (by kernel_rfl) (fun _ _ _ h => h) (by rfl) ?_ ?_; rotate_left; (focus (intro w; go_simp; first | done | with_reducible rfl)); (simp only [Act.at, List.setIfInBounds_toArray, List.set_cons_zero, List.set_cons_succ]))
            (refine grab (i := 4) (v := ?_) rfl rfl (by kernel_rfl) (by kernel_rfl) (by kernel_rfl) (fun _ _ _ h => h) (by rfl) ?_ ?_; rotate_left; (focus (intro w; go_simp; first | done | with_reducible rfl)); (simp only [Act.at, List.setIfInBounds_toArray, List.set_cons_zero, List.set_cons_succ]))
            (refine grab (i := 5) (v := ?_) rfl rfl (by kernel_rfl) (by kernel_rfl) (by kernel_rfl) (fun _ _ _ h => h) (by rfl) ?_ ?_; rotate_left; (focus (intro w; go_simp; first | done | with_reducible rfl)); (simp only [Act.at, List.setIfInBounds_toArray, List.set_cons_zero, List.set_cons_succ]))
            (refine grab (i := 6) (v := ?_) rfl rfl (by kernel_rfl) (by kernel_rfl) (by kernel_rfl) (fun _ _ _ h => h) (by rfl) ?_ ?_; rotate_left; (focus (intro w; go_simp; first | done | with_reducible rfl)); (simp only [Act.at, List.setIfInBounds_toArray, List.set_cons_zero, List.set_cons_succ]))
            (refine grab (i := 7) (v := ?_) rfl rfl (by kernel_rfl) (by kernel_rfl) (by kernel_rfl) (fun _ _ _ h => h) (by rfl) ?_ ?_; rotate_left; (focus (intro w; go_simp; first | done | with_reducible rfl)); (simp only [Act.at, List.setIfInBounds_toArray, List.set_cons_zero, List.set_cons_succ]))
            (refine grab (i := 8) (v := ?_) rfl rfl (by kernel_rfl) (by kernel_rfl) (by kernel_rfl) (fun _ _ _ h => h) (by rfl) ?_ ?_; rotate_left; (focus (intro w; go_simp; first | done | with_reducible rfl)); (simp only [Act.at, List.setIfInBounds_toArray, List.set_cons_zero, List.set_cons_succ]))
            (refine grab (i := 10) (v := ?_) rfl rfl (by kernel_rfl) (by kernel_rfl) (by kernel_rfl) (fun _ _ _ h => h) (by rfl) ?_ ?_; rotate_left; (focus (intro w; go_simp; first | done | with_reducible rfl)); (simp only [Act.at, List.setIfInBounds_toArray, List.set_cons_zero, List.set_cons_succ]))
            (refine grab (i := 11) (v := ?_) rfl rfl (by kernel_rfl) (by kernel_rfl) (by kernel_rfl) (fun _ _ _ h => h) (by rfl) ?_ ?_; rotate_left; (focus (intro w; go_simp; first | done | with_reducible rfl)); (simp only [Act.at, List.setIfInBounds_toArray, List.set_cons_zero, List.set_cons_succ]))
            (refine grab (i := 12) (v := ?_) rfl rfl (by kernel_rfl) (by kernel_rfl) (by kernel_rfl) (fun _ _ _ h => h) (by rfl) ?_ ?_; rotate_left; (focus (intro w; go_simp; first | done | with_reducible rfl)); (simp only [Act.at, List.setIfInBounds_toArray, List.set_cons_zero, List.set_cons_succ]))
            refine wpTwo (i := 9) (j := 13) (by kernel_rfl) rfl rfl (by rfl) (by rfl) (fun K hK => ?_) (fun K hK => ?_)
            · refine wp_load_mid _ _ rfl _ _ rfl _ _ HSW.out.1 Try.underlying40 rfl HSW.out.2.2.2.2.1 ?_
              refine hK _ _ ?_
              clear hK K
              simp only [Act.put, List.setIfInBounds_toArray, List.set_cons_zero, List.set_cons_succ]
              refine wpOne (i := 13) (by kernel_rfl) rfl (by rfl) (fun K hK => ?_)
              refine wp_load_mid _ _ rfl _ _ rfl _ _ HSW.out.2.1 Try.underlying40 rfl HSW.out.2.2.2.2.2.1 ?_
              refine hK _ _ ?_
              clear hK K
              simp only [Act.put, List.setIfInBounds_toArray, List.set_cons_zero, List.set_cons_succ]
              (refine grab (i := 14) (v := ?_) rfl rfl (by kernel_rfl) (by kernel_rfl) (by kernel_rfl) (fun _ _ _ h => h) (by rfl) ?_ ?_; rotate_left; (focus (intro w; go_simp; first | done | with_reducible rfl)); (simp only [Act.at, List.setIfInBounds_toArray, List.set_cons_zero, List.set_cons_succ]))
              refine wpOne (i := 15) (by kernel_rfl) rfl (by rfl) (fun K hK => ?_)
              refine wp_store_mid _ _ _ rfl _ _ _ rfl rfl HSW.out.2.2.1 HSW.out.2.2.2.2.2.2.1 HSW.out.2.2.2.2.2.2.2.2.1 ?_
              refine hK _ _ ?_
              clear hK K
              try simp only [Act.put, List.setIfInBounds_toArray, List.set_cons_zero, List.set_cons_succ]
              (refine grab (i := 16) (v := ?_) rfl rfl (by kernel_rfl) (by kernel_rfl) (by kernel_rfl) (fun _ _ _ h => h) (by rfl) ?_ ?_; rotate_left; (focus (intro w; go_simp; first | done | with_reducible rfl)); (simp only [Act.at, List.setIfInBounds_toArray, List.set_cons_zero, List.set_cons_succ]))
              refine wpOne (i := 17) (by kernel_rfl) rfl (by rfl) (fun K hK => ?_)
              refine wp_store_mid _ _ _ rfl _ _ _ rfl rfl HSW.out.2.2.2.1 HSW.out.2.2.2.2.2.2.2.1 HSW.out.2.2.2.2.2.2.2.2.2 ?_
              refine hK _ _ ?_
              clear hK K
              try simp only [Act.put, List.setIfInBounds_toArray, List.set_cons_zero, List.set_cons_succ]
              refine wpAny_done (by kernel_rfl) ?_ _
              (rw [HW2.out]; go_wp2_with fail; go_roundg jp; (case measure => omega); case rel => refine ⟨jp, m + nq + 1, swp dj (jp + 1) jp, oj ++ osq, by first | rfl | go_num | (congr 1; omega), by omega, by omega, Nat.le_refl _, by rw [swp_size]; exact hsj, rfl, (show Hid _ from (by show _ = _; have := insInner_go nlt a (jp + 1) dj hja (by simp only [Nat.add_sub_cancel]; rw [HX.out.1, HX.out.2.1]; exact decide_eq_true (by rw [HX.out.2.2]; exact hlv)); simp only [Nat.add_sub_cancel] at this; rw [← HI.out, this]))⟩)
            · refine wp_load_mid _ _ rfl _ _ rfl _ _ HSW.out.2.1 Try.underlying40 rfl HSW.out.2.2.2.2.2.1 ?_
              refine hK _ _ ?_
              clear hK K
              simp only [Act.put, List.setIfInBounds_toArray, List.set_cons_zero, List.set_cons_succ]
              refine wpOne (i := 9) (by kernel_rfl) rfl (by rfl) (fun K hK => ?_)
              refine wp_load_mid _ _ rfl _ _ rfl _ _ HSW.out.1 Try.underlying40 rfl HSW.out.2.2.2.2.1 ?_
              refine hK _ _ ?_
              clear hK K
              simp only [Act.put, List.setIfInBounds_toArray, List.set_cons_zero, List.set_cons_succ]
              (refine grab (i := 14) (v := ?_) rfl rfl (by kernel_rfl) (by kernel_rfl) (by kernel_rfl) (fun _ _ _ h => h) (by rfl) ?_ ?_; rotate_left; (focus (intro w; go_simp; first | done | with_reducible rfl)); (simp only [Act.at, List.setIfInBounds_toArray, List.set_cons_zero, List.set_cons_succ]))
              refine wpOne (i := 15) (by kernel_rfl) rfl (by rfl) (fun K hK => ?_)
              refine wp_store_mid _ _ _ rfl _ _ _ rfl rfl HSW.out.2.2.1 HSW.out.2.2.2.2.2.2.1 HSW.out.2.2.2.2.2.2.2.2.1 ?_
              refine hK _ _ ?_
              clear hK K
              try simp only [Act.put, List.setIfInBounds_toArray, List.set_cons_zero, List.set_cons_succ]
              (refine grab (i := 16) (v := ?_) rfl rfl (by kernel_rfl) (by kernel_rfl) (by kernel_rfl) (fun _ _ _ h => h) (by rfl) ?_ ?_; rotate_left; (focus (intro w; go_simp; first | done | with_reducible rfl)); (simp only [Act.at, List.setIfInBounds_toArray, List.set_cons_zero, List.set_cons_succ]))
              refine wpOne (i := 17) (by kernel_rfl) rfl (by rfl) (fun K hK => ?_)
              refine wp_store_mid _ _ _ rfl _ _ _ rfl rfl HSW.out.2.2.2.1 HSW.out.2.2.2.2.2.2.2.1 HSW.out.2.2.2.2.2.2.2.2.2 ?_
              refine hK _ _ ?_
              clear hK K
              try simp only [Act.put, List.setIfInBounds_toArray, List.set_cons_zero, List.set_cons_succ]
              refine wpAny_done (by kernel_rfl) ?_ _
              (rw [HW2.out]; go_wp2_with fail; go_roundg jp; (case measure => omega); case rel => refine ⟨jp, m + nq + 1, swp dj (jp + 1) jp, oj ++ osq, by first | rfl | go_num | (congr 1; omega), by omega, by omega, Nat.le_refl _, by rw [swp_size]; exact hsj, rfl, (show Hid _ from (by show _ = _; have := insInner_go nlt a (jp + 1) dj hja (by simp only [Nat.add_sub_cancel]; rw [HX.out.1, HX.out.2.1]; exact decide_eq_true (by rw [HX.out.2.2]; exact hlv)); simp only [Nat.add_sub_cancel] at this; rw [← HI.out, this]))⟩)
          · go_wp2_with fail
            go_quiet_grown (exact Calls.grown_of (hcg _ _))
            go_wp2_with fail
            go_roundg (b - (i + 1))
            case measure => omega
            case rel => exact ⟨i + 1, _, dj, _, by go_num, by omega, by omega, by omega, hsj, CLS.out nq osq, OUT.out (Or.inr (by simp only [Nat.add_sub_cancel]; rw [HX.out.1, HX.out.2.1]; exact decide_eq_false (by rw [HX.out.2.2]; omega)))⟩
        · have hjaz : decide ((j : Int) > (a : Int)) = false := decide_eq_false (by omega)
          have hjaz' : ¬ (a : Int) < (j : Int) := by omega
          have hdr : (SW w blk off m dj oj).drew = SW w blk off (m + 1) dj oj := rfl
          generalize hwq : SW w blk off m dj oj = wq at hdr
          have HDR : Hid _ := hdr
          clear hdr
          go_wp2_with fail
          go_big_region_o
          all_goals go_wp2_with fail
          go_roundg (b - (i + 1))
          case measure => omega
          case rel => exact ⟨i + 1, m + 1, dj, oj, by go_num, by omega, by omega, by omega, hsj, HDR.out, OUT.out (Or.inl (by omega))⟩
    · have hltz : ¬ (i : Int) < (b : Int) := by omega
      go_wp2_with fail
      go_end0
      exact ⟨rfl, n, os, by unfold Sort.insertionSort; rw [← HO.out, insOuter_stop _ _ _ _ _ hlt]⟩
end Go.Proofs.Ytfppobnfajkmmaa
