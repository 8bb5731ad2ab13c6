/-
  The contract of slices' symMerge at fields, where one field is merged in from the right.
-/
import Derived.Test.YtfppobnfajkmmaaSymOne
namespace Go.Proofs.Ytfppobnfajkmmaa
open Go.RowKit Go.Sort Go.Lib
open Go.Op (bytesLess)
set_option linter.unusedVariables false

/-- y has passed all but so many of A2, from behind. -/
def stR (X A2 R : List Fld) (y : Fld) (t : Nat) : List Fld := X ++ (A2.take t ++ (y :: (A2.drop t ++ R)))
theorem stR_zero (X A2 R : List Fld) (y : Fld) : stR X A2 R y 0 = X ++ (y :: (A2 ++ R)) := by simp [stR]
theorem stR_all (X A2 R : List Fld) (y : Fld) : stR X A2 R y A2.length = X ++ (A2 ++ (y :: R)) := by simp [stR]
theorem stR_len (X A2 R : List Fld) (y : Fld) (t : Nat) (h : t ≤ A2.length) : (stR X A2 R y t).length = X.length + 1 + A2.length + R.length := by
  unfold stR
  simp only [List.length_append, List.length_cons, List.length_take, List.length_drop]
  omega
theorem stR_step (X A2 R : List Fld) (y : Fld) (t : Nat) (h : t < A2.length) : swp (stR X A2 R y (t + 1)).toArray (X.length + t + 1) (X.length + t) = (stR X A2 R y t).toArray := by
  have e1 : stR X A2 R y t = (X ++ A2.take t) ++ y :: A2[t] :: (A2.drop (t + 1) ++ R) := by
    unfold stR
    rw [List.drop_eq_getElem_cons h]
    simp only [List.append_assoc, List.cons_append]
  have e2 : stR X A2 R y (t + 1) = (X ++ A2.take t) ++ A2[t] :: y :: (A2.drop (t + 1) ++ R) := by
    unfold stR
    rw [List.take_succ_eq_append_getElem h]
    simp only [List.append_assoc, List.cons_append, List.nil_append]
  have i1 : X.length + t = (X ++ A2.take t).length := by rw [List.length_append, List.length_take]; omega
  rw [i1, e1, e2, swp_comm _ _ _ (by simp only [List.size_toArray, List.length_append, List.length_cons, List.length_take, List.length_drop]; omega) (by simp only [List.size_toArray, List.length_append, List.length_cons, List.length_take, List.length_drop]; omega)]
  exact Array.ext' (swp_adj _ _ _ _)

set_option maxHeartbeats 40000000 in
set_option maxRecDepth 100000 in
theorem symR_any {w : World} {blk off : Nat} {d0 : Array Fld} (hH : HoldsK Fld.cs 6 w blk off d0) (hblk : blk < w.heap.size) (hsz : d0.size < 1000000) (cap : Nat) (X A Y : List Fld) (y : Fld) (n : Nat) (os : Array Obj)
    (hC : (X ++ (A ++ (y :: Y))).length = d0.size) (hA1 : 1 < A.length) (hsA : Stab.Sorted Fld.name A) (a m b : Nat) (ha : a = X.length) (hm : m = X.length + A.length) (hb : b = X.length + A.length + 1) :
    Calls Try.prog 56 #[.slice (some ⟨blk, off, none⟩) d0.size cap, .int .i64 (a : Int), .int .i64 (m : Int), .int .i64 (b : Int), .func (.func 20) #[] #[]] (SW w blk off n (X ++ (A ++ (y :: Y))).toArray os) fun e w' =>
      e = .returned (.tuple #[]) ∧ ∃ m os', w' = SW w blk off m (X ++ (fsort (A ++ [y]) ++ Y)).toArray os' := by
  have hma : ((m : Int) - (a : Int) == 1) = false := by
    rw [beq_eq_false_iff_ne]; omega
  have hbm : (b : Int) - (m : Int) = 1 := by omega
  have hbd : b ≤ d0.size := by simp only [List.length_append, List.length_cons] at hC; omega
  have hb6 : (b : Int) ≤ 1000000 := by omega
  have ha6 : (a : Int) < (m : Int) := by omega
  have hm6 : (m : Int) ≤ 1000000 := by omega
  have hmb : (m : Int) < (b : Int) := by omega
  have hds : (X ++ (A ++ (y :: Y))).toArray.size = d0.size := hC
  have hdm : (X ++ (A ++ (y :: Y))).toArray[m]! = y := by
    subst hm
    rw [getElem!_pos _ _ (by simp), List.getElem_toArray, List.getElem_append_right (by omega), List.getElem_append_right (by omega)]
    simp
  have mixed : Try.prog.follows .mixedOrders = true := by kernel_rfl
  have eg := enters_of Try.func20 (by kernel_rfl) rfl
  have hmd : m < d0.size := by omega
  generalize hD : (X ++ (A ++ (y :: Y))).toArray = d at hds hdm ⊢
  have HD := Lib.hid hD; clear hD
  have HAB := Lib.hid (And.intro ha (And.intro hm hb)); clear ha hm hb
  have HH : Hid (HoldsK Fld.cs 6 w blk off d0) := hH
  clear hH
  go_enter Try.func56, Try.ntmps56
  go_wp2_with fail
  clear hma hbm
  go_loopg [14, 15] (m - a) (fun g1 vi vj wr => ∃ (i j n' : Nat) (os' : Array Obj), vi = .int .i64 (i : Int) ∧ vj = .int .i64 (j : Int) ∧ a ≤ i ∧ i ≤ j ∧ j ≤ m ∧ j - i ≤ g1 ∧ Hid (i = a ∨ nlt y d[i - 1]! = false) ∧ Hid (j = m ∨ nlt y d[j]! = true) ∧ wr = SW w blk off n' d os')
  case atStart => exact ⟨a, m, n, os, rfl, rfl, Nat.le_refl _, by omega, Nat.le_refl _, Nat.le_refl _, Or.inl rfl, Or.inl rfl, rfl⟩
  case round =>
    obtain ⟨i, j, n', os', rfl, rfl, hmi, hij, hjb, hg1, HL, HR, rfl⟩ := hrel
    by_cases hlt : i < j
    · have hltz : (i : Int) < (j : Int) := by omega
      have hj6 : (j : Int) ≤ 1000000 := by omega
      obtain ⟨h, hh⟩ : ∃ h, (i + j) / 2 = h := ⟨_, rfl⟩
      have hhz : ((i : Int) + (j : Int)) / 2 = (h : Int) := by omega
      have hih : i ≤ h := by omega
      have hhj : h < j := by omega
      have hhs : (h : Int) < (d0.size : Int) := by omega
      have hms : (m : Int) < (d0.size : Int) := by omega
      have lh := cmp_cells HH.out hblk n' d os' hds h (by omega)
      have lm := cmp_cells HH.out hblk n' d os' hds m hmd
      have hcg := fun nn oo => closure_cmp d[m]! d[h]! (grow ((SW w blk off n' d os').drewN nn) oo)
      have CLS : Hid (∀ nn oo, grow ((SW w blk off n' d os').drewN nn) oo = SW w blk off (n' + nn) d (os' ++ oo)) := fun nn oo => sortWorldK_grown_c Fld.cs 6 w blk off n' nn d os' oo
      obtain ⟨xh, hxh⟩ : ∃ y, d[h]! = y := ⟨_, rfl⟩
      obtain ⟨cv, hcv⟩ : ∃ c, ncmp y xh = c := ⟨_, rfl⟩
      have HX : Hid (d[h]! = xh ∧ ncmp y xh = cv) := ⟨hxh, hcv⟩
      rw [hxh] at lh hcg
      rw [hdm] at lm hcg
      rw [hcv] at hcg
      clear hxh hcv
      obtain ⟨nh, vh⟩ := xh
      obtain ⟨ny, vy⟩ := y
      rw [Fld.v_eq, Fld.v_eq] at hcg
      dsimp only at lh lm
      clear hh
      generalize hwq : SW w blk off n' d os' = wq at lh lm hcg CLS ⊢
      have HWQ := Lib.hid hwq; clear hwq
      by_cases hlv : cv < 0
      case' neg => have hn : (!decide (cv < 0)) = true := by rw [decide_eq_false hlv]; rfl
      case' pos => have hn : (!decide (cv < 0)) = false := by rw [decide_eq_true hlv]; rfl
      all_goals
        go_wp2_with fail
        go_quiet_grown (exact Calls.grown_of (hcg _ _))
        go_wp2_with fail
      · go_roundg (h - i)
        case measure => omega
        case rel => exact ⟨i, h, _, _, rfl, rfl, hmi, by omega, by omega, Nat.le_refl _, HL, Or.inr (by rw [HX.out.1]; exact decide_eq_true (by rw [HX.out.2]; exact hlv)), CLS.out _ _⟩
      · go_roundg (j - (h + 1))
        case measure => omega
        case rel => exact ⟨h + 1, j, _, _, by go_num, rfl, by omega, by omega, hjb, Nat.le_refl _, Or.inr (by rw [Nat.add_sub_cancel, HX.out.1]; exact decide_eq_false (by rw [HX.out.2]; omega)), HR, CLS.out _ _⟩
    · obtain rfl : i = j := by omega
      have hltz : ¬ (i : Int) < (i : Int) := by omega
      obtain ⟨s, hs⟩ : ∃ s, i = a + s := ⟨i - a, by omega⟩
      obtain ⟨hax, hmx, hbx⟩ := HAB.out
      have hsA2 : s ≤ A.length := by omega
      have hat : ∀ q, q < A.length → d[a + q]! = A[q]! := fun q hq => by
        rw [← HD.out, hax, getElem!_pos _ _ (by simp; omega), getElem!_pos A q hq, List.getElem_toArray, List.getElem_append_right (by omega)]
        have e : X.length + q - X.length = q := by omega
        simp only [e]
        rw [List.getElem_append_left hq]
      have hmr := merge_right (y := y) hsA s hsA2 (by
        rcases HL.out with h | h
        · exact Or.inl (by omega)
        · rcases Nat.eq_zero_or_pos s with h0 | h0
          · exact Or.inl h0
          · refine Or.inr ?_
            rw [hs, show a + s - 1 = a + (s - 1) by omega, hat _ (by omega)] at h
            exact h) (by
        rcases HR.out with h | h
        · exact Or.inl (by omega)
        · rcases Nat.lt_or_ge s A.length with h0 | h0
          · rw [hs, hat _ h0] at h
            exact Or.inr h
          · exact Or.inl (by omega))
      have h0 := stR_zero (X ++ A.take s) (A.drop s) Y y
      have hA := stR_all (X ++ A.take s) (A.drop s) Y y
      have hS := stR_step (X ++ A.take s) (A.drop s) Y y
      have hL := stR_len (X ++ A.take s) (A.drop s) Y y
      rw [List.append_assoc, ← List.append_assoc (A.take s), List.take_append_drop] at hA
      have htl : (A.drop s).length = m - i := by rw [List.length_drop]; omega
      have hxl : (X ++ A.take s).length = i := by rw [List.length_append, List.length_take]; omega
      rw [htl] at hA hS hL
      rw [hxl] at hS hL
      have hfin : stR (X ++ A.take s) (A.drop s) Y y 0 = X ++ (fsort (A ++ [y]) ++ Y) := by
        rw [h0, hmr]
        simp only [List.append_assoc, List.cons_append]
      have hd0 : d = (stR (X ++ A.take s) (A.drop s) Y y (m - i)).toArray := by rw [hA]; exact HD.out.symm
      have hLd : ∀ k, k ≤ m - i → (stR (X ++ A.take s) (A.drop s) Y y k).toArray.size = d0.size := fun k hk => by
        show (stR (X ++ A.take s) (A.drop s) Y y k).length = _
        rw [hL k hk, ← hC]
        simp only [List.length_append, List.length_cons]
        omega
      have hS' : ∀ z, i ≤ z → z < m → swp (stR (X ++ A.take s) (A.drop s) Y y (z + 1 - i)).toArray (z + 1) z = (stR (X ++ A.take s) (A.drop s) Y y (z - i)).toArray := fun z h1 h2 => by
        have := hS (z - i) (by omega)
        rw [show i + (z - i) + 1 = z + 1 by omega, show i + (z - i) = z by omega, show z - i + 1 = z + 1 - i by omega] at this
        exact this
      generalize stR (X ++ A.take s) (A.drop s) Y y = rl at hd0 hLd hS' hfin
      have HFIN := Lib.hid hfin
      have HLD := Lib.hid hLd
      have HS := Lib.hid hS'
      have hi6 : (i : Int) ≤ (m : Int) := by omega
      clear h0 hA hS hL htl hxl hfin hLd hS' hmr hat HL HR HD HAB hax hmx hbx hdm hds hC hsA hsA2 hA1 hs
      subst hd0
      clear hlt hg1 hjb hij hmb
      go_wp2_with fail
      go_loopg [17] (m - i) (fun g1 vk wr => ∃ (z n2 : Nat) (os2 : Array Obj), vk = .int .i64 (z : Int) ∧ i ≤ z ∧ z ≤ m ∧ z - i ≤ g1 ∧ wr = SW w blk off n2 (rl (z - i)).toArray os2)
      case atStart => exact ⟨m, n', os', rfl, by omega, Nat.le_refl _, Nat.le_refl _, rfl⟩
      case round =>
        obtain ⟨z, n2, os2, rfl, hz1, hz2, hg1, rfl⟩ := hrel
        by_cases hqt : i < z
        · obtain ⟨zp, rfl⟩ : ∃ zp, z = zp + 1 := ⟨z - 1, by omega⟩
          have hqz : (i : Int) < (zp : Int) + 1 := by omega
          have wk : IntKind.i64.wrap (zp : Int) = (zp : Int) := by rw [IntKind.wrap_i64]; omega
          have e1 : ((zp : Int) + 1).toNat = zp + 1 := by omega
          have z0 : (zp : Int) < (d0.size : Int) := by omega
          have z1 : (zp : Int) + 1 < (d0.size : Int) := by omega
          have p1 : (0 : Int) ≤ (zp : Int) + 1 := by omega
          obtain ⟨hsa, hsw⟩ := swap_facts HH.out hblk n2 (rl (zp + 1 - i)).toArray os2 (HLD.out (zp + 1 - i) (by omega)) (zp + 1) zp (by omega) (by omega)
          rw [HS.out zp (by omega) (by omega)] at hsw
          generalize (rl (zp + 1 - i)).toArray[zp + 1]!.cs = cp at hsa hsw
          generalize (rl (zp + 1 - i)).toArray[zp]!.cs = cq at hsa hsw
          have HSW : Hid _ := hsa
          have HW2 : Hid _ := hsw
          clear hsa hsw
          generalize SW w blk off n2 (rl (zp + 1 - i)).toArray os2 = wq2 at HSW HW2 ⊢
          go_upto_region 23 with (fail)
          refine wp_region_any (by assumption) ?_
          change wpAny _ _ _ _ _ _ _ (World.drew _)
          (refine grab (i := 0) (v := ?_) rfl rfl (by kernel_rfl) (by kernel_rfl) (by kernel_rfl) (fun _ _ _ h => h) (by rfl) ?_ ?_; rotate_left; (focus (intro w; go_simp; first | done | with_reducible rfl)); (simp only [Act.at, List.setIfInBounds_toArray, List.set_cons_zero, List.set_cons_succ]))
          (refine grab (i := 1) (v := ?_) rfl rfl (by kernel_rfl) (by kernel_rfl) (by kernel_rfl) (fun _ _ _ h => h) (by rfl) ?_ ?_; rotate_left; (focus (intro w; go_simp; first | done | with_reducible rfl)); (simp only [Act.at, List.setIfInBounds_toArray, List.set_cons_zero, List.set_cons_succ]))
          (refine grab (i := 2) (v := ?_) rfl rfl (by kernel_rfl) (by kernel_rfl) (by kernel_rfl) (fun _ _ _ h => h) (by rfl) ?_ ?_; rotate_left; (focus (intro w; go_simp; first | done | with_reducible rfl)); (simp only [Act.at, List.setIfInBounds_toArray, List.set_cons_zero, List.set_cons_succ]))
          (refine grab (i := 3) (v := ?_) rfl rfl (by kernel_rfl) (by kernel_rfl) (by kernel_rfl) (fun _ _ _ h => h) (by rfl) ?_ ?_; rotate_left; (focus (intro w; go_simp; first | done | with_reducible rfl)); (simp only [Act.at, List.setIfInBounds_toArray, List.set_cons_zero, List.set_cons_succ]))
          (refine grab (i := 4) (v := ?_) rfl rfl (by kernel_rfl) (by kernel_rfl) (by kernel_rfl) (fun _ _ _ h => h) (by rfl) ?_ ?_; rotate_left; (focus (intro w; go_simp; first | done | with_reducible rfl)); (simp only [Act.at, List.setIfInBounds_toArray, List.set_cons_zero, List.set_cons_succ]))
          (refine grab (i := 5) (v := ?_) rfl rfl (by kernel_rfl) (by kernel_rfl) (by kernel_rfl) (fun _ _ _ h => h) (by rfl) ?_ ?_; rotate_left; (focus (intro w; go_simp; first | done | with_reducible rfl)); (simp only [Act.at, List.setIfInBounds_toArray, List.set_cons_zero, List.set_cons_succ]))
          (refine grab (i := 6) (v := ?_) rfl rfl (by kernel_rfl) (by kernel_rfl) (by kernel_rfl) (fun _ _ _ h => h) (by rfl) ?_ ?_; rotate_left; (focus (intro w; go_simp; first | done | with_reducible rfl)); (simp only [Act.at, List.setIfInBounds_toArray, List.set_cons_zero, List.set_cons_succ]))
          (refine grab (i := 7) (v := ?_) rfl rfl (by kernel_rfl) (by kernel_rfl) (by kernel_rfl) (fun _ _ _ h => h) (by rfl) ?_ ?_; rotate_left; (focus (intro w; go_simp; first | done | with_reducible rfl)); (simp only [Act.at, List.setIfInBounds_toArray, List.set_cons_zero, List.set_cons_succ]))
          (refine grab (i := 8) (v := ?_) rfl rfl (by kernel_rfl) (by kernel_rfl) (by kernel_rfl) (fun _ _ _ h => h) (by rfl) ?_ ?_; rotate_left; (focus (intro w; go_simp; first | done | with_reducible rfl)); (simp only [Act.at, List.setIfInBounds_toArray, List.set_cons_zero, List.set_cons_succ]))
          (refine grab (i := 10) (v := ?_) rfl rfl (by kernel_rfl) (by kernel_rfl) (by kernel_rfl) (fun _ _ _ h => h) (by rfl) ?_ ?_; rotate_left; (focus (intro w; go_simp; first | done | with_reducible rfl)); (simp only [Act.at, List.setIfInBounds_toArray, List.set_cons_zero, List.set_cons_succ]))
          (refine grab (i := 11) (v := ?_) rfl rfl (by kernel_rfl) (by kernel_rfl) (by kernel_rfl) (fun _ _ _ h => h) (by rfl) ?_ ?_; rotate_left; (focus (intro w; go_simp; first | done | with_reducible rfl)); (simp only [Act.at, List.setIfInBounds_toArray, List.set_cons_zero, List.set_cons_succ]))
          (refine grab (i := 12) (v := ?_) rfl rfl (by kernel_rfl) (by kernel_rfl) (by kernel_rfl) (fun _ _ _ h => h) (by rfl) ?_ ?_; rotate_left; (focus (intro w; go_simp; first | done | with_reducible rfl)); (simp only [Act.at, List.setIfInBounds_toArray, List.set_cons_zero, List.set_cons_succ]))
          refine wpTwo (i := 9) (j := 13) (by kernel_rfl) rfl rfl (by rfl) (by rfl) (fun K hK => ?_) (fun K hK => ?_)
          · refine wp_load_mid _ _ rfl _ _ rfl _ _ HSW.out.1 Try.underlying40 rfl HSW.out.2.2.2.2.1 ?_
            refine hK _ _ ?_
            clear hK K
            simp only [Act.put, List.setIfInBounds_toArray]
            refine wpOne (i := 13) (by kernel_rfl) rfl (by rfl) (fun K hK => ?_)
            refine wp_load_mid _ _ rfl _ _ rfl _ _ HSW.out.2.1 Try.underlying40 rfl HSW.out.2.2.2.2.2.1 ?_
            refine hK _ _ ?_
            clear hK K
            simp only [Act.put]
            (refine grab (i := 14) (v := ?_) rfl rfl (by kernel_rfl) (by kernel_rfl) (by kernel_rfl) (fun _ _ _ h => h) (by rfl) ?_ ?_; rotate_left; (focus (intro w; go_simp; first | done | with_reducible rfl)); (simp only [Act.at]))
            refine wpOne (i := 15) (by kernel_rfl) rfl (by rfl) (fun K hK => ?_)
            refine wp_store_mid _ _ _ rfl _ _ _ rfl rfl HSW.out.2.2.1 HSW.out.2.2.2.2.2.2.1 HSW.out.2.2.2.2.2.2.2.2.1 ?_
            refine hK _ _ ?_
            clear hK K
            try simp only [Act.put]
            (refine grab (i := 16) (v := ?_) rfl rfl (by kernel_rfl) (by kernel_rfl) (by kernel_rfl) (fun _ _ _ h => h) (by rfl) ?_ ?_; rotate_left; (focus (intro w; go_simp; first | done | with_reducible rfl)); (simp only [Act.at]))
            refine wpOne (i := 17) (by kernel_rfl) rfl (by rfl) (fun K hK => ?_)
            refine wp_store_mid _ _ _ rfl _ _ _ rfl rfl HSW.out.2.2.2.1 HSW.out.2.2.2.2.2.2.2.1 HSW.out.2.2.2.2.2.2.2.2.2 ?_
            refine hK _ _ ?_
            clear hK K
            try simp only [Act.put]
            refine wpAny_done (by kernel_rfl) ?_ _
            (rw [HW2.out]; go_wp2_with fail; go_roundg (zp - i); (case measure => omega); case rel => exact ⟨zp, n2 + 1, os2, by first | rfl | go_num | (congr 1; omega), by omega, by omega, Nat.le_refl _, rfl⟩)
          · refine wp_load_mid _ _ rfl _ _ rfl _ _ HSW.out.2.1 Try.underlying40 rfl HSW.out.2.2.2.2.2.1 ?_
            refine hK _ _ ?_
            clear hK K
            simp only [Act.put, List.setIfInBounds_toArray]
            refine wpOne (i := 9) (by kernel_rfl) rfl (by rfl) (fun K hK => ?_)
            refine wp_load_mid _ _ rfl _ _ rfl _ _ HSW.out.1 Try.underlying40 rfl HSW.out.2.2.2.2.1 ?_
            refine hK _ _ ?_
            clear hK K
            simp only [Act.put]
            (refine grab (i := 14) (v := ?_) rfl rfl (by kernel_rfl) (by kernel_rfl) (by kernel_rfl) (fun _ _ _ h => h) (by rfl) ?_ ?_; rotate_left; (focus (intro w; go_simp; first | done | with_reducible rfl)); (simp only [Act.at]))
            refine wpOne (i := 15) (by kernel_rfl) rfl (by rfl) (fun K hK => ?_)
            refine wp_store_mid _ _ _ rfl _ _ _ rfl rfl HSW.out.2.2.1 HSW.out.2.2.2.2.2.2.1 HSW.out.2.2.2.2.2.2.2.2.1 ?_
            refine hK _ _ ?_
            clear hK K
            try simp only [Act.put]
            (refine grab (i := 16) (v := ?_) rfl rfl (by kernel_rfl) (by kernel_rfl) (by kernel_rfl) (fun _ _ _ h => h) (by rfl) ?_ ?_; rotate_left; (focus (intro w; go_simp; first | done | with_reducible rfl)); (simp only [Act.at]))
            refine wpOne (i := 17) (by kernel_rfl) rfl (by rfl) (fun K hK => ?_)
            refine wp_store_mid _ _ _ rfl _ _ _ rfl rfl HSW.out.2.2.2.1 HSW.out.2.2.2.2.2.2.2.1 HSW.out.2.2.2.2.2.2.2.2.2 ?_
            refine hK _ _ ?_
            clear hK K
            try simp only [Act.put]
            refine wpAny_done (by kernel_rfl) ?_ _
            (rw [HW2.out]; go_wp2_with fail; go_roundg (zp - i); (case measure => omega); case rel => exact ⟨zp, n2 + 1, os2, by first | rfl | go_num | (congr 1; omega), by omega, by omega, Nat.le_refl _, rfl⟩)
        · obtain rfl : z = i := by omega
          have hqz : ¬ (z : Int) < (z : Int) := by omega
          go_wp2_with fail
          first | go_returns | go_end0
          exact ⟨rfl, n2, os2, by rw [← HFIN.out]⟩
end Go.Proofs.Ytfppobnfajkmmaa
