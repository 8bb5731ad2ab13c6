/-
  The contract of slices' symMerge at fields, where one field is merged in from the left.
-/
import Derived.Test.YtfppobnfajkmmaaSymOne
namespace Go.Proofs.Ytfppobnfajkmmaa
open Go.RowKit Go.Sort Go.Lib
open Go.Op (bytesLess)
set_option linter.unusedVariables false

/-- x has passed so many of B1. -/
def stL (X B1 R : List Fld) (x : Fld) (t : Nat) : List Fld := X ++ (B1.take t ++ (x :: (B1.drop t ++ R)))
theorem stL_zero (X B1 R : List Fld) (x : Fld) : stL X B1 R x 0 = X ++ (x :: (B1 ++ R)) := by simp [stL]
theorem stL_all (X B1 R : List Fld) (x : Fld) : stL X B1 R x B1.length = X ++ (B1 ++ (x :: R)) := by simp [stL]
theorem stL_len (X B1 R : List Fld) (x : Fld) (t : Nat) (h : t ≤ B1.length) : (stL X B1 R x t).length = X.length + 1 + B1.length + R.length := by
  unfold stL
  simp only [List.length_append, List.length_cons, List.length_take, List.length_drop]
  omega
theorem stL_step (X B1 R : List Fld) (x : Fld) (t : Nat) (h : t < B1.length) : swp (stL X B1 R x t).toArray (X.length + t) (X.length + t + 1) = (stL X B1 R x (t + 1)).toArray := by
  have e1 : stL X B1 R x t = (X ++ B1.take t) ++ x :: B1[t] :: (B1.drop (t + 1) ++ R) := by
    unfold stL
    rw [List.drop_eq_getElem_cons h]
    simp only [List.append_assoc, List.cons_append]
  have e2 : stL X B1 R x (t + 1) = (X ++ B1.take t) ++ B1[t] :: x :: (B1.drop (t + 1) ++ R) := by
    unfold stL
    rw [List.take_succ_eq_append_getElem h]
    simp only [List.append_assoc, List.cons_append, List.nil_append]
  have i1 : X.length + t = (X ++ B1.take t).length := by rw [List.length_append, List.length_take]; omega
  rw [i1, e1, e2]
  exact Array.ext' (swp_adj _ _ _ _)

set_option maxHeartbeats 40000000 in
set_option maxRecDepth 100000 in
theorem symL_any {w : World} {blk off : Nat} {d0 : Array Fld} (hH : HoldsK Fld.cs 6 w blk off d0) (hblk : blk < w.heap.size) (hsz : d0.size < 1000000) (cap : Nat) (X B Y : List Fld) (x : Fld) (n : Nat) (os : Array Obj)
    (hC : (X ++ (x :: (B ++ Y))).length = d0.size) (hB : 0 < B.length) (hsB : Stab.Sorted Fld.name B) (a m b : Nat) (ha : a = X.length) (hm : m = X.length + 1) (hb : b = X.length + 1 + B.length) :
    Calls Try.prog 56 #[.slice (some ⟨blk, off, none⟩) d0.size cap, .int .i64 (a : Int), .int .i64 (m : Int), .int .i64 (b : Int), .func (.func 20) #[] #[]] (SW w blk off n (X ++ (x :: (B ++ Y))).toArray os) fun e w' =>
      e = .returned (.tuple #[]) ∧ ∃ m os', w' = SW w blk off m (X ++ (fsort (x :: B) ++ Y)).toArray os' := by
  have hma : (m : Int) - (a : Int) = 1 := by omega
  have hbd : b ≤ d0.size := by simp only [List.length_append, List.length_cons] at hC; omega
  have hb6 : (b : Int) ≤ 1000000 := by omega
  have ha6 : (a : Int) < (m : Int) := by omega
  have hmb : (m : Int) < (b : Int) := by omega
  have hds : (X ++ (x :: (B ++ Y))).toArray.size = d0.size := hC
  have hda : (X ++ (x :: (B ++ Y))).toArray[a]! = x := by subst ha; simp
  have mixed : Try.prog.follows .mixedOrders = true := by kernel_rfl
  have eg := enters_of Try.func20 (by kernel_rfl) rfl
  have had : a < d0.size := by omega
  generalize hD : (X ++ (x :: (B ++ Y))).toArray = d at hds hda ⊢
  have HD := Lib.hid hD; clear hD
  have HAB := Lib.hid (And.intro ha (And.intro hm hb)); clear ha hm hb
  have HH : Hid (HoldsK Fld.cs 6 w blk off d0) := hH
  clear hH
  go_enter Try.func56, Try.ntmps56
  go_wp2_with fail
  clear hma
  go_loopg [10, 11] (b - m) (fun g1 vi vj wr => ∃ (i j n' : Nat) (os' : Array Obj), vi = .int .i64 (i : Int) ∧ vj = .int .i64 (j : Int) ∧ m ≤ i ∧ i ≤ j ∧ j ≤ b ∧ j - i ≤ g1 ∧ Hid (i = m ∨ nlt d[i - 1]! x = true) ∧ Hid (j = b ∨ nlt d[j]! x = false) ∧ wr = SW w blk off n' d os')
  case atStart => exact ⟨m, b, n, os, rfl, rfl, Nat.le_refl _, by omega, Nat.le_refl _, Nat.le_refl _, Or.inl rfl, Or.inl rfl, rfl⟩
  case round =>
    obtain ⟨i, j, n', os', rfl, rfl, hmi, hij, hjb, hg1, HL, HR, rfl⟩ := hrel
    by_cases hlt : i < j
    · have hltz : (i : Int) < (j : Int) := by omega
      have hj6 : (j : Int) ≤ 1000000 := by omega
      obtain ⟨h, hh⟩ : ∃ h, (i + j) / 2 = h := ⟨_, rfl⟩
      have hhz : ((i : Int) + (j : Int)) / 2 = (h : Int) := by omega
      have hih : i ≤ h := by omega
      have hhj : h < j := by omega
      have hhs : (h : Int) < (d0.size : Int) := by omega
      have has : (a : Int) < (d0.size : Int) := by omega
      have lh := cmp_cells HH.out hblk n' d os' hds h (by omega)
      have la := cmp_cells HH.out hblk n' d os' hds a had
      have hcg := fun nn oo => closure_cmp d[h]! d[a]! (grow ((SW w blk off n' d os').drewN nn) oo)
      have CLS : Hid (∀ nn oo, grow ((SW w blk off n' d os').drewN nn) oo = SW w blk off (n' + nn) d (os' ++ oo)) := fun nn oo => sortWorldK_grown_c Fld.cs 6 w blk off n' nn d os' oo
      obtain ⟨xh, hxh⟩ : ∃ y, d[h]! = y := ⟨_, rfl⟩
      obtain ⟨cv, hcv⟩ : ∃ c, ncmp xh x = c := ⟨_, rfl⟩
      have HX : Hid (d[h]! = xh ∧ ncmp xh x = cv) := ⟨hxh, hcv⟩
      rw [hxh] at lh hcg
      rw [hda] at la hcg
      rw [hcv] at hcg
      clear hxh hcv
      obtain ⟨nh, vh⟩ := xh
      obtain ⟨nx, vx⟩ := x
      rw [Fld.v_eq, Fld.v_eq] at hcg
      dsimp only at lh la
      clear hh
      generalize hwq : SW w blk off n' d os' = wq at lh la hcg CLS ⊢
      have HWQ := Lib.hid hwq; clear hwq
      by_cases hlv : cv < 0
      all_goals
        go_wp2_with fail
        go_quiet_grown (exact Calls.grown_of (hcg _ _))
        go_wp2_with fail
      · go_roundg (j - (h + 1))
        case measure => omega
        case rel => exact ⟨h + 1, j, _, _, by go_num, rfl, by omega, by omega, hjb, Nat.le_refl _, Or.inr (by rw [Nat.add_sub_cancel, HX.out.1]; exact decide_eq_true (by rw [HX.out.2]; exact hlv)), HR, CLS.out _ _⟩
      · go_roundg (h - i)
        case measure => omega
        case rel => exact ⟨i, h, _, _, rfl, rfl, hmi, by omega, by omega, Nat.le_refl _, HL, Or.inr (by rw [HX.out.1]; exact decide_eq_false (by rw [HX.out.2]; omega)), CLS.out _ _⟩
    · obtain rfl : i = j := by omega
      have hltz : ¬ (i : Int) < (i : Int) := by omega
      obtain ⟨t, rfl⟩ : ∃ t, i = m + t := ⟨i - m, by omega⟩
      obtain ⟨hax, hmx, hbx⟩ := HAB.out
      have htB : t ≤ B.length := by omega
      have hat : ∀ q, q < B.length → d[m + q]! = B[q]! := fun q hq => by
        rw [← HD.out, hmx, getElem!_pos _ _ (by simp; omega), getElem!_pos B q hq]
        simp only [List.getElem_toArray]
        rw [List.getElem_append_right (by omega)]
        have e : X.length + 1 + q - X.length = q + 1 := by omega
        simp only [e, List.getElem_cons_succ]
        rw [List.getElem_append_left hq]
      have hml := merge_left hsB t htB (by
        rcases HL.out with h | h
        · exact Or.inl (by omega)
        · rcases Nat.eq_zero_or_pos t with h0 | h0
          · exact Or.inl h0
          · refine Or.inr ?_
            rw [show m + t - 1 = m + (t - 1) by omega, hat _ (by omega)] at h
            exact h) (by
        rcases HR.out with h | h
        · exact Or.inl (by omega)
        · rcases Nat.lt_or_ge t B.length with h0 | h0
          · rw [hat _ h0] at h
            exact Or.inr h
          · exact Or.inl (by omega))
      have h0 := stL_zero X (B.take t) (B.drop t ++ Y) x
      have hA := stL_all X (B.take t) (B.drop t ++ Y) x
      have hS := stL_step X (B.take t) (B.drop t ++ Y) x
      have hL := stL_len X (B.take t) (B.drop t ++ Y) x
      rw [← List.append_assoc (B.take t), List.take_append_drop] at h0
      have htl : (B.take t).length = t := by rw [List.length_take]; omega
      rw [htl] at hA hS hL
      have hfin : stL X (B.take t) (B.drop t ++ Y) x t = X ++ (fsort (x :: B) ++ Y) := by
        rw [hA, hml]
        simp only [List.append_assoc, List.cons_append]
      have hd0 : d = (stL X (B.take t) (B.drop t ++ Y) x 0).toArray := by rw [h0]; exact HD.out.symm
      have hLd : ∀ k, k ≤ t → (stL X (B.take t) (B.drop t ++ Y) x k).toArray.size = d0.size := fun k hk => by
        show (stL X (B.take t) (B.drop t ++ Y) x k).length = _
        rw [hL k hk, ← hC]
        simp only [List.length_append, List.length_cons, List.length_drop]
        omega
      have hS' : ∀ k, k < t → swp (stL X (B.take t) (B.drop t ++ Y) x k).toArray (a + k) (a + k + 1) = (stL X (B.take t) (B.drop t ++ Y) x (k + 1)).toArray := fun k hk => by rw [hax]; exact hS k hk
      generalize stL X (B.take t) (B.drop t ++ Y) x = rl at hd0 hLd hS' hfin
      have HFIN := Lib.hid hfin
      have ham : m = a + 1 := by omega
      have hatd : a + 1 + t ≤ d0.size := by omega
      have hat6 : (a : Int) + 1 + (t : Int) ≤ 1000000 := by omega
      have HLD := Lib.hid hLd
      have HS := Lib.hid hS'
      clear h0 hA hS hL htl hfin hLd hS' hml hat HL HR HD HAB hax hmx hbx hda hds hC hsB htB hB
      subst hd0
      subst ham
      have hsum : ((a + 1 + t : Nat) : Int) - 1 = (a : Int) + (t : Int) := by omega
      go_wp2_with fail
      clear hsum hltz hlt hg1 hjb hij hmi hmb ha6
      have hi1 : (a : Int) + 1 + (t : Int) - 1 = (a : Int) + (t : Int) := by omega
      go_loopg [13] t (fun g1 vk wr => ∃ (q n2 : Nat) (os2 : Array Obj), vk = .int .i64 ((a : Int) + (q : Int)) ∧ q ≤ t ∧ t - q ≤ g1 ∧ wr = SW w blk off n2 (rl q).toArray os2)
      case atStart => exact ⟨0, n', os', by simp, Nat.zero_le _, Nat.le_refl _, rfl⟩
      case round =>
        obtain ⟨q, n2, os2, rfl, hq, hg1, rfl⟩ := hrel
        by_cases hqt : q < t
        · have hqz : (a : Int) + (q : Int) < (a : Int) + (t : Int) := by omega
          have wk : IntKind.i64.wrap ((a : Int) + (q : Int) + 1) = (a : Int) + (q : Int) + 1 := by rw [IntKind.wrap_i64]; omega
          have e0 : ((a : Int) + (q : Int)).toNat = a + q := by omega
          have e1 : ((a : Int) + (q : Int) + 1).toNat = a + q + 1 := by omega
          have z0 : (a : Int) + (q : Int) < (d0.size : Int) := by omega
          have z1 : (a : Int) + (q : Int) + 1 < (d0.size : Int) := by omega
          have p0 : (0 : Int) ≤ (a : Int) + (q : Int) := by omega
          have p1 : (0 : Int) ≤ (a : Int) + (q : Int) + 1 := by omega
          have p2 : (a : Int) + (q : Int) + 1 ≤ 1000000 := by omega
          obtain ⟨hsa, hsw⟩ := swap_facts HH.out hblk n2 (rl q).toArray os2 (HLD.out q hq) (a + q) (a + q + 1) (by omega) (by omega)
          rw [HS.out q hqt] at hsw
          generalize (rl q).toArray[a + q + 1]!.cs = cq at hsa hsw
          generalize (rl q).toArray[a + q]!.cs = cp at hsa hsw
          have HSW : Hid _ := hsa
          have HW2 : Hid _ := hsw
          clear hsa hsw
          generalize SW w blk off n2 (rl q).toArray os2 = wq2 at HSW HW2 ⊢
          go_upto_region 11 with (fail)
          refine wp_region_any (by assumption) ?_
          change wpAny _ _ _ _ _ _ _ (World.drew _)
          (refine grab (i := 0) (v := ?_) rfl rfl (by kernel_rfl) (by kernel_rfl) (by kernel_rfl) (fun _ _ _ h => h) (by rfl) ?_ ?_; rotate_left; (focus (intro w; go_simp; first | done | with_reducible rfl)); (simp only [Act.at, List.setIfInBounds_toArray, List.set_cons_zero, List.set_cons_succ]))
          (refine grab (i := 1) (v := ?_) rfl rfl (by kernel_rfl) (by kernel_rfl) (by kernel_rfl) (fun _ _ _ h => h) (by rfl) ?_ ?_; rotate_left; (focus (intro w; go_simp; first | done | with_reducible rfl)); (simp only [Act.at, List.setIfInBounds_toArray, List.set_cons_zero, List.set_cons_succ]))
          (refine grab (i := 2) (v := ?_) rfl rfl (by kernel_rfl) (by kernel_rfl) (by kernel_rfl) (fun _ _ _ h => h) (by rfl) ?_ ?_; rotate_left; (focus (intro w; go_simp; first | done | with_reducible rfl)); (simp only [Act.at, List.setIfInBounds_toArray, List.set_cons_zero, List.set_cons_succ]))
          (refine grab (i := 3) (v := ?_) rfl rfl (by kernel_rfl) (by kernel_rfl) (by kernel_rfl) (fun _ _ _ h => h) (by rfl) ?_ ?_; rotate_left; (focus (intro w; go_simp; first | done | with_reducible rfl)); (simp only [Act.at, List.setIfInBounds_toArray, List.set_cons_zero, List.set_cons_succ]))
          (refine grab (i := 4) (v := ?_) rfl rfl (by kernel_rfl) (by kernel_rfl) (by kernel_rfl) (fun _ _ _ h => h) (by rfl) ?_ ?_; rotate_left; (focus (intro w; go_simp; first | done | with_reducible rfl)); (simp only [Act.at, List.setIfInBounds_toArray, List.set_cons_zero, List.set_cons_succ]))
          (refine grab (i := 5) (v := ?_) rfl rfl (by kernel_rfl) (by kernel_rfl) (by kernel_rfl) (fun _ _ _ h => h) (by rfl) ?_ ?_; rotate_left; (focus (intro w; go_simp; first | done | with_reducible rfl)); (simp only [Act.at, List.setIfInBounds_toArray, List.set_cons_zero, List.set_cons_succ]))
          (refine grab (i := 6) (v := ?_) rfl rfl (by kernel_rfl) (by kernel_rfl) (by kernel_rfl) (fun _ _ _ h => h) (by rfl) ?_ ?_; rotate_left; (focus (intro w; go_simp; first | done | with_reducible rfl)); (simp only [Act.at, List.setIfInBounds_toArray, List.set_cons_zero, List.set_cons_succ]))
          (refine grab (i := 7) (v := ?_) rfl rfl (by kernel_rfl) (by kernel_rfl) (by kernel_rfl) (fun _ _ _ h => h) (by rfl) ?_ ?_; rotate_left; (focus (intro w; go_simp; first | done | with_reducible rfl)); (simp only [Act.at, List.setIfInBounds_toArray, List.set_cons_zero, List.set_cons_succ]))
          (refine grab (i := 8) (v := ?_) rfl rfl (by kernel_rfl) (by kernel_rfl) (by kernel_rfl) (fun _ _ _ h => h) (by rfl) ?_ ?_; rotate_left; (focus (intro w; go_simp; first | done | with_reducible rfl)); (simp only [Act.at, List.setIfInBounds_toArray, List.set_cons_zero, List.set_cons_succ]))
          (refine grab (i := 10) (v := ?_) rfl rfl (by kernel_rfl) (by kernel_rfl) (by kernel_rfl) (fun _ _ _ h => h) (by rfl) ?_ ?_; rotate_left; (focus (intro w; go_simp; first | done | with_reducible rfl)); (simp only [Act.at, List.setIfInBounds_toArray, List.set_cons_zero, List.set_cons_succ]))
          (refine grab (i := 11) (v := ?_) rfl rfl (by kernel_rfl) (by kernel_rfl) (by kernel_rfl) (fun _ _ _ h => h) (by rfl) ?_ ?_; rotate_left; (focus (intro w; go_simp; first | done | with_reducible rfl)); (simp only [Act.at, List.setIfInBounds_toArray, List.set_cons_zero, List.set_cons_succ]))
          (refine grab (i := 12) (v := ?_) rfl rfl (by kernel_rfl) (by kernel_rfl) (by kernel_rfl) (fun _ _ _ h => h) (by rfl) ?_ ?_; rotate_left; (focus (intro w; go_simp; first | done | with_reducible rfl)); (simp only [Act.at, List.setIfInBounds_toArray, List.set_cons_zero, List.set_cons_succ]))
          refine wpTwo (i := 9) (j := 13) (by kernel_rfl) rfl rfl (by rfl) (by rfl) (fun K hK => ?_) (fun K hK => ?_)
          · refine wp_load_mid _ _ rfl _ _ rfl _ _ HSW.out.1 Try.underlying40 rfl HSW.out.2.2.2.2.1 ?_
            refine hK _ _ ?_
            clear hK K
            simp only [Act.put, List.setIfInBounds_toArray]
            refine wpOne (i := 13) (by kernel_rfl) rfl (by rfl) (fun K hK => ?_)
            refine wp_load_mid _ _ rfl _ _ rfl _ _ HSW.out.2.1 Try.underlying40 rfl HSW.out.2.2.2.2.2.1 ?_
            refine hK _ _ ?_
            clear hK K
            simp only [Act.put]
            (refine grab (i := 14) (v := ?_) rfl rfl (by kernel_rfl) (by kernel_rfl) (by kernel_rfl) (fun _ _ _ h => h) (by rfl) ?_ ?_; rotate_left; (focus (intro w; go_simp; first | done | with_reducible rfl)); (simp only [Act.at]))
            refine wpOne (i := 15) (by kernel_rfl) rfl (by rfl) (fun K hK => ?_)
            refine wp_store_mid _ _ _ rfl _ _ _ rfl rfl HSW.out.2.2.1 HSW.out.2.2.2.2.2.2.1 HSW.out.2.2.2.2.2.2.2.2.1 ?_
            refine hK _ _ ?_
            clear hK K
            try simp only [Act.put]
            (refine grab (i := 16) (v := ?_) rfl rfl (by kernel_rfl) (by kernel_rfl) (by kernel_rfl) (fun _ _ _ h => h) (by rfl) ?_ ?_; rotate_left; (focus (intro w; go_simp; first | done | with_reducible rfl)); (simp only [Act.at]))
            refine wpOne (i := 17) (by kernel_rfl) rfl (by rfl) (fun K hK => ?_)
            refine wp_store_mid _ _ _ rfl _ _ _ rfl rfl HSW.out.2.2.2.1 HSW.out.2.2.2.2.2.2.2.1 HSW.out.2.2.2.2.2.2.2.2.2 ?_
            refine hK _ _ ?_
            clear hK K
            try simp only [Act.put]
            refine wpAny_done (by kernel_rfl) ?_ _
            (rw [HW2.out]; go_wp2_with fail; go_roundg (t - (q + 1)); (case measure => omega); case rel => exact ⟨q + 1, n2 + 1, os2, by first | go_num | (congr 1; omega), by omega, Nat.le_refl _, rfl⟩)
          · refine wp_load_mid _ _ rfl _ _ rfl _ _ HSW.out.2.1 Try.underlying40 rfl HSW.out.2.2.2.2.2.1 ?_
            refine hK _ _ ?_
            clear hK K
            simp only [Act.put, List.setIfInBounds_toArray]
            refine wpOne (i := 9) (by kernel_rfl) rfl (by rfl) (fun K hK => ?_)
            refine wp_load_mid _ _ rfl _ _ rfl _ _ HSW.out.1 Try.underlying40 rfl HSW.out.2.2.2.2.1 ?_
            refine hK _ _ ?_
            clear hK K
            simp only [Act.put]
            (refine grab (i := 14) (v := ?_) rfl rfl (by kernel_rfl) (by kernel_rfl) (by kernel_rfl) (fun _ _ _ h => h) (by rfl) ?_ ?_; rotate_left; (focus (intro w; go_simp; first | done | with_reducible rfl)); (simp only [Act.at]))
            refine wpOne (i := 15) (by kernel_rfl) rfl (by rfl) (fun K hK => ?_)
            refine wp_store_mid _ _ _ rfl _ _ _ rfl rfl HSW.out.2.2.1 HSW.out.2.2.2.2.2.2.1 HSW.out.2.2.2.2.2.2.2.2.1 ?_
            refine hK _ _ ?_
            clear hK K
            try simp only [Act.put]
            (refine grab (i := 16) (v := ?_) rfl rfl (by kernel_rfl) (by kernel_rfl) (by kernel_rfl) (fun _ _ _ h => h) (by rfl) ?_ ?_; rotate_left; (focus (intro w; go_simp; first | done | with_reducible rfl)); (simp only [Act.at]))
            refine wpOne (i := 17) (by kernel_rfl) rfl (by rfl) (fun K hK => ?_)
            refine wp_store_mid _ _ _ rfl _ _ _ rfl rfl HSW.out.2.2.2.1 HSW.out.2.2.2.2.2.2.2.1 HSW.out.2.2.2.2.2.2.2.2.2 ?_
            refine hK _ _ ?_
            clear hK K
            try simp only [Act.put]
            refine wpAny_done (by kernel_rfl) ?_ _
            (rw [HW2.out]; go_wp2_with fail; go_roundg (t - (q + 1)); (case measure => omega); case rel => exact ⟨q + 1, n2 + 1, os2, by first | go_num | (congr 1; omega), by omega, Nat.le_refl _, rfl⟩)
        · obtain rfl : q = t := by omega
          have hqz : ¬ (a : Int) + (q : Int) < (a : Int) + (q : Int) := by omega
          go_wp2_with fail
          first | go_returns | go_end0
          exact ⟨rfl, n2, os2, by rw [HFIN.out]⟩
end Go.Proofs.Ytfppobnfajkmmaa
