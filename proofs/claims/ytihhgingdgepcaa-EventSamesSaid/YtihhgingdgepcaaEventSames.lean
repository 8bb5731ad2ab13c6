/-
  The contract of EventSames.
-/
import Derived.Test.YtihhgingdgepcaaEvAw
import Derived.Test.YtihhgingdgepcaaEvG
import Derived.Test.YtihhgingdgepcaaEvSame
import Derived.Test.YtihhgingdgepcaaEvRefH
import Derived.Test.YtihhgingdgepcaaEvArg
import Derived.Test.YtihhgingdgepcaaLaw
import Derived.Test.YtihhgingdgepcaaRows
namespace Go.Proofs.Ytihhgingdgepcaa
open Go.ChangeShapes Go.WideShapes Go.ChangeAt Go.RowKit
open Go.ChangeMaps (open_string shut_string)
set_option linter.unusedVariables false

/-- Two events in blocks side by side. -/
abbrev PairS (b0 : Nat) (C1 C2 : Array Value) (W : World) : Prop := Has W b0 29 C1 ∧ Has W (b0 + 1) 29 C2
theorem pair_below {b0 : Nat} {C1 C2 : Array Value} {W W' : World} (h : PairS b0 C1 C2 W) (hb : Below W.heap.size W W') (hl : b0 + 1 < W.heap.size) : PairS b0 C1 C2 W' := ⟨h.1.below hb (by omega), h.2.below hb hl⟩
set_option maxHeartbeats 16000000 in
set_option maxRecDepth 100000 in
theorem eventSames_any {w : World} {u v : Evt} {A B C D : Option Addr} {ca cb cc cd : Nat} (hin1 : EntIn w [] u.ent A ca B cb) (hin2 : EntIn w [] v.ent C cc D cd) :
    Calls Try.prog 5 #[u.val A ca B cb, v.val C cc D cd] w fun r w' => r = .returned (.bool true) ∧ Below w.heap.size w w' := by
  have hF1 := fun (W : World) (hb : Below w.heap.size w W) (s : List Nat) (hs : ∀ x ∈ s, x < W.heap.size) => fewV_any (v := u) (EntIn.at hin1 hb (s := []) (fun x hx => by cases hx)) s hs
  have hF2 := fun (W : World) (hb : Below w.heap.size w W) (s : List Nat) (hs : ∀ x ∈ s, x < W.heap.size) => fewV_any (v := v) (EntIn.at hin2 hb (s := []) (fun x hx => by cases hx)) s hs
  have HFX := Lib.hid (few_evtFew u)
  have HFY := Lib.hid (few_evtFew v)
  obtain ⟨D1, e1, s1, -⟩ := evtOpen u A ca B cb
  obtain ⟨D2, e2, s2, -⟩ := evtOpen v C cc D cd
  rw [e1] at hF1 ⊢
  rw [e2] at hF2 ⊢
  have HF1 := Lib.hid hF1
  have HF2 := Lib.hid hF2
  have HSZ := Lib.hid (And.intro s1 s2)
  clear hF1 hF2 e1 e2 s1 s2 hin1 hin2
  generalize Ev.few u = x at *
  generalize Ev.few v = y at *
  have HAW := Lib.hid eawake_any
  have hp := entTwo w 29 D1 D2
  have hup : Below w.heap.size w ((w.alloc (.cells D1 29)).alloc (.cells D2 29)) := entPair
  have hsz : ((w.alloc (.cells D1 29)).alloc (.cells D2 29)).heap.size = w.heap.size + 1 + 1 := by rw [asize, asize]
  go_enter Try.func5, Try.ntmps5
  go_upto_region 1 with fail
  generalize (w.alloc (.cells D1 29)).alloc (.cells D2 29) = W0 at hp hup hsz ⊢
  obtain ⟨b0, hq0⟩ : ∃ b0, w.heap.size = b0 := ⟨_, rfl⟩
  rw [hq0] at hp hsz ⊢
  have HP := Lib.hid hp
  have HU := Lib.hid hup
  have HQ := Lib.hid hq0
  have hs0 : b0 + 1 < W0.heap.size := by omega
  clear hp hup hq0 hsz
  refine wp_region_lit ?_
  refine wpList_evLoad (by rfl) (.tmp 2) rfl b0 D1 ?e1 HP.out.1 HSZ.out.1 ?_
  case e1 => rfl
  go_wp2_with fail
  refine (HF1.out _ HU.out [b0, b0 + 1] (by intro z hz; simp at hz; omega)).mono ?_
  rintro r w1 ⟨A1, B1, ca1, cb1, rfl, hin1, hb1⟩
  obtain ⟨C1, hC1, hsz1, hone1⟩ := evtOpen x A1 ca1 B1 cb1
  rw [hC1]
  have HP1 := Lib.hid (And.intro (HP.out.1.below hb1 (by omega)) (HP.out.2.below hb1 hs0))
  have HU1 := Lib.hid (HU.out.trans (hb1.mono HU.out.size))
  have hs1 : b0 + 1 < w1.heap.size := Nat.lt_of_lt_of_le hs0 hb1.size
  have HIN1 := Lib.hid hin1
  have HC1 := Lib.hid (And.intro hC1 (And.intro hsz1 hone1))
  clear hC1 hsz1 hone1 hin1 hb1 HF1 HP HU hs0
  go_upto_region 2 with (refine wpList_store_row rfl 29 (.tmp 2) (.tmp 7) rfl b0 C1 ?e2 ?e3 _ _ HP1.out.1 (by rw [HC1.out.2.1]; exact evtSize) (by rw [HSZ.out.1, HC1.out.2.1]) HC1.out.2.2 ?_; (case e2 => rfl); (case e3 => rfl))
  have hh2 : Has (w1.setRow b0 C1) b0 29 C1 := setRow_heap _ _ _ _ _ _ HP1.out.1
  have ho2 := onlySetRow w1 b0 C1
  have HP2 := Lib.hid (And.intro hh2 (ho2.has HP1.out.2 (by omega : b0 + 1 ≠ b0)))
  have HIN2 := Lib.hid (HIN1.out.mv (Mv.of_only ho2 (s := [b0]) (by simp)) (by simp))
  have HU2 : Hid (Below w.heap.size w (w1.setRow b0 C1)) := Lib.hid (below_setRow HU1.out (by have := HQ.out; omega) _)
  have hs2 : b0 + 1 < (w1.setRow b0 C1).heap.size := by rw [setRow_size]; exact hs1
  clear hh2 ho2 HP1 HIN1 HU1 hs1
  simp only [Act.put]
  generalize w1.setRow b0 C1 = W2 at HP2 HIN2 HU2 hs2 ⊢
  refine wp_region_lit ?_
  refine wpList_evLoad (by rfl) (.tmp 3) rfl (b0 + 1) D2 ?e1 HP2.out.2 HSZ.out.2 ?_
  case e1 => rfl
  go_wp2_with fail
  refine (HF2.out _ HU2.out [b0, b0 + 1] (by intro z hz; simp at hz; omega)).mono ?_
  rintro r w3 ⟨A2, B2, ca2, cb2, rfl, hin3, hb3⟩
  obtain ⟨C2, hC2, hsz2, hone2⟩ := evtOpen y A2 ca2 B2 cb2
  rw [hC2]
  have HP3 := Lib.hid (And.intro (HP2.out.1.below hb3 (by omega)) (HP2.out.2.below hb3 hs2))
  have HU3 := Lib.hid (HU2.out.trans (hb3.mono HU2.out.size))
  have hs3 : b0 + 1 < w3.heap.size := Nat.lt_of_lt_of_le hs2 hb3.size
  have HIN3 := Lib.hid (And.intro (HIN2.out.below hb3) hin3)
  have HC2 := Lib.hid (And.intro hC2 (And.intro hsz2 hone2))
  clear hC2 hsz2 hone2 hin3 hb3 HF2 HP2 HU2 hs2 HIN2
  go_upto_region 3 with (refine wpList_store_row rfl 29 (.tmp 3) (.tmp 9) rfl (b0 + 1) C2 ?e2 ?e3 _ _ HP3.out.2 (by rw [HC2.out.2.1]; exact evtSize) (by rw [HSZ.out.2, HC2.out.2.1]) HC2.out.2.2 ?_; (case e2 => rfl); (case e3 => rfl))
  have hh4 : Has (w3.setRow (b0 + 1) C2) (b0 + 1) 29 C2 := setRow_heap _ _ _ _ _ _ HP3.out.2
  have ho4 := onlySetRow w3 (b0 + 1) C2
  have HP4 : Hid (PairS b0 C1 C2 (w3.setRow (b0 + 1) C2)) := Lib.hid (And.intro (ho4.has HP3.out.1 (by omega : b0 ≠ b0 + 1)) hh4)
  have hi1 := (HIN3.out.1.mv (Mv.of_only ho4 (s := [b0 + 1]) (by simp)) (by simp)).sub (t := []) (by simp)
  have hi2 := (HIN3.out.2.mv (Mv.of_only ho4 (s := [b0 + 1]) (by simp)) (by simp)).sub (t := []) (by simp)
  have HU4 : Hid (Below w.heap.size w (w3.setRow (b0 + 1) C2)) := Lib.hid (below_setRow HU3.out (by have := HQ.out; omega) _)
  have hs4 : b0 + 1 < (w3.setRow (b0 + 1) C2).heap.size := by rw [setRow_size]; exact hs3
  clear hh4 ho4 HP3 HIN3 HU3 hs3 HSZ
  simp only [Act.put]
  generalize w3.setRow (b0 + 1) C2 = W4 at HP4 hi1 hi2 HU4 hs4 ⊢
  have hR1 := fun (W : World) (hb : Below W4.heap.size W4 W) => erightV_any (v := x) (hi1.below hb) HFX.out
  have hR2 := fun (W : World) (hb : Below W4.heap.size W4 W) => erightV_any (v := y) (hi2.below hb) HFY.out
  have hL1 := fun (W : World) (hb : Below W4.heap.size W4 W) => ecleanV_any (v := x) (hi1.below hb)
  have hL2 := fun (W : World) (hb : Below W4.heap.size W4 W) => ecleanV_any (v := y) (hi2.below hb)
  have hSM := fun (W : World) (hb : Below W4.heap.size W4 W) => sameV_any (u := x) (v := y) (hi1.below hb) (hi2.below hb) HFX.out HFY.out
  rw [Ev.same_iff] at hSM
  rw [HC1.out.1] at hR1 hL1 hSM
  rw [HC2.out.1] at hR2 hL2 hSM
  have HR1 := Lib.hid hR1
  have HR2 := Lib.hid hR2
  have HL1 := Lib.hid hL1
  have HL2 := Lib.hid hL2
  have HSM := Lib.hid hSM
  have HZ := Lib.hid (And.intro HC1.out.2.1 HC2.out.2.1)
  clear hR1 hR2 hL1 hL2 hSM hi1 hi2 HC1 HC2 HFX HFY
  unfold EvtPost at HL1 HL2
  obtain ⟨res, hres⟩ : ∃ r, r = (Ev.right x && Ev.right y && decide (Ev.clean x = Ev.clean y)) := ⟨_, rfl⟩
  rw [← hres] at HSM
  have HRES : Hid _ := Lib.hid hres
  clear hres
  generalize Ev.right x = r1 at *
  generalize Ev.right y = r2 at *
  go_cut [5] from 10 to 22 (fun v5 W => v5 = .bool res ∧ Hid (Below W4.heap.size W4 W))
  case first =>
    have hx : PairS b0 C1 C2 W4.drew := HP4.out
    have hbd : Below W4.heap.size W4 W4.drew := (Below.refl _ W4).drew
    have hlt2 : ∀ {W : World}, Below W4.heap.size W4 W → b0 + 1 < W.heap.size := fun {W} hW => Nat.lt_of_lt_of_le hs4 hW.size
    refine wp_region_held_drew (S := PairS b0 C1 C2) (by kernel_rfl) hx (fun hHeld => ?_)
    generalize W4.drew = WD at hx hbd hHeld ⊢
    refine take_wanted (i := 0) (v := .agg C1) rfl rfl (by kernel_rfl) (by kernel_rfl) (by kernel_rfl) (fun _ _ _ h => h) (by rfl) (by assumption) (fun W hW => evLoad _ rfl rfl hW.1 HZ.out.1) ?_
    (simp only [Act.at, List.setIfInBounds_toArray, List.set_cons_zero, List.set_cons_succ])
    refine take_call (i := 1) (by kernel_rfl) rfl rfl (by rfl) (fun K hK => ?_)
    go_simp
    refine (HR1.out _ hbd).mono ?_
    rintro r w4 ⟨rfl, hb4⟩
    have hx4 : PairS b0 C1 C2 w4 := pair_below hx hb4 (hlt2 hbd)
    have hbd4 := hbd.trans (hb4.mono hbd.size)
    refine hK.out _ _ hx4 (fun hHeld => ?_)
    clear hK K
    try simp only [Act.put, List.setIfInBounds_toArray, List.set_cons_zero, List.set_cons_succ]
    clear hx hbd hb4
    have hx := hx4
    have hbd := hbd4
    clear hx4 hbd4
    generalize w4 = w5 at *
    first
    | (refine take_wanted (i := 2) (v := ?_) rfl rfl (by kernel_rfl) (by kernel_rfl) (by kernel_rfl) (fun _ _ _ h => h) (by rfl) (by assumption) ?_ ?_; rotate_left; (focus (intro w hSw; (try dsimp only at hSw); go_simp; first | done | with_reducible rfl)); (simp only [Act.at, List.setIfInBounds_toArray, List.set_cons_zero, List.set_cons_succ]))
    | (refine take_unwanted (i := 2) rfl rfl (by kernel_rfl) (by kernel_rfl) (by kernel_rfl) (fun _ _ _ h => h) (by rfl) (by assumption) ?_; (simp only [Act.at, List.setIfInBounds_toArray, List.set_cons_zero, List.set_cons_succ]))
    cases r1 with
    | false =>
      first
      | (refine take_wanted (i := 3) (v := ?_) rfl rfl (by kernel_rfl) (by kernel_rfl) (by kernel_rfl) (fun _ _ _ h => h) (by rfl) (by assumption) ?_ ?_; rotate_left; (focus (intro w hSw; (try dsimp only at hSw); go_simp; first | done | with_reducible rfl)); (simp only [Act.at, List.setIfInBounds_toArray, List.set_cons_zero, List.set_cons_succ]))
      | (refine take_unwanted (i := 3) rfl rfl (by kernel_rfl) (by kernel_rfl) (by kernel_rfl) (fun _ _ _ h => h) (by rfl) (by assumption) ?_; (simp only [Act.at, List.setIfInBounds_toArray, List.set_cons_zero, List.set_cons_succ]))
      first
      | (refine take_wanted (i := 4) (v := ?_) rfl rfl (by kernel_rfl) (by kernel_rfl) (by kernel_rfl) (fun _ _ _ h => h) (by rfl) (by assumption) ?_ ?_; rotate_left; (focus (intro w hSw; (try dsimp only at hSw); go_simp; first | done | with_reducible rfl)); (simp only [Act.at, List.setIfInBounds_toArray, List.set_cons_zero, List.set_cons_succ]))
      | (refine take_unwanted (i := 4) rfl rfl (by kernel_rfl) (by kernel_rfl) (by kernel_rfl) (fun _ _ _ h => h) (by rfl) (by assumption) ?_; (simp only [Act.at, List.setIfInBounds_toArray, List.set_cons_zero, List.set_cons_succ]))
      first
      | (refine take_wanted (i := 5) (v := ?_) rfl rfl (by kernel_rfl) (by kernel_rfl) (by kernel_rfl) (fun _ _ _ h => h) (by rfl) (by assumption) ?_ ?_; rotate_left; (focus (intro w hSw; (try dsimp only at hSw); go_simp; first | done | with_reducible rfl)); (simp only [Act.at, List.setIfInBounds_toArray, List.set_cons_zero, List.set_cons_succ]))
      | (refine take_unwanted (i := 5) rfl rfl (by kernel_rfl) (by kernel_rfl) (by kernel_rfl) (fun _ _ _ h => h) (by rfl) (by assumption) ?_; (simp only [Act.at, List.setIfInBounds_toArray, List.set_cons_zero, List.set_cons_succ]))
      first
      | (refine take_wanted (i := 6) (v := ?_) rfl rfl (by kernel_rfl) (by kernel_rfl) (by kernel_rfl) (fun _ _ _ h => h) (by rfl) (by assumption) ?_ ?_; rotate_left; (focus (intro w hSw; (try dsimp only at hSw); go_simp; first | done | with_reducible rfl)); (simp only [Act.at, List.setIfInBounds_toArray, List.set_cons_zero, List.set_cons_succ]))
      | (refine take_unwanted (i := 6) rfl rfl (by kernel_rfl) (by kernel_rfl) (by kernel_rfl) (fun _ _ _ h => h) (by rfl) (by assumption) ?_; (simp only [Act.at, List.setIfInBounds_toArray, List.set_cons_zero, List.set_cons_succ]))
      first
      | (refine take_wanted (i := 7) (v := ?_) rfl rfl (by kernel_rfl) (by kernel_rfl) (by kernel_rfl) (fun _ _ _ h => h) (by rfl) (by assumption) ?_ ?_; rotate_left; (focus (intro w hSw; (try dsimp only at hSw); go_simp; first | done | with_reducible rfl)); (simp only [Act.at, List.setIfInBounds_toArray, List.set_cons_zero, List.set_cons_succ]))
      | (refine take_unwanted (i := 7) rfl rfl (by kernel_rfl) (by kernel_rfl) (by kernel_rfl) (fun _ _ _ h => h) (by rfl) (by assumption) ?_; (simp only [Act.at, List.setIfInBounds_toArray, List.set_cons_zero, List.set_cons_succ]))
      first
      | (refine take_wanted (i := 8) (v := ?_) rfl rfl (by kernel_rfl) (by kernel_rfl) (by kernel_rfl) (fun _ _ _ h => h) (by rfl) (by assumption) ?_ ?_; rotate_left; (focus (intro w hSw; (try dsimp only at hSw); go_simp; first | done | with_reducible rfl)); (simp only [Act.at, List.setIfInBounds_toArray, List.set_cons_zero, List.set_cons_succ]))
      | (refine take_unwanted (i := 8) rfl rfl (by kernel_rfl) (by kernel_rfl) (by kernel_rfl) (fun _ _ _ h => h) (by rfl) (by assumption) ?_; (simp only [Act.at, List.setIfInBounds_toArray, List.set_cons_zero, List.set_cons_succ]))
      first
      | (refine take_wanted (i := 9) (v := ?_) rfl rfl (by kernel_rfl) (by kernel_rfl) (by kernel_rfl) (fun _ _ _ h => h) (by rfl) (by assumption) ?_ ?_; rotate_left; (focus (intro w hSw; (try dsimp only at hSw); go_simp; first | done | with_reducible rfl)); (simp only [Act.at, List.setIfInBounds_toArray, List.set_cons_zero, List.set_cons_succ]))
      | (refine take_unwanted (i := 9) rfl rfl (by kernel_rfl) (by kernel_rfl) (by kernel_rfl) (fun _ _ _ h => h) (by rfl) (by assumption) ?_; (simp only [Act.at, List.setIfInBounds_toArray, List.set_cons_zero, List.set_cons_succ]))
      first
      | (refine take_wanted (i := 10) (v := ?_) rfl rfl (by kernel_rfl) (by kernel_rfl) (by kernel_rfl) (fun _ _ _ h => h) (by rfl) (by assumption) ?_ ?_; rotate_left; (focus (intro w hSw; (try dsimp only at hSw); go_simp; first | done | with_reducible rfl)); (simp only [Act.at, List.setIfInBounds_toArray, List.set_cons_zero, List.set_cons_succ]))
      | (refine take_unwanted (i := 10) rfl rfl (by kernel_rfl) (by kernel_rfl) (by kernel_rfl) (fun _ _ _ h => h) (by rfl) (by assumption) ?_; (simp only [Act.at, List.setIfInBounds_toArray, List.set_cons_zero, List.set_cons_succ]))
      first
      | (refine take_wanted (i := 11) (v := ?_) rfl rfl (by kernel_rfl) (by kernel_rfl) (by kernel_rfl) (fun _ _ _ h => h) (by rfl) (by assumption) ?_ ?_; rotate_left; (focus (intro w hSw; (try dsimp only at hSw); go_simp; first | done | with_reducible rfl)); (simp only [Act.at, List.setIfInBounds_toArray, List.set_cons_zero, List.set_cons_succ]))
      | (refine take_unwanted (i := 11) rfl rfl (by kernel_rfl) (by kernel_rfl) (by kernel_rfl) (fun _ _ _ h => h) (by rfl) (by assumption) ?_; (simp only [Act.at, List.setIfInBounds_toArray, List.set_cons_zero, List.set_cons_succ]))
      first
      | (refine take_wanted (i := 12) (v := ?_) rfl rfl (by kernel_rfl) (by kernel_rfl) (by kernel_rfl) (fun _ _ _ h => h) (by rfl) (by assumption) ?_ ?_; rotate_left; (focus (intro w hSw; (try dsimp only at hSw); go_simp; first | done | with_reducible rfl)); (simp only [Act.at, List.setIfInBounds_toArray, List.set_cons_zero, List.set_cons_succ]))
      | (refine take_unwanted (i := 12) rfl rfl (by kernel_rfl) (by kernel_rfl) (by kernel_rfl) (fun _ _ _ h => h) (by rfl) (by assumption) ?_; (simp only [Act.at, List.setIfInBounds_toArray, List.set_cons_zero, List.set_cons_succ]))
      first
      | (refine take_wanted (i := 13) (v := ?_) rfl rfl (by kernel_rfl) (by kernel_rfl) (by kernel_rfl) (fun _ _ _ h => h) (by rfl) (by assumption) ?_ ?_; rotate_left; (focus (intro w hSw; (try dsimp only at hSw); go_simp; first | done | with_reducible rfl)); (simp only [Act.at, List.setIfInBounds_toArray, List.set_cons_zero, List.set_cons_succ]))
      | (refine take_unwanted (i := 13) rfl rfl (by kernel_rfl) (by kernel_rfl) (by kernel_rfl) (fun _ _ _ h => h) (by rfl) (by assumption) ?_; (simp only [Act.at, List.setIfInBounds_toArray, List.set_cons_zero, List.set_cons_succ]))
      refine wpAnyH_done (by kernel_rfl) ?_ _
      go_wp2_with fail
      go_meet
      exact ⟨by rw [HRES.out]; rfl, Lib.hid hbd⟩
    | true =>
      refine take_wanted (i := 3) (v := .agg C2) rfl rfl (by kernel_rfl) (by kernel_rfl) (by kernel_rfl) (fun _ _ _ h => h) (by rfl) (by assumption) (fun W hW => evLoad _ rfl rfl hW.2 HZ.out.2) ?_
      (simp only [Act.at, List.setIfInBounds_toArray, List.set_cons_zero, List.set_cons_succ])
      refine take_call (i := 4) (by kernel_rfl) rfl rfl (by rfl) (fun K hK => ?_)
      go_simp
      refine (HR2.out _ hbd).mono ?_
      rintro r w4 ⟨rfl, hb4⟩
      have hx4 : PairS b0 C1 C2 w4 := pair_below hx hb4 (hlt2 hbd)
      have hbd4 := hbd.trans (hb4.mono hbd.size)
      refine hK.out _ _ hx4 (fun hHeld => ?_)
      clear hK K
      try simp only [Act.put, List.setIfInBounds_toArray, List.set_cons_zero, List.set_cons_succ]
      clear hx hbd hb4
      have hx := hx4
      have hbd := hbd4
      clear hx4 hbd4
      generalize w4 = w5 at *
      first
      | (refine take_wanted (i := 5) (v := ?_) rfl rfl (by kernel_rfl) (by kernel_rfl) (by kernel_rfl) (fun _ _ _ h => h) (by rfl) (by assumption) ?_ ?_; rotate_left; (focus (intro w hSw; (try dsimp only at hSw); go_simp; first | done | with_reducible rfl)); (simp only [Act.at, List.setIfInBounds_toArray, List.set_cons_zero, List.set_cons_succ]))
      | (refine take_unwanted (i := 5) rfl rfl (by kernel_rfl) (by kernel_rfl) (by kernel_rfl) (fun _ _ _ h => h) (by rfl) (by assumption) ?_; (simp only [Act.at, List.setIfInBounds_toArray, List.set_cons_zero, List.set_cons_succ]))
      first
      | (refine take_wanted (i := 6) (v := ?_) rfl rfl (by kernel_rfl) (by kernel_rfl) (by kernel_rfl) (fun _ _ _ h => h) (by rfl) (by assumption) ?_ ?_; rotate_left; (focus (intro w hSw; (try dsimp only at hSw); go_simp; first | done | with_reducible rfl)); (simp only [Act.at, List.setIfInBounds_toArray, List.set_cons_zero, List.set_cons_succ]))
      | (refine take_unwanted (i := 6) rfl rfl (by kernel_rfl) (by kernel_rfl) (by kernel_rfl) (fun _ _ _ h => h) (by rfl) (by assumption) ?_; (simp only [Act.at, List.setIfInBounds_toArray, List.set_cons_zero, List.set_cons_succ]))
      cases r2 with
      | false =>
        first
        | (refine take_wanted (i := 7) (v := ?_) rfl rfl (by kernel_rfl) (by kernel_rfl) (by kernel_rfl) (fun _ _ _ h => h) (by rfl) (by assumption) ?_ ?_; rotate_left; (focus (intro w hSw; (try dsimp only at hSw); go_simp; first | done | with_reducible rfl)); (simp only [Act.at, List.setIfInBounds_toArray, List.set_cons_zero, List.set_cons_succ]))
        | (refine take_unwanted (i := 7) rfl rfl (by kernel_rfl) (by kernel_rfl) (by kernel_rfl) (fun _ _ _ h => h) (by rfl) (by assumption) ?_; (simp only [Act.at, List.setIfInBounds_toArray, List.set_cons_zero, List.set_cons_succ]))
        first
        | (refine take_wanted (i := 8) (v := ?_) rfl rfl (by kernel_rfl) (by kernel_rfl) (by kernel_rfl) (fun _ _ _ h => h) (by rfl) (by assumption) ?_ ?_; rotate_left; (focus (intro w hSw; (try dsimp only at hSw); go_simp; first | done | with_reducible rfl)); (simp only [Act.at, List.setIfInBounds_toArray, List.set_cons_zero, List.set_cons_succ]))
        | (refine take_unwanted (i := 8) rfl rfl (by kernel_rfl) (by kernel_rfl) (by kernel_rfl) (fun _ _ _ h => h) (by rfl) (by assumption) ?_; (simp only [Act.at, List.setIfInBounds_toArray, List.set_cons_zero, List.set_cons_succ]))
        first
        | (refine take_wanted (i := 9) (v := ?_) rfl rfl (by kernel_rfl) (by kernel_rfl) (by kernel_rfl) (fun _ _ _ h => h) (by rfl) (by assumption) ?_ ?_; rotate_left; (focus (intro w hSw; (try dsimp only at hSw); go_simp; first | done | with_reducible rfl)); (simp only [Act.at, List.setIfInBounds_toArray, List.set_cons_zero, List.set_cons_succ]))
        | (refine take_unwanted (i := 9) rfl rfl (by kernel_rfl) (by kernel_rfl) (by kernel_rfl) (fun _ _ _ h => h) (by rfl) (by assumption) ?_; (simp only [Act.at, List.setIfInBounds_toArray, List.set_cons_zero, List.set_cons_succ]))
        first
        | (refine take_wanted (i := 10) (v := ?_) rfl rfl (by kernel_rfl) (by kernel_rfl) (by kernel_rfl) (fun _ _ _ h => h) (by rfl) (by assumption) ?_ ?_; rotate_left; (focus (intro w hSw; (try dsimp only at hSw); go_simp; first | done | with_reducible rfl)); (simp only [Act.at, List.setIfInBounds_toArray, List.set_cons_zero, List.set_cons_succ]))
        | (refine take_unwanted (i := 10) rfl rfl (by kernel_rfl) (by kernel_rfl) (by kernel_rfl) (fun _ _ _ h => h) (by rfl) (by assumption) ?_; (simp only [Act.at, List.setIfInBounds_toArray, List.set_cons_zero, List.set_cons_succ]))
        first
        | (refine take_wanted (i := 11) (v := ?_) rfl rfl (by kernel_rfl) (by kernel_rfl) (by kernel_rfl) (fun _ _ _ h => h) (by rfl) (by assumption) ?_ ?_; rotate_left; (focus (intro w hSw; (try dsimp only at hSw); go_simp; first | done | with_reducible rfl)); (simp only [Act.at, List.setIfInBounds_toArray, List.set_cons_zero, List.set_cons_succ]))
        | (refine take_unwanted (i := 11) rfl rfl (by kernel_rfl) (by kernel_rfl) (by kernel_rfl) (fun _ _ _ h => h) (by rfl) (by assumption) ?_; (simp only [Act.at, List.setIfInBounds_toArray, List.set_cons_zero, List.set_cons_succ]))
        first
        | (refine take_wanted (i := 12) (v := ?_) rfl rfl (by kernel_rfl) (by kernel_rfl) (by kernel_rfl) (fun _ _ _ h => h) (by rfl) (by assumption) ?_ ?_; rotate_left; (focus (intro w hSw; (try dsimp only at hSw); go_simp; first | done | with_reducible rfl)); (simp only [Act.at, List.setIfInBounds_toArray, List.set_cons_zero, List.set_cons_succ]))
        | (refine take_unwanted (i := 12) rfl rfl (by kernel_rfl) (by kernel_rfl) (by kernel_rfl) (fun _ _ _ h => h) (by rfl) (by assumption) ?_; (simp only [Act.at, List.setIfInBounds_toArray, List.set_cons_zero, List.set_cons_succ]))
        first
        | (refine take_wanted (i := 13) (v := ?_) rfl rfl (by kernel_rfl) (by kernel_rfl) (by kernel_rfl) (fun _ _ _ h => h) (by rfl) (by assumption) ?_ ?_; rotate_left; (focus (intro w hSw; (try dsimp only at hSw); go_simp; first | done | with_reducible rfl)); (simp only [Act.at, List.setIfInBounds_toArray, List.set_cons_zero, List.set_cons_succ]))
        | (refine take_unwanted (i := 13) rfl rfl (by kernel_rfl) (by kernel_rfl) (by kernel_rfl) (fun _ _ _ h => h) (by rfl) (by assumption) ?_; (simp only [Act.at, List.setIfInBounds_toArray, List.set_cons_zero, List.set_cons_succ]))
        refine wpAnyH_done (by kernel_rfl) ?_ _
        go_wp2_with fail
        go_meet
        exact ⟨by rw [HRES.out]; rfl, Lib.hid hbd⟩
      | true =>
        refine take_wanted (i := 7) (v := .agg C1) rfl rfl (by kernel_rfl) (by kernel_rfl) (by kernel_rfl) (fun _ _ _ h => h) (by rfl) (by assumption) (fun W hW => evLoad _ rfl rfl hW.1 HZ.out.1) ?_
        (simp only [Act.at, List.setIfInBounds_toArray, List.set_cons_zero, List.set_cons_succ])
        refine take_wanted (i := 9) (v := .agg C2) rfl rfl (by kernel_rfl) (by kernel_rfl) (by kernel_rfl) (fun _ _ _ h => h) (by rfl) (by assumption) (fun W hW => evLoad _ rfl rfl hW.2 HZ.out.2) ?_
        (simp only [Act.at, List.setIfInBounds_toArray, List.set_cons_zero, List.set_cons_succ])
        refine take_call (i := 8) (by kernel_rfl) rfl rfl (by rfl) (fun K hK => ?_)
        go_simp
        refine (HL1.out _ hbd).mono ?_
        rintro r w4 ⟨A5, B5, ca5, cb5, rfl, hin5, hb4⟩
        have HS5 := Lib.hid (fun (W : World) (A6 B6 : Option Addr) (ca6 cb6 : Nat) (hb : Below w4.heap.size w4 W) (h6 : EntIn W [] (Ev.clean y).ent A6 ca6 B6 cb6) => esameV_any (u := Ev.clean x) (v := Ev.clean y) (hin5.below hb) h6)
        obtain ⟨C5, hC5, -, -⟩ := evtOpen (Ev.clean x) A5 ca5 B5 cb5
        rw [hC5] at HS5 ⊢
        clear hC5 hin5
        have hx4 : PairS b0 C1 C2 w4 := pair_below hx hb4 (hlt2 hbd)
        have hbd4 := hbd.trans (hb4.mono hbd.size)
        refine hK.out _ _ hx4 (fun hHeld => ?_)
        clear hK K
        try simp only [Act.put, List.setIfInBounds_toArray, List.set_cons_zero, List.set_cons_succ]
        clear hx hbd hb4
        have hx := hx4
        have hbd := hbd4
        clear hx4 hbd4
        generalize w4 = w5 at *
        refine take_call (i := 10) (by kernel_rfl) rfl rfl (by rfl) (fun K hK => ?_)
        go_simp
        refine (HL2.out _ hbd).mono ?_
        rintro r w4 ⟨A6, B6, ca6, cb6, rfl, hin6, hb4⟩
        have HS6 := Lib.hid (fun (W : World) (hb : Below w4.heap.size w4 W) => HS5.out W A6 B6 ca6 cb6 (hb4.trans (hb.mono hb4.size)) (hin6.below hb))
        obtain ⟨C6, hC6, -, -⟩ := evtOpen (Ev.clean y) A6 ca6 B6 cb6
        rw [hC6] at HS6 ⊢
        clear hC6 hin6 HS5
        have hx4 : PairS b0 C1 C2 w4 := pair_below hx hb4 (hlt2 hbd)
        have hbd4 := hbd.trans (hb4.mono hbd.size)
        refine hK.out _ _ hx4 (fun hHeld => ?_)
        clear hK K
        try simp only [Act.put, List.setIfInBounds_toArray, List.set_cons_zero, List.set_cons_succ]
        clear hx hbd hb4
        have hx := hx4
        have hbd := hbd4
        clear hx4 hbd4
        generalize w4 = w5 at *
        refine take_call (i := 11) (by kernel_rfl) rfl rfl (by rfl) (fun K hK => ?_)
        go_simp
        refine (HS6.out _ (Below.refl _ _)).mono ?_
        rintro r w4 ⟨rfl, hb4⟩
        have hx4 : PairS b0 C1 C2 w4 := pair_below hx hb4 (hlt2 hbd)
        have hbd4 := hbd.trans (hb4.mono hbd.size)
        refine hK.out _ _ hx4 (fun hHeld => ?_)
        clear hK K
        try simp only [Act.put, List.setIfInBounds_toArray, List.set_cons_zero, List.set_cons_succ]
        clear hx hbd hb4
        have hx := hx4
        have hbd := hbd4
        clear hx4 hbd4
        generalize w4 = w5 at *
        first
        | (refine take_wanted (i := 12) (v := ?_) rfl rfl (by kernel_rfl) (by kernel_rfl) (by kernel_rfl) (fun _ _ _ h => h) (by rfl) (by assumption) ?_ ?_; rotate_left; (focus (intro w hSw; (try dsimp only at hSw); go_simp; first | done | with_reducible rfl)); (simp only [Act.at, List.setIfInBounds_toArray, List.set_cons_zero, List.set_cons_succ]))
        | (refine take_unwanted (i := 12) rfl rfl (by kernel_rfl) (by kernel_rfl) (by kernel_rfl) (fun _ _ _ h => h) (by rfl) (by assumption) ?_; (simp only [Act.at, List.setIfInBounds_toArray, List.set_cons_zero, List.set_cons_succ]))
        first
        | (refine take_wanted (i := 13) (v := ?_) rfl rfl (by kernel_rfl) (by kernel_rfl) (by kernel_rfl) (fun _ _ _ h => h) (by rfl) (by assumption) ?_ ?_; rotate_left; (focus (intro w hSw; (try dsimp only at hSw); go_simp; first | done | with_reducible rfl)); (simp only [Act.at, List.setIfInBounds_toArray, List.set_cons_zero, List.set_cons_succ]))
        | (refine take_unwanted (i := 13) rfl rfl (by kernel_rfl) (by kernel_rfl) (by kernel_rfl) (fun _ _ _ h => h) (by rfl) (by assumption) ?_; (simp only [Act.at, List.setIfInBounds_toArray, List.set_cons_zero, List.set_cons_succ]))
        refine wpAnyH_done (by kernel_rfl) ?_ _
        go_wp2_with fail
        go_meet
        exact ⟨by rw [HRES.out]; rfl, Lib.hid hbd⟩
  case rest =>
    obtain ⟨rfl, hbc⟩ := hcut
    have hxc := pair_below HP4.out hbc.out hs4
    have HX := Lib.hid hxc
    have HUC := Lib.hid (HU4.out.trans (hbc.out.mono HU4.out.size))
    have HSC := Lib.hid (HSM.out _ hbc.out)
    clear hxc hbc HP4 HU4 HSM HR1 HR2 HL1 HL2 HRES
    go_wp2_with (first
      | (refine wpList_evLoad (by rfl) (.tmp 2) rfl b0 C1 ?e1 HX.out.1 HZ.out.1 ?_; (case e1 => rfl))
      | (refine wpList_evLoad (by rfl) (.tmp 3) rfl (b0 + 1) C2 ?e1 HX.out.2 HZ.out.2 ?_; (case e1 => rfl)))
    refine HSC.out.mono ?_
    rintro r w6 ⟨rfl, hb6⟩
    have HB6 := Lib.hid (HUC.out.trans (hb6.mono HUC.out.size))
    clear hb6 HUC HSC
    cases res
    all_goals
      go_wp2_with fail
      refine (HAW.out _).mono ?_
      rintro r w7 ⟨rfl, hb7⟩
      go_wp2_with fail
      go_ret
      exact ⟨rfl, HB6.out.trans (hb7.mono HB6.out.size)⟩
set_option maxRecDepth 100000 in
theorem eventSames_contract {H : Type} (enc : TypeId × Value → H) (W : World) (base : Nat) (args : Array Value) (ds gs : List (DataW H)) (before : List MemPlace)
    (hval : ∀ (j : Nat) t v, Try.f5.params[j]? = some t → args[j]? = some v → Value.okWide Try.prog W .any base t v)
    (hW : DataW.Whole enc Try.prog Try.f5.params.toList Rows.eventSamesSpec.vars false W args.toList ds gs before)
    (hsz : (DataW.weightsEach Try.prog (Try.f5.params.toList ++ Rows.eventSamesSpec.plain.varTypes Try.prog) (ds ++ gs)).all (· ≤ reachBytes) = true) :
    Calls Try.prog 5 args W fun e W' =>
      ((Rows.eventSamesSpec.fn H (ds ++ gs)).results = [.lit (.bool true)] ∧ (Rows.eventSamesSpec.fn H (ds ++ gs)).args = ds ∧ (Rows.eventSamesSpec.fn H (ds ++ gs)).vars = []) ∧ e = .returned (.bool true) ∧ Below W.heap.size W W' := by
  obtain ⟨p, q, hA0, hV, rfl, hfz, hnd⟩ := hW
  have hA : DataW.TrodAll enc Try.prog W 0 (fun _ => true) true Try.f5.params.toList args.toList ds p := hA0
  rw [Try.params5] at hA hval hsz
  obtain ⟨v0, v1, d0, d1, p0, p1, rfl, rfl, rfl, h0, h1⟩ := trodAll_two hA
  obtain ⟨rfl, rfl⟩ := trodVars_none hV
  obtain ⟨x_u, A_u, ca_u, B_u, cb_u, rfl, in_u⟩ := event_open (hval 0 29 v0 rfl rfl) h0
  obtain ⟨x_v, A_v, ca_v, B_v, cb_v, rfl, in_v⟩ := event_open (hval 1 29 v1 rfl rfl) h1
  exact (eventSames_any in_u in_v).mono fun e W' h => ⟨⟨rfl, rfl, rfl⟩, h⟩
end Go.Proofs.Ytihhgingdgepcaa
