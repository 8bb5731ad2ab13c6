/-
  The contract of EventBytes.
-/
import Derived.Test.YtihhgingdgepcaaEvAw
import Derived.Test.YtihhgingdgepcaaEvT
import Derived.Test.YtihhgingdgepcaaEvG
import Derived.Test.YtihhgingdgepcaaEvRefF
import Derived.Test.YtihhgingdgepcaaEvRefH
import Derived.Test.YtihhgingdgepcaaEvLd
import Derived.Test.YtihhgingdgepcaaEvArg
import Derived.Test.YtihhgingdgepcaaLaw
import Derived.Test.YtihhgingdgepcaaRows
namespace Go.Proofs.Ytihhgingdgepcaa
open Go.ChangeShapes Go.WideShapes Go.ChangeAt Go.RowKit
open Go.ChangeMaps (open_string shut_string)
set_option linter.unusedVariables false

/-- An event, and what was read. -/
abbrev TwoS (b0 t : Nat) (C1 C2 : Array Value) (W : World) : Prop := Has W b0 29 C1 ∧ Has W t 29 C2
theorem two_below {b0 t : Nat} {C1 C2 : Array Value} {W W' : World} (h : TwoS b0 t C1 C2 W) (hb : Below W.heap.size W W') : TwoS b0 t C1 C2 W' := ⟨h.1.below hb h.1.lt, h.2.below hb h.2.lt⟩
set_option maxHeartbeats 16000000 in
set_option maxRecDepth 100000 in
theorem eventBytes_any {w : World} {v : Evt} {A B : Option Addr} {ca cb : Nat} (hin : EntIn w [] v.ent A ca B cb) :
    Calls Try.prog 3 #[v.val A ca B cb] w fun r w' => r = .returned (.bool true) ∧ Below w.heap.size w w' := by
  have hF := fun (W : World) (hb : Below w.heap.size w W) (s : List Nat) (hs : ∀ x ∈ s, x < W.heap.size) => fewV_any (v := v) (EntIn.at hin hb (s := []) (fun x hx => by cases hx)) s hs
  have HFX := Lib.hid (few_evtFew v)
  obtain ⟨CS, hCS, hsz, -⟩ := evtOpen v A ca B cb
  rw [hCS] at hF ⊢
  have HF := Lib.hid hF
  have HSZ := Lib.hid hsz
  clear hF hCS hin hsz
  generalize Ev.few v = x at *
  have HAW := Lib.hid eawake_any
  have hh := Has.made w 29 CS
  have hb0 : Below w.heap.size w (w.alloc (.cells CS 29)) := (Below.refl _ w).alloc (Nat.le_refl _) _
  have hs0 : w.heap.size < (w.alloc (.cells CS 29)).heap.size := by rw [asize]; omega
  go_enter Try.func3, Try.ntmps3
  go_upto_region 1 with fail
  generalize w.alloc (.cells CS 29) = W0 at hh hb0 hs0 ⊢
  obtain ⟨b0, hq0⟩ : ∃ b0, w.heap.size = b0 := ⟨_, rfl⟩
  rw [hq0] at hh hs0 ⊢
  have HH := Lib.hid hh
  have HB := Lib.hid hb0
  have HQ := Lib.hid hq0
  clear hh hb0 hq0
  refine wp_region_lit ?_
  refine wpList_evLoad (by rfl) (.tmp 1) rfl b0 CS ?e1 HH.out HSZ.out ?_
  case e1 => rfl
  go_wp2_with fail
  refine (HF.out _ HB.out [b0] (by intro x hx; rw [List.mem_singleton.1 hx]; exact hs0)).mono ?_
  rintro r w1 ⟨A1, B1, ca1, cb1, rfl, hin1, hb1⟩
  obtain ⟨C1, hC1, hsz1, hone1⟩ := evtOpen x A1 ca1 B1 cb1
  rw [hC1]
  have HH1 := Lib.hid (HH.out.below hb1 hs0)
  have HB1 := Lib.hid (HB.out.trans (hb1.mono HB.out.size))
  have HIN1 := Lib.hid hin1
  have HC1 := Lib.hid (And.intro hC1 (And.intro hsz1 hone1))
  clear hC1 hin1 hb1 HF HH HB hsz1 hone1 hs0
  go_upto_region 2 with (refine wpList_store_row rfl 29 (.tmp 1) (.tmp 7) rfl b0 C1 ?e2 ?e3 _ _ HH1.out (by rw [HC1.out.2.1]; exact evtSize) (by rw [HSZ.out, HC1.out.2.1]) HC1.out.2.2 ?_; (case e2 => rfl); (case e3 => rfl))
  have hh2 : Has (w1.setRow b0 C1) b0 29 C1 := setRow_heap _ _ _ _ _ _ HH1.out
  have hin2 := (HIN1.out.mv (Mv.of_only (onlySetRow w1 b0 C1) (s := [b0]) (by simp)) (fun x hx => hx)).sub (t := []) (by simp)
  have hb2 : Below w.heap.size w (w1.setRow b0 C1) := below_setRow HB1.out (by have := HQ.out; omega) _
  clear HIN1 HB1 HH1 HSZ
  try simp only [Act.put]
  generalize w1.setRow b0 C1 = W2 at hh2 hin2 hb2 ⊢
  have hBY := bytesV_any (v := x) hin2 HFX.out
  have hRT := fun (W : World) (hb : Below W2.heap.size W2 W) => erightV_any (v := x) (hin2.below hb) HFX.out
  rw [HC1.out.1] at hBY hRT
  have HBY := Lib.hid hBY
  have HRT := Lib.hid hRT
  have HH2 := Lib.hid hh2
  have HB2 := Lib.hid hb2
  have HIN2 := Lib.hid hin2
  have HBD : Hid (Ev.bytes x = if Ev.right x = true then Ev.enc x else []) := Lib.hid rfl
  clear hBY hRT hh2 hb2 hin2
  generalize Ev.bytes x = bs at *
  refine wp_region_lit ?_
  refine wpList_evLoad (by rfl) (.tmp 1) rfl b0 C1 ?e1 HH2.out HC1.out.2.1 ?_
  case e1 => rfl
  go_wp2_with fail
  refine HBY.out.mono ?_
  rintro r w3 ⟨rfl, hb3⟩
  have HH3 := Lib.hid (HH2.out.below hb3 HH2.out.lt)
  have HR3 := Lib.hid (HRT.out w3 hb3)
  have HIN3 := Lib.hid (HIN2.out.below hb3)
  have HB3 := Lib.hid (HB2.out.trans (hb3.mono HB2.out.size))
  clear hb3 HBY HRT HH2 HIN2 HB2
  obtain ⟨rr, hrr⟩ : ∃ r, Ev.right x = r := ⟨_, rfl⟩
  rw [hrr] at HR3 HBD
  have HRR := Lib.hid hrr
  clear hrr
  go_wp2_with (refine wpList_evLoad (by rfl) (.tmp 1) rfl b0 C1 ?e1 HH3.out HC1.out.2.1 ?_; (case e1 => rfl))
  refine HR3.out.mono ?_
  rintro r w4 ⟨rfl, hb4⟩
  have HH4 := Lib.hid (HH3.out.below hb4 HH3.out.lt)
  have HIN4 := Lib.hid (HIN3.out.below hb4)
  have HB4 := Lib.hid (HB3.out.trans (hb4.mono HB3.out.size))
  clear hb4 HR3 HH3 HIN3 HB3
  cases rr with
  | false =>
    have hbs : bs = [] := HBD.out
    subst hbs
    go_wp2_with fail
    refine (HAW.out _).mono ?_
    rintro r w5 ⟨rfl, hb5⟩
    go_wp2_with fail
    go_ret
    exact ⟨rfl, HB4.out.trans (hb5.mono HB4.out.size)⟩
  | true =>
    have hbs : bs = Ev.enc x := HBD.out
    have hfw := Ev.readV_fwd HRR.out
    have hel := Ev.enc_len HRR.out
    rw [← hbs] at hfw hel
    have hRD := readV_any bs (by omega) w4
    rw [hfw] at hRD
    have hey := fun (W : World) (hb : Below w4.heap.size w4 W) => ebytesV_any (v := x) (HIN4.out.below hb) HRR.out
    rw [HC1.out.1, ← hbs] at hey
    have hcl := fun (W : World) (hb : Below w4.heap.size w4 W) => ecleanV_any (v := x) (HIN4.out.below hb)
    unfold EvtPost at hcl
    rw [HC1.out.1] at hcl
    dsimp only at hRD
    generalize Ev.clean x = y at hRD hcl
    have HRD := Lib.hid hRD
    have HEY := Lib.hid hey
    have HCL := Lib.hid hcl
    have hmm : (bs == bs) = true := by rw [beq_self_eq_true]
    clear hbs hfw hel hRD hey hcl HBD HRR
    go_wp2_with fail
    refine HRD.out.mono ?_
    rintro r w5 ⟨A5, B5, ca5, cb5, rfl, hin5, hb5⟩
    obtain ⟨C2, hC2, hsz2, hone2⟩ := evtOpen y A5 ca5 B5 cb5
    rw [hC2]
    have HC2 := Lib.hid (And.intro hC2 (And.intro hsz2 hone2))
    clear hC2 hsz2 hone2 HRD
    go_upto_region 6 with (refine wpList_store_row rfl 29 (.tmp 4) (.tmp 21) rfl w5.heap.size C2 ?e2 ?e3 _ _ (heap_alloc_new _ _) (by rw [HC2.out.2.1]; exact evtSize) (by rw [HC2.out.2.1]; rfl) HC2.out.2.2 ?_; (case e2 => rfl); (case e3 => rfl))
    have hba : Below w5.heap.size w5 (w5.alloc (.cells #[.int .i64 0, .string ⟨#[]⟩, .int .i64 0, .int .i64 0, .int .i64 0, .slice none 0 0, .bool false, .slice none 0 0, .int .i64 0, .int .i64 0, .string ⟨#[]⟩, .int .i64 0, .string ⟨#[]⟩, .int .i64 0] 29)) := (Below.refl _ w5).alloc (Nat.le_refl _) _
    have hh6 : Has ((w5.alloc (.cells #[.int .i64 0, .string ⟨#[]⟩, .int .i64 0, .int .i64 0, .int .i64 0, .slice none 0 0, .bool false, .slice none 0 0, .int .i64 0, .int .i64 0, .string ⟨#[]⟩, .int .i64 0, .string ⟨#[]⟩, .int .i64 0] 29)).setRow w5.heap.size C2) w5.heap.size 29 C2 := setRow_heap _ _ _ _ _ _ (heap_alloc_new _ _)
    have hb6 : Below w5.heap.size w5 ((w5.alloc (.cells #[.int .i64 0, .string ⟨#[]⟩, .int .i64 0, .int .i64 0, .int .i64 0, .slice none 0 0, .bool false, .slice none 0 0, .int .i64 0, .int .i64 0, .string ⟨#[]⟩, .int .i64 0, .string ⟨#[]⟩, .int .i64 0] 29)).setRow w5.heap.size C2) := below_setRow hba (Nat.le_refl _) _
    have HIN6 := Lib.hid (hin5.below hb6)
    have hb46 := hb5.trans (hb6.mono hb5.size)
    have HB6 := Lib.hid (HB4.out.trans (hb46.mono HB4.out.size))
    have HX6 : Hid (TwoS b0 w5.heap.size C1 C2 ((w5.alloc (.cells #[.int .i64 0, .string ⟨#[]⟩, .int .i64 0, .int .i64 0, .int .i64 0, .slice none 0 0, .bool false, .slice none 0 0, .int .i64 0, .int .i64 0, .string ⟨#[]⟩, .int .i64 0, .string ⟨#[]⟩, .int .i64 0] 29)).setRow w5.heap.size C2)) := Lib.hid ⟨HH4.out.below hb46 HH4.out.lt, hh6⟩
    have HU6 := Lib.hid hb46
    clear hin5 hba hb6 hh6 hb5 hb46 HH4
    try simp only [Act.put]
    generalize (w5.alloc (.cells #[.int .i64 0, .string ⟨#[]⟩, .int .i64 0, .int .i64 0, .int .i64 0, .slice none 0 0, .bool false, .slice none 0 0, .int .i64 0, .int .i64 0, .string ⟨#[]⟩, .int .i64 0, .string ⟨#[]⟩, .int .i64 0] 29)).setRow w5.heap.size C2 = W6 at HIN6 HB6 HX6 HU6 ⊢
    generalize w5.heap.size = t at HX6 ⊢
    have hE6 := fun (W : World) (hb : Below W6.heap.size W6 W) => HEY.out W (HU6.out.trans (hb.mono HU6.out.size))
    have hL6 := fun (W : World) (hb : Below W6.heap.size W6 W) => HCL.out W (HU6.out.trans (hb.mono HU6.out.size))
    have hSM := fun (W : World) (A7 B7 : Option Addr) (ca7 cb7 : Nat) (hb : Below W6.heap.size W6 W) (h7 : EntIn W [] y.ent A7 ca7 B7 cb7) => esameV_any (u := y) (v := y) (HIN6.out.below hb) h7
    rw [HC2.out.1] at hSM
    rw [decide_eq_true rfl] at hSM
    have HE6 := Lib.hid hE6
    have HL6 := Lib.hid hL6
    have HSM := Lib.hid hSM
    have HZ := Lib.hid (And.intro HC1.out.2.1 HC2.out.2.1)
    clear hE6 hL6 hSM HEY HCL HU6 HIN6 HC1 HC2 HIN4 HB4
    have hx : TwoS b0 t C1 C2 W6.drew := HX6.out
    have hbd : Below W6.heap.size W6 W6.drew := (Below.refl _ W6).drew
    refine wp_region_held_drew (S := TwoS b0 t C1 C2) (by kernel_rfl) hx (fun hHeld => ?_)
    generalize W6.drew = WD at hx hbd hHeld ⊢
    first
    | (refine take_wanted (i := 0) (v := ?_) rfl rfl (by kernel_rfl) (by kernel_rfl) (by kernel_rfl) (fun _ _ _ h => h) (by rfl) (by assumption) ?_ ?_; rotate_left; (focus (intro w hSw; (try dsimp only at hSw); go_simp; first | done | with_reducible rfl)); (simp only [Act.at, List.setIfInBounds_toArray, List.set_cons_zero, List.set_cons_succ]))
    | (refine take_unwanted (i := 0) rfl rfl (by kernel_rfl) (by kernel_rfl) (by kernel_rfl) (fun _ _ _ h => h) (by rfl) (by assumption) ?_; (simp only [Act.at, List.setIfInBounds_toArray, List.set_cons_zero, List.set_cons_succ]))
    refine take_wanted (i := 1) (v := .agg C1) rfl rfl (by kernel_rfl) (by kernel_rfl) (by kernel_rfl) (fun _ _ _ h => h) (by rfl) (by assumption) (fun W hW => evLoad _ rfl rfl hW.1 HZ.out.1) ?_
    (simp only [Act.at, List.setIfInBounds_toArray, List.set_cons_zero, List.set_cons_succ])
    refine take_call (i := 2) (by kernel_rfl) rfl rfl (by rfl) (fun K hK => ?_)
    go_simp
    refine (HE6.out _ hbd).mono ?_
    rintro r w4 ⟨rfl, hb4⟩
    have hx4 : TwoS b0 t C1 C2 w4 := two_below hx hb4
    have hbd4 := hbd.trans (hb4.mono hbd.size)
    refine hK.out _ _ hx4 (fun hHeld => ?_)
    clear hK K
    try simp only [Act.put, List.setIfInBounds_toArray, List.set_cons_zero, List.set_cons_succ]
    clear hx hbd hb4
    have hx := hx4
    have hbd := hbd4
    clear hx4 hbd4
    generalize w4 = w5 at *
    first
    | (refine take_wanted (i := 3) (v := ?_) rfl rfl (by kernel_rfl) (by kernel_rfl) (by kernel_rfl) (fun _ _ _ h => h) (by rfl) (by assumption) ?_ ?_; rotate_left; (focus (intro w hSw; (try dsimp only at hSw); go_simp; first | done | with_reducible rfl)); (simp only [Act.at, List.setIfInBounds_toArray, List.set_cons_zero, List.set_cons_succ]))
    | (refine take_unwanted (i := 3) rfl rfl (by kernel_rfl) (by kernel_rfl) (by kernel_rfl) (fun _ _ _ h => h) (by rfl) (by assumption) ?_; (simp only [Act.at, List.setIfInBounds_toArray, List.set_cons_zero, List.set_cons_succ]))
    first
    | (refine take_wanted (i := 4) (v := ?_) rfl rfl (by kernel_rfl) (by kernel_rfl) (by kernel_rfl) (fun _ _ _ h => h) (by rfl) (by assumption) ?_ ?_; rotate_left; (focus (intro w hSw; (try dsimp only at hSw); go_simp; first | done | with_reducible rfl)); (simp only [Act.at, List.setIfInBounds_toArray, List.set_cons_zero, List.set_cons_succ]))
    | (refine take_unwanted (i := 4) rfl rfl (by kernel_rfl) (by kernel_rfl) (by kernel_rfl) (fun _ _ _ h => h) (by rfl) (by assumption) ?_; (simp only [Act.at, List.setIfInBounds_toArray, List.set_cons_zero, List.set_cons_succ]))
    first
    | (refine take_wanted (i := 5) (v := ?_) rfl rfl (by kernel_rfl) (by kernel_rfl) (by kernel_rfl) (fun _ _ _ h => h) (by rfl) (by assumption) ?_ ?_; rotate_left; (focus (intro w hSw; (try dsimp only at hSw); go_simp; first | done | with_reducible rfl)); (simp only [Act.at, List.setIfInBounds_toArray, List.set_cons_zero, List.set_cons_succ]))
    | (refine take_unwanted (i := 5) rfl rfl (by kernel_rfl) (by kernel_rfl) (by kernel_rfl) (fun _ _ _ h => h) (by rfl) (by assumption) ?_; (simp only [Act.at, List.setIfInBounds_toArray, List.set_cons_zero, List.set_cons_succ]))
    first
    | (refine take_wanted (i := 6) (v := ?_) rfl rfl (by kernel_rfl) (by kernel_rfl) (by kernel_rfl) (fun _ _ _ h => h) (by rfl) (by assumption) ?_ ?_; rotate_left; (focus (intro w hSw; (try dsimp only at hSw); go_simp; first | done | with_reducible rfl)); (simp only [Act.at, List.setIfInBounds_toArray, List.set_cons_zero, List.set_cons_succ]))
    | (refine take_unwanted (i := 6) rfl rfl (by kernel_rfl) (by kernel_rfl) (by kernel_rfl) (fun _ _ _ h => h) (by rfl) (by assumption) ?_; (simp only [Act.at, List.setIfInBounds_toArray, List.set_cons_zero, List.set_cons_succ]))
    first
    | (refine take_wanted (i := 7) (v := ?_) rfl rfl (by kernel_rfl) (by kernel_rfl) (by kernel_rfl) (fun _ _ _ h => h) (by rfl) (by assumption) ?_ ?_; rotate_left; (focus (intro w hSw; (try dsimp only at hSw); go_simp; first | done | with_reducible rfl)); (simp only [Act.at, List.setIfInBounds_toArray, List.set_cons_zero, List.set_cons_succ]))
    | (refine take_unwanted (i := 7) rfl rfl (by kernel_rfl) (by kernel_rfl) (by kernel_rfl) (fun _ _ _ h => h) (by rfl) (by assumption) ?_; (simp only [Act.at, List.setIfInBounds_toArray, List.set_cons_zero, List.set_cons_succ]))
    first
    | (refine take_wanted (i := 8) (v := ?_) rfl rfl (by kernel_rfl) (by kernel_rfl) (by kernel_rfl) (fun _ _ _ h => h) (by rfl) (by assumption) ?_ ?_; rotate_left; (focus (intro w hSw; (try dsimp only at hSw); go_simp; first | done | with_reducible rfl)); (simp only [Act.at, List.setIfInBounds_toArray, List.set_cons_zero, List.set_cons_succ]))
    | (refine take_unwanted (i := 8) rfl rfl (by kernel_rfl) (by kernel_rfl) (by kernel_rfl) (fun _ _ _ h => h) (by rfl) (by assumption) ?_; (simp only [Act.at, List.setIfInBounds_toArray, List.set_cons_zero, List.set_cons_succ]))
    refine take_wanted (i := 9) (v := .agg C2) rfl rfl (by kernel_rfl) (by kernel_rfl) (by kernel_rfl) (fun _ _ _ h => h) (by rfl) (by assumption) (fun W hW => evLoad _ rfl rfl hW.2 HZ.out.2) ?_
    (simp only [Act.at, List.setIfInBounds_toArray, List.set_cons_zero, List.set_cons_succ])
    refine take_wanted (i := 10) (v := .agg C1) rfl rfl (by kernel_rfl) (by kernel_rfl) (by kernel_rfl) (fun _ _ _ h => h) (by rfl) (by assumption) (fun W hW => evLoad _ rfl rfl hW.1 HZ.out.1) ?_
    (simp only [Act.at, List.setIfInBounds_toArray, List.set_cons_zero, List.set_cons_succ])
    refine take_call (i := 11) (by kernel_rfl) rfl rfl (by rfl) (fun K hK => ?_)
    go_simp
    refine (HL6.out _ hbd).mono ?_
    rintro r w4 ⟨A7, B7, ca7, cb7, rfl, hin7, hb4⟩
    have HS7 := Lib.hid (fun (W : World) (hb : Below w4.heap.size w4 W) => HSM.out W A7 B7 ca7 cb7 ((hbd.trans (hb4.mono hbd.size)).trans (hb.mono (Nat.le_trans hbd.size hb4.size))) (hin7.below hb))
    obtain ⟨C7, hC7, -, -⟩ := evtOpen y A7 ca7 B7 cb7
    rw [hC7] at HS7 ⊢
    clear hC7 hin7 HSM
    have hx4 : TwoS b0 t C1 C2 w4 := two_below hx hb4
    have hbd4 := hbd.trans (hb4.mono hbd.size)
    refine hK.out _ _ hx4 (fun hHeld => ?_)
    clear hK K
    try simp only [Act.put, List.setIfInBounds_toArray, List.set_cons_zero, List.set_cons_succ]
    clear hx hbd hb4
    have hx := hx4
    have hbd := hbd4
    clear hx4 hbd4
    generalize w4 = w5 at *
    refine take_call (i := 12) (by kernel_rfl) rfl rfl (by rfl) (fun K hK => ?_)
    go_simp
    refine (HS7.out _ (Below.refl _ _)).mono ?_
    rintro r w4 ⟨rfl, hb4⟩
    have hx4 : TwoS b0 t C1 C2 w4 := two_below hx hb4
    have hbd4 := hbd.trans (hb4.mono hbd.size)
    refine hK.out _ _ hx4 (fun hHeld => ?_)
    clear hK K
    try simp only [Act.put, List.setIfInBounds_toArray, List.set_cons_zero, List.set_cons_succ]
    clear hx hbd hb4
    have hx := hx4
    have hbd := hbd4
    clear hx4 hbd4
    generalize w4 = w5 at *
    first
    | (refine take_wanted (i := 13) (v := ?_) rfl rfl (by kernel_rfl) (by kernel_rfl) (by kernel_rfl) (fun _ _ _ h => h) (by rfl) (by assumption) ?_ ?_; rotate_left; (focus (intro w hSw; (try dsimp only at hSw); go_simp; first | done | with_reducible rfl)); (simp only [Act.at, List.setIfInBounds_toArray, List.set_cons_zero, List.set_cons_succ]))
    | (refine take_unwanted (i := 13) rfl rfl (by kernel_rfl) (by kernel_rfl) (by kernel_rfl) (fun _ _ _ h => h) (by rfl) (by assumption) ?_; (simp only [Act.at, List.setIfInBounds_toArray, List.set_cons_zero, List.set_cons_succ]))
    first
    | (refine take_wanted (i := 14) (v := ?_) rfl rfl (by kernel_rfl) (by kernel_rfl) (by kernel_rfl) (fun _ _ _ h => h) (by rfl) (by assumption) ?_ ?_; rotate_left; (focus (intro w hSw; (try dsimp only at hSw); go_simp; first | done | with_reducible rfl)); (simp only [Act.at, List.setIfInBounds_toArray, List.set_cons_zero, List.set_cons_succ]))
    | (refine take_unwanted (i := 14) rfl rfl (by kernel_rfl) (by kernel_rfl) (by kernel_rfl) (fun _ _ _ h => h) (by rfl) (by assumption) ?_; (simp only [Act.at, List.setIfInBounds_toArray, List.set_cons_zero, List.set_cons_succ]))
    refine take_call (i := 15) (by kernel_rfl) rfl rfl (by rfl) (fun K hK => ?_)
    go_simp
    refine (HAW.out _).mono ?_
    rintro r w4 ⟨rfl, hb4⟩
    have hx4 : TwoS b0 t C1 C2 w4 := two_below hx hb4
    have hbd4 := hbd.trans (hb4.mono hbd.size)
    refine hK.out _ _ hx4 (fun hHeld => ?_)
    clear hK K
    try simp only [Act.put, List.setIfInBounds_toArray, List.set_cons_zero, List.set_cons_succ]
    clear hx hbd hb4
    have hx := hx4
    have hbd := hbd4
    clear hx4 hbd4
    generalize w4 = w5 at *
    first
    | (refine take_wanted (i := 16) (v := ?_) rfl rfl (by kernel_rfl) (by kernel_rfl) (by kernel_rfl) (fun _ _ _ h => h) (by rfl) (by assumption) ?_ ?_; rotate_left; (focus (intro w hSw; (try dsimp only at hSw); go_simp; first | done | with_reducible rfl)); (simp only [Act.at, List.setIfInBounds_toArray, List.set_cons_zero, List.set_cons_succ]))
    | (refine take_unwanted (i := 16) rfl rfl (by kernel_rfl) (by kernel_rfl) (by kernel_rfl) (fun _ _ _ h => h) (by rfl) (by assumption) ?_; (simp only [Act.at, List.setIfInBounds_toArray, List.set_cons_zero, List.set_cons_succ]))
    first
    | (refine take_wanted (i := 17) (v := ?_) rfl rfl (by kernel_rfl) (by kernel_rfl) (by kernel_rfl) (fun _ _ _ h => h) (by rfl) (by assumption) ?_ ?_; rotate_left; (focus (intro w hSw; (try dsimp only at hSw); go_simp; first | done | with_reducible rfl)); (simp only [Act.at, List.setIfInBounds_toArray, List.set_cons_zero, List.set_cons_succ]))
    | (refine take_unwanted (i := 17) rfl rfl (by kernel_rfl) (by kernel_rfl) (by kernel_rfl) (fun _ _ _ h => h) (by rfl) (by assumption) ?_; (simp only [Act.at, List.setIfInBounds_toArray, List.set_cons_zero, List.set_cons_succ]))
    refine wpAnyH_done (by kernel_rfl) ?_ _
    go_wp2_with fail
    go_ret
    exact ⟨rfl, HB6.out.trans (hbd.mono HB6.out.size)⟩
set_option maxRecDepth 100000 in
theorem eventBytes_contract {H : Type} (enc : TypeId × Value → H) (W : World) (base : Nat) (args : Array Value) (ds gs : List (DataW H)) (before : List MemPlace)
    (hval : ∀ (j : Nat) t v, Try.f3.params[j]? = some t → args[j]? = some v → Value.okWide Try.prog W .any base t v)
    (hW : DataW.Whole enc Try.prog Try.f3.params.toList Rows.eventBytesSpec.vars false W args.toList ds gs before)
    (hsz : (DataW.weightsEach Try.prog (Try.f3.params.toList ++ Rows.eventBytesSpec.plain.varTypes Try.prog) (ds ++ gs)).all (· ≤ reachBytes) = true) :
    Calls Try.prog 3 args W fun e W' =>
      ((Rows.eventBytesSpec.fn H (ds ++ gs)).results = [.lit (.bool true)] ∧ (Rows.eventBytesSpec.fn H (ds ++ gs)).args = ds ∧ (Rows.eventBytesSpec.fn H (ds ++ gs)).vars = []) ∧ e = .returned (.bool true) ∧ Below W.heap.size W W' := by
  obtain ⟨p, q, hA0, hV, rfl, hfz, hnd⟩ := hW
  have hA : DataW.TrodAll enc Try.prog W 0 (fun _ => true) true Try.f3.params.toList args.toList ds p := hA0
  rw [Try.params3] at hA hval hsz
  obtain ⟨v0, d0, rfl, rfl, h0⟩ := trodAll_one hA
  obtain ⟨rfl, rfl⟩ := trodVars_none hV
  obtain ⟨x_v, A_v, ca_v, B_v, cb_v, rfl, in_v⟩ := event_open (hval 0 29 v0 rfl rfl) h0
  exact (eventBytes_any in_v).mono fun e W' h => ⟨⟨rfl, rfl, rfl⟩, h⟩
end Go.Proofs.Ytihhgingdgepcaa
