/-
  The contract of EventReads.
-/
import Derived.Test.YtihhgingdgepcaaEvAw
import Derived.Test.YtihhgingdgepcaaEvT
import Derived.Test.YtihhgingdgepcaaEvRefF
import Derived.Test.YtihhgingdgepcaaEvRefH
import Derived.Test.YtihhgingdgepcaaEvLd
import Derived.Test.YtihhgingdgepcaaLaw
import Derived.Test.YtihhgingdgepcaaRows
namespace Go.Proofs.Ytihhgingdgepcaa
open Go.ChangeShapes Go.WideShapes Go.ChangeAt Go.RowKit
open Go.ChangeMaps (open_string shut_string)
set_option linter.unusedVariables false

set_option maxHeartbeats 16000000 in
set_option maxRecDepth 100000 in
theorem eventReads_any (l : List UInt8) (w : World) :
    Calls Try.prog 4 #[.string (S l)] w fun r w' => r = .returned (.bool true) ∧ Below w.heap.size w w' := by
  have hlen : (l.take 6000).length ≤ 4000000000 := by rw [List.length_take]; omega
  have hR := fun W => readV_any (l.take 6000) hlen W
  have HOK := Lib.hid (fun h => Ev.readV_back (s := l.take 6000) h)
  have HNO := Lib.hid (fun h => Ev.readV_none (s := l.take 6000) h)
  have HSH := Lib.hid (fun (h : ¬ (6000 : Int) < (l.length : Int)) => List.take_of_length_le (l := l) (i := 6000) (by omega))
  have HFEW : Hid (EvtFew (Ev.readV (l.take 6000)).1) := Lib.hid (by
    unfold Ev.readV
    split
    · exact ⟨zero_few, Nat.zero_le _, Nat.zero_le _⟩
    · split
      · exact rV_few _
      · exact ⟨zero_few, Nat.zero_le _, Nat.zero_le _⟩)
  obtain ⟨⟨x, e⟩, hx⟩ : ∃ x, Ev.readV (l.take 6000) = x := ⟨_, rfl⟩
  rw [hx] at HOK HNO HFEW hR
  have HR := Lib.hid hR
  clear hx hR hlen
  dsimp only at HOK HNO HFEW HR
  have HAW := Lib.hid eawake_any
  have HZV : Hid (Evt.zero.val none 0 none 0 = .agg #[.int .i64 0, .string ⟨#[]⟩, .int .i64 0, .int .i64 0, .int .i64 0, .slice none 0 0, .bool false, .slice none 0 0, .int .i64 0, .int .i64 0, .string ⟨#[]⟩, .int .i64 0, .string ⟨#[]⟩, .int .i64 0]) := Lib.hid rfl
  go_enter Try.func4, Try.ntmps4
  by_cases h6 : (6000 : Int) < (l.length : Int)
  case' pos =>
    go_upto_region 3 with fail
    generalize l.take 6000 = m at *
    clear h6 HSH
  case' neg =>
    go_upto_region 3 with fail
    have hl := HSH.out h6
    rw [hl] at HOK HR
    clear h6 HSH hl
    generalize l = m at *
  all_goals
    go_wp2_with fail
    refine (HR.out _).mono ?_
    rintro r w1 ⟨A, B, ca, cb, rfl, hin, hb1⟩
    obtain ⟨CS, hCS, hsz, hone⟩ := evtOpen x A ca B cb
    rw [hCS]
    have HC := Lib.hid (And.intro hCS (And.intro hsz hone))
    have HB1 := Lib.hid hb1
    clear hCS hsz hone hb1 HR
    go_upto_region 4 with (refine wpList_store_row rfl 29 (.tmp 3) (.tmp 13) rfl w1.heap.size CS ?e2 ?e3 _ _ (heap_alloc_new _ _) (by rw [HC.out.2.1]; exact evtSize) (by rw [HC.out.2.1]; rfl) HC.out.2.2 ?_; (case e2 => rfl); (case e3 => rfl))
    have hba : Below w1.heap.size w1 (w1.alloc (.cells #[.int .i64 0, .string ⟨#[]⟩, .int .i64 0, .int .i64 0, .int .i64 0, .slice none 0 0, .bool false, .slice none 0 0, .int .i64 0, .int .i64 0, .string ⟨#[]⟩, .int .i64 0, .string ⟨#[]⟩, .int .i64 0] 29)) := (Below.refl _ w1).alloc (Nat.le_refl _) _
    have hh2 : Has ((w1.alloc (.cells #[.int .i64 0, .string ⟨#[]⟩, .int .i64 0, .int .i64 0, .int .i64 0, .slice none 0 0, .bool false, .slice none 0 0, .int .i64 0, .int .i64 0, .string ⟨#[]⟩, .int .i64 0, .string ⟨#[]⟩, .int .i64 0] 29)).setRow w1.heap.size CS) w1.heap.size 29 CS := setRow_heap _ _ _ _ _ _ (heap_alloc_new _ _)
    have hb2 : Below w1.heap.size w1 ((w1.alloc (.cells #[.int .i64 0, .string ⟨#[]⟩, .int .i64 0, .int .i64 0, .int .i64 0, .slice none 0 0, .bool false, .slice none 0 0, .int .i64 0, .int .i64 0, .string ⟨#[]⟩, .int .i64 0, .string ⟨#[]⟩, .int .i64 0] 29)).setRow w1.heap.size CS) := below_setRow hba (Nat.le_refl _) _
    have hin2 := hin.below hb2
    have hs2 : w1.heap.size < ((w1.alloc (.cells #[.int .i64 0, .string ⟨#[]⟩, .int .i64 0, .int .i64 0, .int .i64 0, .slice none 0 0, .bool false, .slice none 0 0, .int .i64 0, .int .i64 0, .string ⟨#[]⟩, .int .i64 0, .string ⟨#[]⟩, .int .i64 0] 29)).setRow w1.heap.size CS).heap.size := by rw [setRow_size, asize]; omega
    have HB2 := Lib.hid (HB1.out.trans (hb2.mono HB1.out.size))
    clear hin hba hb2 HB1
    try simp only [Act.put]
    generalize (w1.alloc (.cells #[.int .i64 0, .string ⟨#[]⟩, .int .i64 0, .int .i64 0, .int .i64 0, .slice none 0 0, .bool false, .slice none 0 0, .int .i64 0, .int .i64 0, .string ⟨#[]⟩, .int .i64 0, .string ⟨#[]⟩, .int .i64 0] 29)).setRow w1.heap.size CS = W2 at hh2 hin2 hs2 HB2 ⊢
    generalize w1.heap.size = t at hh2 hs2 ⊢
    have HH2 := Lib.hid hh2
    have HS2 := Lib.hid (fun (W : World) (hb : Below W2.heap.size W2 W) => EntIn.below hin2 hb)
    clear hh2 hin2
    by_cases he : e = 0
    · subst he
      obtain ⟨q1, q2, q3⟩ := HOK.out rfl
      have hRT := fun (W : World) (hb : Below W2.heap.size W2 W) => erightV_any (v := x) (HS2.out W hb) HFEW.out
      have hCL := fun (W : World) (hb : Below W2.heap.size W2 W) => ecleanV_any (v := x) (HS2.out W hb)
      have hBY := fun (W : World) (hb : Below W2.heap.size W2 W) => ebytesV_any (v := x) (HS2.out W hb) q1
      have hSM := fun (W : World) (A6 B6 : Option Addr) (ca6 cb6 : Nat) (hb : Below W2.heap.size W2 W) (h6 : EntIn W [] x.ent A6 ca6 B6 cb6) => esameV_any (u := x) (v := x) (HS2.out W hb) h6
      unfold EvtPost at hCL
      rw [q1] at hRT
      rw [q2] at hCL
      rw [q3] at hBY
      rw [HC.out.1] at hRT hCL hBY hSM
      rw [decide_eq_true rfl] at hSM
      have HRT := Lib.hid hRT
      have HCL := Lib.hid hCL
      have HBY := Lib.hid hBY
      have HSM := Lib.hid hSM
      have HZ := Lib.hid HC.out.2.1
      have hmm : (m == m) = true := by rw [beq_self_eq_true]
      clear hRT hCL hBY hSM q1 q2 q3 HOK HNO HC HFEW HS2
      go_upto_region 6 with fail
      have hx : Has W2.drew t 29 CS := HH2.out
      have hbd : Below W2.heap.size W2 W2.drew := (Below.refl _ W2).drew
      have hlt2 : ∀ {W : World}, Below W2.heap.size W2 W → t < W.heap.size := fun {W} hW => Nat.lt_of_lt_of_le hs2 hW.size
      refine wp_region_held_drew (S := fun W => Has W t 29 CS) (by kernel_rfl) hx (fun hHeld => ?_)
      generalize W2.drew = WD at hx hbd hHeld ⊢
      refine take_wanted (i := 0) (v := .agg CS) rfl rfl (by kernel_rfl) (by kernel_rfl) (by kernel_rfl) (fun _ _ _ h => h) (by rfl) (by assumption) (fun W hW => evLoad _ rfl rfl hW HZ.out) ?_
      (simp only [Act.at, List.setIfInBounds_toArray, List.set_cons_zero, List.set_cons_succ])
      refine take_call (i := 1) (by kernel_rfl) rfl rfl (by rfl) (fun K hK => ?_)
      go_simp
      refine (HRT.out _ hbd).mono ?_
      rintro r w4 ⟨rfl, hb4⟩
      have hx4 : (fun W => Has W t 29 CS) w4 := hx.below hb4 (hlt2 hbd)
      have hbd4 := hbd.trans (hb4.mono hbd.size)
      refine hK.out _ _ hx4 (fun hHeld => ?_)
      clear hK K
      try simp only [Act.put, List.setIfInBounds_toArray, List.set_cons_zero, List.set_cons_succ]
      clear hx hbd hb4
      have hx := hx4
      have hbd := hbd4
      clear hx4 hbd4
      generalize w4 = w5 at *
      first
      | (refine take_wanted (i := 2) (v := ?_) rfl rfl (by kernel_rfl) (by kernel_rfl) (by kernel_rfl) (fun _ _ _ h => h) (by rfl) (by assumption) ?_ ?_; rotate_left; (focus (intro w hSw; (try dsimp only at hSw); go_simp; first | done | with_reducible rfl)); (simp only [Act.at, List.setIfInBounds_toArray, List.set_cons_zero, List.set_cons_succ]))
      | (refine take_unwanted (i := 2) rfl rfl (by kernel_rfl) (by kernel_rfl) (by kernel_rfl) (fun _ _ _ h => h) (by rfl) (by assumption) ?_; (simp only [Act.at, List.setIfInBounds_toArray, List.set_cons_zero, List.set_cons_succ]))
      refine take_wanted (i := 3) (v := .agg CS) rfl rfl (by kernel_rfl) (by kernel_rfl) (by kernel_rfl) (fun _ _ _ h => h) (by rfl) (by assumption) (fun W hW => evLoad _ rfl rfl hW HZ.out) ?_
      (simp only [Act.at, List.setIfInBounds_toArray, List.set_cons_zero, List.set_cons_succ])
      refine take_wanted (i := 4) (v := .agg CS) rfl rfl (by kernel_rfl) (by kernel_rfl) (by kernel_rfl) (fun _ _ _ h => h) (by rfl) (by assumption) (fun W hW => evLoad _ rfl rfl hW HZ.out) ?_
      (simp only [Act.at, List.setIfInBounds_toArray, List.set_cons_zero, List.set_cons_succ])
      refine take_call (i := 5) (by kernel_rfl) rfl rfl (by rfl) (fun K hK => ?_)
      go_simp
      refine (HCL.out _ hbd).mono ?_
      rintro r w4 ⟨A6, B6, ca6, cb6, rfl, hin6, hb4⟩
      have HS6 := Lib.hid (fun (W : World) (hb : Below w4.heap.size w4 W) => HSM.out W A6 B6 ca6 cb6 ((hbd.trans (hb4.mono hbd.size)).trans (hb.mono (Nat.le_trans hbd.size hb4.size))) (hin6.below hb))
      obtain ⟨C6, hC6, -, -⟩ := evtOpen x A6 ca6 B6 cb6
      rw [hC6] at HS6 ⊢
      clear hC6 hin6 HSM
      have hx4 : (fun W => Has W t 29 CS) w4 := hx.below hb4 (hlt2 hbd)
      have hbd4 := hbd.trans (hb4.mono hbd.size)
      refine hK.out _ _ hx4 (fun hHeld => ?_)
      clear hK K
      try simp only [Act.put, List.setIfInBounds_toArray, List.set_cons_zero, List.set_cons_succ]
      clear hx hbd hb4
      have hx := hx4
      have hbd := hbd4
      clear hx4 hbd4
      generalize w4 = w5 at *
      refine take_call (i := 6) (by kernel_rfl) rfl rfl (by rfl) (fun K hK => ?_)
      go_simp
      refine (HS6.out _ (Below.refl _ _)).mono ?_
      rintro r w4 ⟨rfl, hb4⟩
      have hx4 : (fun W => Has W t 29 CS) w4 := hx.below hb4 (hlt2 hbd)
      have hbd4 := hbd.trans (hb4.mono hbd.size)
      refine hK.out _ _ hx4 (fun hHeld => ?_)
      clear hK K
      try simp only [Act.put, List.setIfInBounds_toArray, List.set_cons_zero, List.set_cons_succ]
      clear hx hbd hb4
      have hx := hx4
      have hbd := hbd4
      clear hx4 hbd4
      generalize w4 = w5 at *
      first
      | (refine take_wanted (i := 7) (v := ?_) rfl rfl (by kernel_rfl) (by kernel_rfl) (by kernel_rfl) (fun _ _ _ h => h) (by rfl) (by assumption) ?_ ?_; rotate_left; (focus (intro w hSw; (try dsimp only at hSw); go_simp; first | done | with_reducible rfl)); (simp only [Act.at, List.setIfInBounds_toArray, List.set_cons_zero, List.set_cons_succ]))
      | (refine take_unwanted (i := 7) rfl rfl (by kernel_rfl) (by kernel_rfl) (by kernel_rfl) (fun _ _ _ h => h) (by rfl) (by assumption) ?_; (simp only [Act.at, List.setIfInBounds_toArray, List.set_cons_zero, List.set_cons_succ]))
      first
      | (refine take_wanted (i := 8) (v := ?_) rfl rfl (by kernel_rfl) (by kernel_rfl) (by kernel_rfl) (fun _ _ _ h => h) (by rfl) (by assumption) ?_ ?_; rotate_left; (focus (intro w hSw; (try dsimp only at hSw); go_simp; first | done | with_reducible rfl)); (simp only [Act.at, List.setIfInBounds_toArray, List.set_cons_zero, List.set_cons_succ]))
      | (refine take_unwanted (i := 8) rfl rfl (by kernel_rfl) (by kernel_rfl) (by kernel_rfl) (fun _ _ _ h => h) (by rfl) (by assumption) ?_; (simp only [Act.at, List.setIfInBounds_toArray, List.set_cons_zero, List.set_cons_succ]))
      refine take_wanted (i := 9) (v := .agg CS) rfl rfl (by kernel_rfl) (by kernel_rfl) (by kernel_rfl) (fun _ _ _ h => h) (by rfl) (by assumption) (fun W hW => evLoad _ rfl rfl hW HZ.out) ?_
      (simp only [Act.at, List.setIfInBounds_toArray, List.set_cons_zero, List.set_cons_succ])
      first
      | (refine take_wanted (i := 11) (v := ?_) rfl rfl (by kernel_rfl) (by kernel_rfl) (by kernel_rfl) (fun _ _ _ h => h) (by rfl) (by assumption) ?_ ?_; rotate_left; (focus (intro w hSw; (try dsimp only at hSw); go_simp; first | done | with_reducible rfl)); (simp only [Act.at, List.setIfInBounds_toArray, List.set_cons_zero, List.set_cons_succ]))
      | (refine take_unwanted (i := 11) rfl rfl (by kernel_rfl) (by kernel_rfl) (by kernel_rfl) (fun _ _ _ h => h) (by rfl) (by assumption) ?_; (simp only [Act.at, List.setIfInBounds_toArray, List.set_cons_zero, List.set_cons_succ]))
      refine take_call (i := 10) (by kernel_rfl) rfl rfl (by rfl) (fun K hK => ?_)
      go_simp
      refine (HBY.out _ hbd).mono ?_
      rintro r w4 ⟨rfl, hb4⟩
      have hx4 : (fun W => Has W t 29 CS) w4 := hx.below hb4 (hlt2 hbd)
      have hbd4 := hbd.trans (hb4.mono hbd.size)
      refine hK.out _ _ hx4 (fun hHeld => ?_)
      clear hK K
      try simp only [Act.put, List.setIfInBounds_toArray, List.set_cons_zero, List.set_cons_succ]
      clear hx hbd hb4
      have hx := hx4
      have hbd := hbd4
      clear hx4 hbd4
      generalize w4 = w5 at *
      first
      | (refine take_wanted (i := 12) (v := ?_) rfl rfl (by kernel_rfl) (by kernel_rfl) (by kernel_rfl) (fun _ _ _ h => h) (by rfl) (by assumption) ?_ ?_; rotate_left; (focus (intro w hSw; (try dsimp only at hSw); go_simp; first | done | with_reducible rfl)); (simp only [Act.at, List.setIfInBounds_toArray, List.set_cons_zero, List.set_cons_succ]))
      | (refine take_unwanted (i := 12) rfl rfl (by kernel_rfl) (by kernel_rfl) (by kernel_rfl) (fun _ _ _ h => h) (by rfl) (by assumption) ?_; (simp only [Act.at, List.setIfInBounds_toArray, List.set_cons_zero, List.set_cons_succ]))
      first
      | (refine take_wanted (i := 13) (v := ?_) rfl rfl (by kernel_rfl) (by kernel_rfl) (by kernel_rfl) (fun _ _ _ h => h) (by rfl) (by assumption) ?_ ?_; rotate_left; (focus (intro w hSw; (try dsimp only at hSw); go_simp; first | done | with_reducible rfl)); (simp only [Act.at, List.setIfInBounds_toArray, List.set_cons_zero, List.set_cons_succ]))
      | (refine take_unwanted (i := 13) rfl rfl (by kernel_rfl) (by kernel_rfl) (by kernel_rfl) (fun _ _ _ h => h) (by rfl) (by assumption) ?_; (simp only [Act.at, List.setIfInBounds_toArray, List.set_cons_zero, List.set_cons_succ]))
      first
      | (refine take_wanted (i := 14) (v := ?_) rfl rfl (by kernel_rfl) (by kernel_rfl) (by kernel_rfl) (fun _ _ _ h => h) (by rfl) (by assumption) ?_ ?_; rotate_left; (focus (intro w hSw; (try dsimp only at hSw); go_simp; first | done | with_reducible rfl)); (simp only [Act.at, List.setIfInBounds_toArray, List.set_cons_zero, List.set_cons_succ]))
      | (refine take_unwanted (i := 14) rfl rfl (by kernel_rfl) (by kernel_rfl) (by kernel_rfl) (fun _ _ _ h => h) (by rfl) (by assumption) ?_; (simp only [Act.at, List.setIfInBounds_toArray, List.set_cons_zero, List.set_cons_succ]))
      refine take_call (i := 15) (by kernel_rfl) rfl rfl (by rfl) (fun K hK => ?_)
      go_simp
      refine (HAW.out _).mono ?_
      rintro r w4 ⟨rfl, hb4⟩
      have hx4 : (fun W => Has W t 29 CS) w4 := hx.below hb4 (hlt2 hbd)
      have hbd4 := hbd.trans (hb4.mono hbd.size)
      refine hK.out _ _ hx4 (fun hHeld => ?_)
      clear hK K
      try simp only [Act.put, List.setIfInBounds_toArray, List.set_cons_zero, List.set_cons_succ]
      clear hx hbd hb4
      have hx := hx4
      have hbd := hbd4
      clear hx4 hbd4
      generalize w4 = w5 at *
      first
      | (refine take_wanted (i := 16) (v := ?_) rfl rfl (by kernel_rfl) (by kernel_rfl) (by kernel_rfl) (fun _ _ _ h => h) (by rfl) (by assumption) ?_ ?_; rotate_left; (focus (intro w hSw; (try dsimp only at hSw); go_simp; first | done | with_reducible rfl)); (simp only [Act.at, List.setIfInBounds_toArray, List.set_cons_zero, List.set_cons_succ]))
      | (refine take_unwanted (i := 16) rfl rfl (by kernel_rfl) (by kernel_rfl) (by kernel_rfl) (fun _ _ _ h => h) (by rfl) (by assumption) ?_; (simp only [Act.at, List.setIfInBounds_toArray, List.set_cons_zero, List.set_cons_succ]))
      first
      | (refine take_wanted (i := 17) (v := ?_) rfl rfl (by kernel_rfl) (by kernel_rfl) (by kernel_rfl) (fun _ _ _ h => h) (by rfl) (by assumption) ?_ ?_; rotate_left; (focus (intro w hSw; (try dsimp only at hSw); go_simp; first | done | with_reducible rfl)); (simp only [Act.at, List.setIfInBounds_toArray, List.set_cons_zero, List.set_cons_succ]))
      | (refine take_unwanted (i := 17) rfl rfl (by kernel_rfl) (by kernel_rfl) (by kernel_rfl) (fun _ _ _ h => h) (by rfl) (by assumption) ?_; (simp only [Act.at, List.setIfInBounds_toArray, List.set_cons_zero, List.set_cons_succ]))
      refine wpAnyH_done (by kernel_rfl) ?_ _
      go_wp2_with fail
      go_ret
      exact ⟨rfl, HB2.out.trans (hbd.mono HB2.out.size)⟩
    · have heb : (e != 0) = true := by rw [bne_iff_ne]; exact he
      have hxz := HNO.out he
      subst hxz
      have hSM := esameV_any (w := W2) (u := Evt.zero) (v := Evt.zero) (HS2.out W2 (Below.refl _ _)) (EntIn.zero W2)
      rw [HC.out.1, HZV.out, decide_eq_true rfl] at hSM
      have HSM := Lib.hid hSM
      have HZ := Lib.hid HC.out.2.1
      clear hSM he HOK HNO HC HS2 HFEW
      go_wp2_with (refine wpList_evLoad (by rfl) (.tmp 3) rfl t CS ?e1 HH2.out HZ.out ?_; (case e1 => rfl))
      refine HSM.out.mono ?_
      rintro r w3 ⟨rfl, hb3⟩
      have HB3 := Lib.hid (HB2.out.trans (hb3.mono HB2.out.size))
      clear hb3 HB2 HSM
      go_wp2_with fail
      refine (HAW.out _).mono ?_
      rintro r w4 ⟨rfl, hb4⟩
      go_wp2_with fail
      go_ret
      exact ⟨rfl, HB3.out.trans (hb4.mono HB3.out.size)⟩
set_option maxRecDepth 100000 in
theorem eventReads_contract {H : Type} (enc : TypeId × Value → H) (W : World) (base : Nat) (args : Array Value) (ds gs : List (DataW H)) (before : List MemPlace)
    (hval : ∀ (j : Nat) t v, Try.f4.params[j]? = some t → args[j]? = some v → Value.okWide Try.prog W .any base t v)
    (hW : DataW.Whole enc Try.prog Try.f4.params.toList Rows.eventReadsSpec.vars false W args.toList ds gs before)
    (hsz : (DataW.weightsEach Try.prog (Try.f4.params.toList ++ Rows.eventReadsSpec.plain.varTypes Try.prog) (ds ++ gs)).all (· ≤ reachBytes) = true) :
    Calls Try.prog 4 args W fun e W' =>
      ((Rows.eventReadsSpec.fn H (ds ++ gs)).results = [.lit (.bool true)] ∧ (Rows.eventReadsSpec.fn H (ds ++ gs)).args = ds ∧ (Rows.eventReadsSpec.fn H (ds ++ gs)).vars = []) ∧ e = .returned (.bool true) ∧ Below W.heap.size W W' := by
  obtain ⟨p, q, hA0, hV, rfl, hfz, hnd⟩ := hW
  have hA : DataW.TrodAll enc Try.prog W 0 (fun _ => true) true Try.f4.params.toList args.toList ds p := hA0
  rw [Try.params4] at hA hval hsz
  obtain ⟨v0, d0, rfl, rfl, h0⟩ := trodAll_one hA
  obtain ⟨rfl, rfl⟩ := trodVars_none hV
  obtain ⟨s, rfl, rfl, rfl, max_s⟩ := open_string Try.underlying9 (hval 0 9 v0 rfl rfl) h0
  have len_s : s.data.toList.length ≤ reachBytes := sized_string hsz (j := 0) (t := 9) rfl rfl
  rw [← S_of s]
  exact (eventReads_any s.data.toList W).mono fun e W' h => ⟨⟨rfl, rfl, rfl⟩, h⟩
end Go.Proofs.Ytihhgingdgepcaa
