/-
  The contract of EventRoom.
-/
import Derived.Test.YtihhgingdgepcaaEvAw
import Derived.Test.YtihhgingdgepcaaEvG
import Derived.Test.YtihhgingdgepcaaEvLd
import Derived.Test.YtihhgingdgepcaaEvArg
import Derived.Test.YtihhgingdgepcaaLaw
import Derived.Test.YtihhgingdgepcaaRows
namespace Go.Proofs.Ytihhgingdgepcaa
open Go.ChangeShapes Go.WideShapes Go.ChangeAt Go.RowKit
open Go.ChangeMaps (open_string shut_string)
set_option linter.unusedVariables false

set_option maxHeartbeats 8000000 in
set_option maxRecDepth 100000 in
theorem eventRoom_any {w : World} {v : Evt} {A B : Option Addr} {ca cb : Nat} (hin : EntIn w [] v.ent A ca B cb) :
    Calls Try.prog 6 #[v.val A ca B cb] w fun r w' => r = .returned (.bool true) ∧ Below w.heap.size w w' := by
  have hF := fun (W : World) (hb : Below w.heap.size w W) (s : List Nat) (hs : ∀ x ∈ s, x < W.heap.size) => fewV_any (v := v) (EntIn.at hin hb (s := []) (fun x hx => by cases hx)) s hs
  have HBY := Lib.hid (fun (W : World) (A1 B1 : Option Addr) (ca1 cb1 : Nat) (h : EntIn W [] (Ev.few v).ent A1 ca1 B1 cb1) => bytesV_any (v := Ev.few v) h (few_evtFew v))
  have HLN := Lib.hid (Ev.bytes_len (Ev.few v))
  obtain ⟨CS, hCS, hsz, -⟩ := evtOpen v A ca B cb
  rw [hCS] at hF ⊢
  have HF := Lib.hid hF
  have HSZ := Lib.hid hsz
  clear hF hCS hin hsz
  generalize Ev.few v = x at *
  have HAW := Lib.hid eawake_any
  have hh := Has.made w 29 CS
  have hb0 : Below w.heap.size w (w.alloc (.cells CS 29)) := (Below.refl _ w).alloc (Nat.le_refl _) _
  have hs0 : w.heap.size < (w.alloc (.cells CS 29)).heap.size := by rw [asize]; omega
  go_enter Try.func6, Try.ntmps6
  go_upto_region 1 with fail
  generalize w.alloc (.cells CS 29) = W0 at hh hb0 hs0 ⊢
  obtain ⟨b0, hq0⟩ : ∃ b0, w.heap.size = b0 := ⟨_, rfl⟩
  rw [hq0] at hh hs0 ⊢
  have HH := Lib.hid hh
  have HB := Lib.hid hb0
  have HQ := Lib.hid hq0
  clear hh hb0 hq0
  refine wp_region_lit ?_
  refine wpList_load_row rfl 29 (.tmp 1) rfl b0 ?e1 _ _ _ _ HH.out Try.underlying29 rfl (by rw [HSZ.out]; exact evtSize) ?_
  case e1 => rfl
  go_wp2_with fail
  refine (HF.out _ HB.out [b0] (by intro x hx; rw [List.mem_singleton.1 hx]; exact hs0)).mono ?_
  rintro r w1 ⟨A1, B1, ca1, cb1, rfl, hin1, hb1⟩
  obtain ⟨CS1, hCS1, hsz1, hone1⟩ := evtOpen x A1 ca1 B1 cb1
  rw [hCS1]
  have HH1 := Lib.hid (HH.out.below hb1 hs0)
  have HB1 := Lib.hid (HB.out.trans (hb1.mono HB.out.size))
  have hs1 : b0 < w1.heap.size := Nat.lt_of_lt_of_le hs0 hb1.size
  have HIN1 := Lib.hid hin1
  have HSZ1 := Lib.hid hsz1
  have HONE := Lib.hid hone1
  have HCS1 := Lib.hid hCS1
  clear hCS1 hin1 hb1 HF HH HB hsz1 hone1 hs0
  go_upto_region 2 with (refine wpList_store_row rfl 29 (.tmp 1) (.tmp 4) rfl b0 CS1 ?e2 ?e3 _ _ HH1.out (by rw [HSZ1.out]; exact evtSize) (by rw [HSZ.out, HSZ1.out]) HONE.out ?_; (case e2 => rfl); (case e3 => rfl))
  have hh2 : Has (w1.setRow b0 CS1) b0 29 CS1 := setRow_heap _ _ _ _ _ _ HH1.out
  have hin2 := (HIN1.out.mv (Mv.of_only (onlySetRow w1 b0 CS1) (s := [b0]) (by simp)) (fun x hx => hx)).sub (t := []) (by simp)
  have hb2 : Below w.heap.size w (w1.setRow b0 CS1) := below_setRow HB1.out (by have := HQ.out; omega) _
  clear HIN1 HB1 HH1
  simp only [Act.put]
  generalize w1.setRow b0 CS1 = W2 at hh2 hin2 hb2 ⊢
  have hBY := HBY.out W2 A1 B1 ca1 cb1 hin2
  rw [HCS1.out] at hBY
  have HBY2 := Lib.hid hBY
  have HH2 := Lib.hid hh2
  have HB2 := Lib.hid hb2
  clear hBY HBY hin2 hh2 hb2 HCS1
  generalize Ev.bytes x = bs at *
  have hln : (bs.length : Int) ≤ 6000 := by have := HLN.out; omega
  refine wp_region_lit ?_
  refine wpList_load_row rfl 29 (.tmp 1) rfl b0 ?e1 _ _ _ _ HH2.out Try.underlying29 rfl (by rw [HSZ1.out]; exact evtSize) ?_
  case e1 => rfl
  go_wp2_with fail
  refine HBY2.out.mono ?_
  rintro r w3 ⟨rfl, hb3⟩
  have HB3 := Lib.hid (HB2.out.trans (hb3.mono HB2.out.size))
  clear hb3 HB2 HBY2 HH2
  go_wp2_with fail
  refine (HAW.out _).mono ?_
  rintro r w4 ⟨rfl, hb4⟩
  go_wp2_with fail
  go_ret
  exact ⟨rfl, HB3.out.trans (hb4.mono HB3.out.size)⟩
set_option maxRecDepth 100000 in
theorem eventRoom_contract {H : Type} (enc : TypeId × Value → H) (W : World) (base : Nat) (args : Array Value) (ds gs : List (DataW H)) (before : List MemPlace)
    (hval : ∀ (j : Nat) t v, Try.f6.params[j]? = some t → args[j]? = some v → Value.okWide Try.prog W .any base t v)
    (hW : DataW.Whole enc Try.prog Try.f6.params.toList Rows.eventRoomSpec.vars false W args.toList ds gs before)
    (hsz : (DataW.weightsEach Try.prog (Try.f6.params.toList ++ Rows.eventRoomSpec.plain.varTypes Try.prog) (ds ++ gs)).all (· ≤ reachBytes) = true) :
    Calls Try.prog 6 args W fun e W' =>
      ((Rows.eventRoomSpec.fn H (ds ++ gs)).results = [.lit (.bool true)] ∧ (Rows.eventRoomSpec.fn H (ds ++ gs)).args = ds ∧ (Rows.eventRoomSpec.fn H (ds ++ gs)).vars = []) ∧ e = .returned (.bool true) ∧ Below W.heap.size W W' := by
  obtain ⟨p, q, hA0, hV, rfl, hfz, hnd⟩ := hW
  have hA : DataW.TrodAll enc Try.prog W 0 (fun _ => true) true Try.f6.params.toList args.toList ds p := hA0
  rw [Try.params6] at hA hval hsz
  obtain ⟨v0, d0, rfl, rfl, h0⟩ := trodAll_one hA
  obtain ⟨rfl, rfl⟩ := trodVars_none hV
  obtain ⟨x_v, A_v, ca_v, B_v, cb_v, rfl, in_v⟩ := event_open (hval 0 29 v0 rfl rfl) h0
  exact (eventRoom_any in_v).mono fun e W' h => ⟨⟨rfl, rfl, rfl⟩, h⟩

end Go.Proofs.Ytihhgingdgepcaa
