/-
  The contract of StateNobody.
-/
import Derived.Test.YtojemaaljjibiaaEvGm
import Derived.Test.YtojemaaljjibiaaAws
import Derived.Test.YtojemaaljjibiaaStaN
namespace Go.Proofs.Ytojemaaljjibiaa
open Go.RowKit
set_option linter.unusedVariables false

abbrev staZ : Array Value := #[.slice none 0 0, .map none, .slice none 0 0, .int .i64 0, .int .i64 0]
theorem twoKinds (w : World) (T U : TypeId) (cs1 cs2 : Array Value) : Has ((w.alloc (.cells cs1 T)).alloc (.cells cs2 U)) w.heap.size T cs1 ∧ Has ((w.alloc (.cells cs1 T)).alloc (.cells cs2 U)) (w.heap.size + 1) U cs2 := by
  have h1 := Has.made w T cs1
  have h2 := Has.made (w.alloc (.cells cs1 T)) U cs2
  rw [asize] at h2
  exact ⟨h1.below (stBox _ _) h1.lt, h2⟩
set_option maxRecDepth 100000 in
set_option maxHeartbeats 16000000 in
theorem stateNobody_any {w : World} {v : Evt} {A B : Option Addr} {ca cb : Nat} (hin : EntIn w [] v.ent A ca B cb) (n : Int) :
    Calls Try.prog 8 #[v.val A ca B cb, .int .i64 n] w fun r w' => r = .returned (.bool true) ∧ Below w.heap.size w w' := by
  have HFEW := Lib.hid (fun (W : World) (hb : Below w.heap.size w W) => fewV_any (EntIn.at hin hb (s := []) (fun x hx => by cases hx)) [] (by simp))
  have HAW := Lib.hid sawake_any
  obtain ⟨C0, e0, s0, o0⟩ := evtOpen v A ca B cb
  rw [e0] at HFEW ⊢
  clear e0 hin
  have hp := twoKinds w 37 58 C0 staZ
  have hup : Below w.heap.size w ((w.alloc (.cells C0 37)).alloc (.cells staZ 58)) := stPair _ _ _
  have hsz : ((w.alloc (.cells C0 37)).alloc (.cells staZ 58)).heap.size = w.heap.size + 2 := by rw [asize, asize]
  unfold staZ at *
  have HS0 := Lib.hid (And.intro s0 o0)
  clear s0 o0
  go_enter Try.func8, Try.ntmps8
  go_upto_region 3 with fail
  generalize (w.alloc (.cells C0 37)).alloc (.cells #[.slice none 0 0, .map none, .slice none 0 0, .int .i64 0, .int .i64 0] 58) = W0 at hp hup hsz ⊢
  obtain ⟨b0, hq0⟩ : ∃ b0, w.heap.size = b0 := ⟨_, rfl⟩
  rw [hq0] at hp hsz ⊢
  have HP := Lib.hid hp
  have HU := Lib.hid hup
  have HQ0 := Lib.hid (And.intro hq0 hsz)
  clear hp hup hsz hq0
  refine wp_region_lit ?_
  refine wpList_evLoad (by rfl) (.tmp 2) rfl b0 C0 ?e1 HP.out.1 HS0.out.1 ?_
  case e1 => rfl
  go_wp2_with fail
  refine (HFEW.out _ HU.out).mono ?_
  rintro r w2 ⟨A2, B2, ca2, cb2, rfl, hin2, hb2⟩
  generalize Ev.few v = u at *
  have HNC := Lib.hid (fun W => nCheck W u A2 ca2 B2 cb2)
  have HZA := Lib.hid (fun W (b : Nat) h => zApply (w := W) (b := b) h u A2 ca2 B2 cb2)
  obtain ⟨C1, e1, s1, o1⟩ := evtOpen u A2 ca2 B2 cb2
  rw [e1] at HNC HZA ⊢
  have HS1 := Lib.hid (And.intro s1 o1)
  have HB0 := Lib.hid (HP.out.1.below hb2 HP.out.1.lt)
  have HZ0 := Lib.hid (HP.out.2.below hb2 HP.out.2.lt)
  have HU2 := Lib.hid (HU.out.trans (hb2.mono HU.out.size))
  have HSZ : Hid (b0 + 2 ≤ w2.heap.size) := Lib.hid (by have := HQ0.out.2; have := hb2.size; omega)
  clear e1 s1 o1 hin2 hb2 HP HU HFEW
  go_upto_region 4 with (refine wpList_store_row rfl 37 (.tmp 2) (.tmp 12) rfl b0 C1 ?e2 ?e3 _ _ HB0.out (by rw [HS1.out.1]; exact evtSize) (by rw [HS0.out.1, HS1.out.1]) HS1.out.2 ?_; (case e2 => rfl); (case e3 => rfl))
  have hh2 : Has (w2.setRow b0 C1) b0 37 C1 := setRow_heap _ _ _ _ _ _ HB0.out
  have hz2 : Has (w2.setRow b0 C1) (b0 + 1) 58 #[.slice none 0 0, .map none, .slice none 0 0, .int .i64 0, .int .i64 0] := ((Mv.of_only (onlySetRow w2 b0 C1) (s := [b0]) (by simp)).block (b0 + 1) HZ0.out.lt (by simp)).trans HZ0.out
  have hu2 : Below w.heap.size w (w2.setRow b0 C1) := below_setRow HU2.out (by have := HQ0.out.1; omega) _
  simp only [Act.put]
  generalize w2.setRow b0 C1 = W2 at hh2 hz2 hu2 ⊢
  have HF2 := Lib.hid (And.intro hh2 (And.intro hz2 hu2))
  have HEN := Lib.hid (nEntry W2 n)
  clear hh2 hz2 hu2 HB0 HZ0 HU2 HSZ HS0
  go_wp2_with fail
  refine HEN.out.mono ?_
  rintro r w5 ⟨⟨⟨xid, xcls, xborn, xslot, xL, xgone, xH⟩, xA, xca, xB, xcb⟩, rfl, hb5⟩
  dsimp only [EntX.val]
  have hba := stBox w5 (.cells #[.string (S xid), .int .i64 xcls, .int .i64 xborn, .int .i64 xslot, .slice xA xL.length xca, .bool xgone, .slice xB xH.length xcb] 33)
  have hb6 : Below W2.heap.size W2 (w5.alloc (.cells #[.string (S xid), .int .i64 xcls, .int .i64 xborn, .int .i64 xslot, .slice xA xL.length xca, .bool xgone, .slice xB xH.length xcb] 33)) := hb5.trans (hba.mono hb5.size)
  clear hb5 hba HEN
  go_upto_region 5 with fail
  generalize w5.alloc (.cells #[.string (S xid), .int .i64 xcls, .int .i64 xborn, .int .i64 xslot, .slice xA xL.length xca, .bool xgone, .slice xB xH.length xcb] 33) = W6 at hb6 ⊢
  have HG : Hid (∀ W, Below W6.heap.size W6 W → Has W b0 37 C1 ∧ Has W (b0 + 1) 58 #[.slice none 0 0, .map none, .slice none 0 0, .int .i64 0, .int .i64 0] ∧ Below w.heap.size w W) := Lib.hid (fun W hb => by
    have h := hb6.trans (hb.mono hb6.size)
    exact ⟨HF2.out.1.below h HF2.out.1.lt, HF2.out.2.1.below h HF2.out.2.1.lt, HF2.out.2.2.trans (h.mono HF2.out.2.2.size)⟩)
  have HB6 := Lib.hid (Below.refl W6.heap.size W6)
  have HSQ := Lib.hid (zSeq (HG.out W6 HB6.out).2.1 [97])
  have HSQ2 : Hid (Calls Try.prog 27 #[.pointer (some ⟨b0 + 1, 0, none⟩), .string ⟨#[97]⟩] W6 fun r w' => r = .returned (.tuple #[.int .i64 0, .int .i64 9]) ∧ w' = W6) := HSQ
  clear hb6 HSQ HF2
  go_wp2_with fail
  refine HSQ2.out.mono ?_
  rintro r w7 ⟨rfl, hw7⟩
  subst w7
  clear HSQ2
  go_upto_region 6 with fail
  go_wp2_with (refine wpList_evLoad (by rfl) (.tmp 2) rfl b0 C1 ?e1 (HG.out _ HB6.out).1 HS1.out.1 ?_; (case e1 => rfl))
  refine (HNC.out _).mono ?_
  rintro r w7 ⟨rfl, hb7⟩
  have HB7 := Lib.hid (HB6.out.trans (hb7.mono HB6.out.size))
  clear hb7 HNC HB6
  go_wp2_with (refine wpList_evLoad (by rfl) (.tmp 2) rfl b0 C1 ?e1 (HG.out _ HB7.out).1 HS1.out.1 ?_; (case e1 => rfl))
  refine (HZA.out _ _ (HG.out _ HB7.out).2.1).mono ?_
  rintro r w8 ⟨rfl, hb8⟩
  have HB8 := Lib.hid (HB7.out.trans (hb8.mono HB7.out.size))
  have HZ8 := Lib.hid (HG.out _ HB8.out).2.1
  have HU8 := Lib.hid (HG.out _ HB8.out).2.2
  clear hb8 HZA HB7 HB8 HG HS1
  go_wp2_with fail
  refine (nLen _).mono ?_
  rintro r w9 ⟨rfl, hw9⟩
  subst w9
  go_wp2_with fail
  refine (zNow HZ8.out).mono ?_
  rintro r w9 ⟨rfl, hw9⟩
  subst w9
  go_wp2_with fail
  refine (nEvents _).mono ?_
  rintro r w9 ⟨rfl, hw9⟩
  subst w9
  go_wp2_with fail
  refine (zEntries HZ8.out).mono ?_
  rintro r w9 ⟨rfl, hw9⟩
  subst w9
  go_wp2_with fail
  refine (nPoints _).mono ?_
  rintro r w9 ⟨rfl, hw9⟩
  subst w9
  go_wp2_with fail
  refine (zUsed HZ8.out).mono ?_
  rintro r w9 ⟨rfl, hw9⟩
  subst w9
  go_wp2_with fail
  refine (nSnapshot _).mono ?_
  rintro r w9 ⟨rfl, hw9⟩
  subst w9
  go_wp2_with fail
  refine (nSame _ (.pointer none)).mono ?_
  rintro r w9 ⟨rfl, hw9⟩
  subst w9
  go_wp2_with fail
  refine (stNew _ [] (by simp)).mono ?_
  rintro r w9 ⟨q, s, rfl, hq, -, hb9⟩
  have HU9 := Lib.hid (HU8.out.trans (hb9.mono HU8.out.size))
  have HQ9 := Lib.hid hq
  clear hq hb9 HZ8 HU8
  go_wp2_with fail
  refine (qSame HQ9.out).mono ?_
  rintro r w10 ⟨rfl, hw10⟩
  subst w10
  go_wp2_with fail
  refine (HAW.out _).mono ?_
  rintro r wz ⟨rfl, hbz⟩
  have HBZ := Lib.hid (HU9.out.trans (hbz.mono HU9.out.size))
  clear hbz
  go_wp2_with fail
  go_ret
  exact ⟨rfl, HBZ.out⟩
end Go.Proofs.Ytojemaaljjibiaa
