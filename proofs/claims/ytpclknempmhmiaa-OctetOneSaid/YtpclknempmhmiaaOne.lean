/-
  The contract of OctetOne.
-/
import Derived.Test.YtpclknempmhmiaaReadMore
import Derived.Test.YtpclknempmhmiaaReadPure
import Derived.Test.YtpclknempmhmiaaLaw
import Derived.Test.YtpclknempmhmiaaRows
namespace Go.Proofs.Ytpclknempmhmiaa
open Go.ChangeShapes Go.WideShapes Go.ChangeAt Go.RowKit
open Go.ChangeMaps (open_string shut_string)

set_option maxHeartbeats 1000000 in
theorem octetOne_text (l : List UInt8) (w : World) (hl : l.length ≤ 140737488351232) :
    Calls Try.prog 7 #[.string (S l), .bool true] w fun r w' => r = .returned (.bool true) ∧ Below w.heap.size w w' := by
  by_cases hbig : 1000 < l.length
  · have hsmall : (l.take 1000).length ≤ 4611686018427387904 := by rw [List.length_take]; omega
    have hbig' : (1000 : Int) < (l.length : Int) := by omega
    go_enter Try.func7, Try.ntmps7
    go_wp2_with fail
    generalize l.take 1000 = l' at hsmall ⊢
    refine (read_any l' _).mono ?_
    rintro r w1 ⟨rfl, hr1, hb1, hs1⟩
    have HS1 := Lib.hid hs1; clear hs1
    go_wp2_with fail
    refine (text_rd 1000 _ _ _ _ hr1 hsmall).mono ?_
    rintro r w2 ⟨rfl, hr2, ho2⟩
    have hbk := R.text_back 1000 l'
    generalize R.text 1000 (l', 0) = x at hr2 hbk
    have hfo := R.fin_ok x.2
    go_wp2_with fail
    refine (end_rd _ _ _ _ hr2).mono ?_
    rintro r w3 ⟨rfl, hr3, ho3⟩
    generalize R.fin x.2 = y at hr3 hfo
    have hB2 := ho2.below hb1 (by have := HS1.out; omega) (by omega)
    have hB3 := ho3.below hB2 hB2.size (by omega)
    have HB3 := Lib.hid hB3; clear hB3 hB2 hb1
    by_cases he : y.2 = 0
    · obtain ⟨hx0, hx1⟩ := hfo he
      obtain ⟨hbk1, hbk2⟩ := hbk hx0
      rw [hx1, List.append_nil] at hbk1
      have HBK := Lib.hid hbk1; clear hbk1 hx0 hx1
      have heb : (y.2 != 0) = false := by simpa using he
      clear he hfo
      go_wp2_with fail
      refine (text_any _ _ (by omega)).mono ?_
      rintro r w4 ⟨rfl, hb4⟩
      rw [← HBK.out]
      go_wp2_with fail
      refine (awake_any _).mono ?_
      rintro r w5 ⟨rfl, hb5⟩
      go_wp2_with fail
      go_ret
      exact ⟨rfl, (HB3.out.trans (hb4.mono HB3.out.size)).trans (hb5.mono (Nat.le_trans HB3.out.size hb4.size))⟩
    · have heb : (y.2 != 0) = true := by simpa using he
      clear he hfo hbk
      go_wp2_with fail
      refine (awake_any _).mono ?_
      rintro r w5 ⟨rfl, hb5⟩
      go_wp2_with fail
      go_ret
      exact ⟨rfl, HB3.out.trans (hb5.mono HB3.out.size)⟩
  · have hsmall : l.length ≤ 4611686018427387904 := by omega
    have hbig' : ¬ (1000 : Int) < (l.length : Int) := by omega
    go_enter Try.func7, Try.ntmps7
    go_wp2_with fail
    refine (read_any l _).mono ?_
    rintro r w1 ⟨rfl, hr1, hb1, hs1⟩
    have HS1 := Lib.hid hs1; clear hs1
    go_wp2_with fail
    refine (text_rd 1000 _ _ _ _ hr1 hsmall).mono ?_
    rintro r w2 ⟨rfl, hr2, ho2⟩
    have hbk := R.text_back 1000 l
    generalize R.text 1000 (l, 0) = x at hr2 hbk
    have hfo := R.fin_ok x.2
    go_wp2_with fail
    refine (end_rd _ _ _ _ hr2).mono ?_
    rintro r w3 ⟨rfl, hr3, ho3⟩
    generalize R.fin x.2 = y at hr3 hfo
    have hB2 := ho2.below hb1 (by have := HS1.out; omega) (by omega)
    have hB3 := ho3.below hB2 hB2.size (by omega)
    have HB3 := Lib.hid hB3; clear hB3 hB2 hb1
    by_cases he : y.2 = 0
    · obtain ⟨hx0, hx1⟩ := hfo he
      obtain ⟨hbk1, hbk2⟩ := hbk hx0
      rw [hx1, List.append_nil] at hbk1
      have HBK := Lib.hid hbk1; clear hbk1 hx0 hx1
      have heb : (y.2 != 0) = false := by simpa using he
      clear he hfo
      go_wp2_with fail
      refine (text_any _ _ (by omega)).mono ?_
      rintro r w4 ⟨rfl, hb4⟩
      rw [← HBK.out]
      go_wp2_with fail
      refine (awake_any _).mono ?_
      rintro r w5 ⟨rfl, hb5⟩
      go_wp2_with fail
      go_ret
      exact ⟨rfl, (HB3.out.trans (hb4.mono HB3.out.size)).trans (hb5.mono (Nat.le_trans HB3.out.size hb4.size))⟩
    · have heb : (y.2 != 0) = true := by simpa using he
      clear he hfo hbk
      go_wp2_with fail
      refine (awake_any _).mono ?_
      rintro r w5 ⟨rfl, hb5⟩
      go_wp2_with fail
      go_ret
      exact ⟨rfl, HB3.out.trans (hb5.mono HB3.out.size)⟩

set_option maxHeartbeats 1000000 in
theorem octetOne_num (l : List UInt8) (w : World) (hl : l.length ≤ 140737488351232) :
    Calls Try.prog 7 #[.string (S l), .bool false] w fun r w' => r = .returned (.bool true) ∧ Below w.heap.size w w' := by
  by_cases hbig : 1000 < l.length
  · have hsmall : (l.take 1000).length ≤ 4611686018427387904 := by rw [List.length_take]; omega
    have hbig' : (1000 : Int) < (l.length : Int) := by omega
    go_enter Try.func7, Try.ntmps7
    go_wp2_with fail
    generalize l.take 1000 = l' at hsmall ⊢
    refine (read_any l' _).mono ?_
    rintro r w1 ⟨rfl, hr1, hb1, hs1⟩
    have HS1 := Lib.hid hs1; clear hs1
    go_wp2_with fail
    refine (num_rd 72057594037927935 _ _ _ _ hr1 hsmall).mono ?_
    rintro r w2 ⟨rfl, hr2, ho2⟩
    have hbk := R.num_back 72057594037927935 l'
    generalize R.num 72057594037927935 (l', 0) = x at hr2 hbk
    have hfo := R.fin_ok x.2
    go_wp2_with fail
    refine (end_rd _ _ _ _ hr2).mono ?_
    rintro r w3 ⟨rfl, hr3, ho3⟩
    generalize R.fin x.2 = y at hr3 hfo
    have hB2 := ho2.below hb1 (by have := HS1.out; omega) (by omega)
    have hB3 := ho3.below hB2 hB2.size (by omega)
    have HB3 := Lib.hid hB3; clear hB3 hB2 hb1
    by_cases he : y.2 = 0
    · obtain ⟨hx0, hx1⟩ := hfo he
      obtain ⟨_, _, _, hbk1⟩ := hbk hx0
      rw [hx1, List.append_nil] at hbk1
      have HBK := Lib.hid hbk1; clear hbk1 hx0 hx1
      have heb : (y.2 != 0) = false := by simpa using he
      clear he hfo
      go_wp2_with fail
      refine (num_any _ _).mono ?_
      rintro r w4 ⟨rfl, hb4⟩
      rw [← HBK.out]
      go_wp2_with fail
      refine (awake_any _).mono ?_
      rintro r w5 ⟨rfl, hb5⟩
      go_wp2_with fail
      go_ret
      exact ⟨rfl, (HB3.out.trans (hb4.mono HB3.out.size)).trans (hb5.mono (Nat.le_trans HB3.out.size hb4.size))⟩
    · have heb : (y.2 != 0) = true := by simpa using he
      clear he hfo hbk
      go_wp2_with fail
      refine (awake_any _).mono ?_
      rintro r w5 ⟨rfl, hb5⟩
      go_wp2_with fail
      go_ret
      exact ⟨rfl, HB3.out.trans (hb5.mono HB3.out.size)⟩
  · have hsmall : l.length ≤ 4611686018427387904 := by omega
    have hbig' : ¬ (1000 : Int) < (l.length : Int) := by omega
    go_enter Try.func7, Try.ntmps7
    go_wp2_with fail
    refine (read_any l _).mono ?_
    rintro r w1 ⟨rfl, hr1, hb1, hs1⟩
    have HS1 := Lib.hid hs1; clear hs1
    go_wp2_with fail
    refine (num_rd 72057594037927935 _ _ _ _ hr1 hsmall).mono ?_
    rintro r w2 ⟨rfl, hr2, ho2⟩
    have hbk := R.num_back 72057594037927935 l
    generalize R.num 72057594037927935 (l, 0) = x at hr2 hbk
    have hfo := R.fin_ok x.2
    go_wp2_with fail
    refine (end_rd _ _ _ _ hr2).mono ?_
    rintro r w3 ⟨rfl, hr3, ho3⟩
    generalize R.fin x.2 = y at hr3 hfo
    have hB2 := ho2.below hb1 (by have := HS1.out; omega) (by omega)
    have hB3 := ho3.below hB2 hB2.size (by omega)
    have HB3 := Lib.hid hB3; clear hB3 hB2 hb1
    by_cases he : y.2 = 0
    · obtain ⟨hx0, hx1⟩ := hfo he
      obtain ⟨_, _, _, hbk1⟩ := hbk hx0
      rw [hx1, List.append_nil] at hbk1
      have HBK := Lib.hid hbk1; clear hbk1 hx0 hx1
      have heb : (y.2 != 0) = false := by simpa using he
      clear he hfo
      go_wp2_with fail
      refine (num_any _ _).mono ?_
      rintro r w4 ⟨rfl, hb4⟩
      rw [← HBK.out]
      go_wp2_with fail
      refine (awake_any _).mono ?_
      rintro r w5 ⟨rfl, hb5⟩
      go_wp2_with fail
      go_ret
      exact ⟨rfl, (HB3.out.trans (hb4.mono HB3.out.size)).trans (hb5.mono (Nat.le_trans HB3.out.size hb4.size))⟩
    · have heb : (y.2 != 0) = true := by simpa using he
      clear he hfo hbk
      go_wp2_with fail
      refine (awake_any _).mono ?_
      rintro r w5 ⟨rfl, hb5⟩
      go_wp2_with fail
      go_ret
      exact ⟨rfl, HB3.out.trans (hb5.mono HB3.out.size)⟩

theorem octetOne_walk (l : List UInt8) (b : Bool) (w : World) (hl : l.length ≤ 140737488351232) :
    Calls Try.prog 7 #[.string (S l), .bool b] w fun r w' => r = .returned (.bool true) ∧ Below w.heap.size w w' := by
  cases b
  · exact octetOne_num l w hl
  · exact octetOne_text l w hl

theorem octetOne_contract {H : Type} (enc : TypeId × Value → H) (W : World) (base : Nat) (args : Array Value) (ds gs : List (DataW H)) (before : List MemPlace)
    (hval : ∀ (j : Nat) t v, Try.f7.params[j]? = some t → args[j]? = some v → Value.okWide Try.prog W .any base t v)
    (hW : DataW.Whole enc Try.prog Try.f7.params.toList Rows.octetOneSpec.vars false W args.toList ds gs before)
    (hsz : (DataW.weightsEach Try.prog (Try.f7.params.toList ++ Rows.octetOneSpec.plain.varTypes Try.prog) (ds ++ gs)).all (· ≤ reachBytes) = true) :
    Calls Try.prog 7 args W fun e W' =>
      ((Rows.octetOneSpec.fn H (ds ++ gs)).results = [.lit (.bool true)] ∧ (Rows.octetOneSpec.fn H (ds ++ gs)).args = ds ∧ (Rows.octetOneSpec.fn H (ds ++ gs)).vars = []) ∧ e = .returned (.bool true) ∧ Below W.heap.size W W' := by
  obtain ⟨p, q, hA0, hV, rfl, hfz, hnd⟩ := hW
  have hA : DataW.TrodAll enc Try.prog W 0 (fun _ => true) true Try.f7.params.toList args.toList ds p := hA0
  rw [Try.params7] at hA hval hsz
  obtain ⟨v0, v1, d0, d1, p0, p1, rfl, rfl, rfl, h0, h1⟩ := trodAll_two hA
  obtain ⟨rfl, rfl⟩ := trodVars_none hV
  obtain ⟨s, rfl, rfl, rfl, max_s⟩ := open_string Try.underlying9 (hval 0 9 v0 rfl rfl) h0
  have len_s : s.data.toList.length ≤ reachBytes := sized_string hsz (j := 0) (t := 9) rfl rfl
  obtain ⟨b, rfl, rfl, rfl⟩ := open_bool Try.underlying4 (hval 1 4 v1 rfl rfl) h1
  rw [← S_of s]
  exact (octetOne_walk s.data.toList b W (Nat.le_trans len_s (by decide))).mono fun e W' h => ⟨⟨rfl, rfl, rfl⟩, h⟩
end Go.Proofs.Ytpclknempmhmiaa
