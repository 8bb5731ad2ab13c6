/-
  The contract of DiskNobody.
-/
import Derived.Test.YtldlhdbdehmhbaaDskNone
import Derived.Test.YtldlhdbdehmhbaaDskAw
import Derived.Test.YtldlhdbdehmhbaaDskArg
namespace Go.Proofs.Ytldlhdbdehmhbaa
open Go.ChangeShapes Go.WideShapes Go.ChangeAt Go.RowKit
open Go.ChangeMaps (open_string shut_string)
set_option linter.unusedVariables false

set_option maxRecDepth 100000 in
set_option maxHeartbeats 2000000 in
theorem nobody_any (i a b : Int) (w : World) :
    Calls Try.prog 5 #[.int .i64 i, .agg #[.int .u64 a, .int .i64 b]] w fun e w' => e = .returned (.bool true) ∧ Below w.heap.size w w' := by
  have HAW : Hid _ := fun W => awake_any W
  have Hcalm : Hid _ := @n_calm
  have Hread : Hid _ := @n_read
  have Hwrite : Hid _ := @n_write
  have Hflush : Hid _ := @n_flush
  have Hcrash : Hid _ := @n_crash
  have Harm : Hid _ := @n_arm
  have Hstart : Hid _ := @n_start
  have Hup : Hid _ := @n_up
  have Himage : Hid _ := @n_image
  have Hstamp : Hid _ := @n_stamp
  have Hacts : Hid _ := @n_acts
  have Hfalls : Hid _ := @n_falls
  have Hsize : Hid _ := @n_size
  have Hwaiting : Hid _ := @n_waiting
  have hN : ∀ W, NoDisk W (.pointer none) := fun W => Or.inl rfl
  have HN := Lib.hid hN; clear hN
  go_enter Try.func5, Try.ntmps5
  go_wp2_with fail
  obtain ⟨W, hW⟩ : ∃ W, (w.alloc (.cells #[.int .u64 a, .int .i64 b] 25)).alloc (.cells #[.slice none 0 0, .map none, .bool false, .int .i64 0, .int .i64 0, .int .i64 0, .int .u64 0, .int .i64 0, .bool false] 45) = W := ⟨_, rfl⟩
  rw [hW]
  have hz : NoDisk W (.pointer (some ⟨w.heap.size + 1, 0, none⟩)) := by
    refine Or.inr ⟨w.heap.size + 1, rfl, ?_, ?_⟩
    · have h := Has.made (w.alloc (.cells #[.int .u64 a, .int .i64 b] 25)) 45 #[.slice none 0 0, .map none, .bool false, .int .i64 0, .int .i64 0, .int .i64 0, .int .u64 0, .int .i64 0, .bool false]
      rw [hW, asize] at h
      exact h.cell 0
    · rw [← hW, asize, asize]; omega
  have hf : Has W w.heap.size 25 #[.int .u64 a, .int .i64 b] := by rw [← hW]; exact (Has.made w _ _).of_alloc _
  have hb0 : Below w.heap.size w W := by rw [← hW]; exact ((Below.refl _ w).alloc (Nat.le_refl _) _).alloc (by simp) _
  have H := Lib.hid (And.intro hz (And.intro hf hb0))
  have c0 := H.out.2.1.cell 0
  have c1 := H.out.2.1.cell 1
  simp only [List.getElem?_toArray, List.getElem?_cons_zero, List.getElem?_cons_succ] at c0 c1
  clear hW hz hf hb0
  refine (Hcalm.out (HN.out _)).mono ?_
  rintro r w9 ⟨rfl, rfl⟩
  go_wp2_with fail
  refine (Hcalm.out H.out.1).mono ?_
  rintro r w9 ⟨rfl, rfl⟩
  go_wp2_with fail
  refine (Hread.out (HN.out _) _).mono ?_
  rintro r w9 ⟨rfl, rfl⟩
  go_wp2_with fail
  refine (Hread.out H.out.1 _).mono ?_
  rintro r w9 ⟨rfl, rfl⟩
  go_wp2_with fail
  refine (Hwrite.out (HN.out _) _ _).mono ?_
  rintro r w9 ⟨rfl, rfl⟩
  go_wp2_with fail
  refine (Hflush.out H.out.1).mono ?_
  rintro r w9 ⟨rfl, rfl⟩
  go_wp2_with fail
  refine (Hcrash.out (HN.out _) _ _).mono ?_
  rintro r w9 ⟨rfl, hb⟩
  replace H := Lib.hid (And.intro (H.out.1.below hb) (And.intro (H.out.2.1.below hb (H.out.2.1.lt)) (H.out.2.2.trans (hb.mono H.out.2.2.size))))
  clear c0 c1 hb
  have c0 := H.out.2.1.cell 0
  have c1 := H.out.2.1.cell 1
  simp only [List.getElem?_toArray, List.getElem?_cons_zero, List.getElem?_cons_succ] at c0 c1
  go_wp2_with fail
  refine (Harm.out H.out.1 _ _ _).mono ?_
  rintro r w9 ⟨rfl, hb⟩
  replace H := Lib.hid (And.intro (H.out.1.below hb) (And.intro (H.out.2.1.below hb (H.out.2.1.lt)) (H.out.2.2.trans (hb.mono H.out.2.2.size))))
  clear c0 c1 hb
  have c0 := H.out.2.1.cell 0
  have c1 := H.out.2.1.cell 1
  simp only [List.getElem?_toArray, List.getElem?_cons_zero, List.getElem?_cons_succ] at c0 c1
  go_wp2_with fail
  refine (Hstart.out (HN.out _)).mono ?_
  rintro r w9 ⟨rfl, rfl⟩
  go_wp2_with fail
  refine (Hup.out H.out.1).mono ?_
  rintro r w9 ⟨rfl, rfl⟩
  go_wp2_with fail
  refine (Himage.out (HN.out _)).mono ?_
  rintro r w9 ⟨rfl, rfl⟩
  go_wp2_with fail
  refine (Hstamp.out H.out.1 _).mono ?_
  rintro r w9 ⟨rfl, rfl⟩
  go_wp2_with fail
  refine (Hacts.out (HN.out _)).mono ?_
  rintro r w9 ⟨rfl, rfl⟩
  go_wp2_with fail
  refine (Hfalls.out H.out.1).mono ?_
  rintro r w9 ⟨rfl, rfl⟩
  go_wp2_with fail
  refine (Hsize.out (HN.out _)).mono ?_
  rintro r w9 ⟨rfl, rfl⟩
  go_wp2_with fail
  refine (Hwaiting.out H.out.1).mono ?_
  rintro r w9 ⟨rfl, rfl⟩
  go_wp2_with fail
  refine (HAW.out _).mono ?_
  rintro r w9 ⟨rfl, hb⟩
  go_wp2_with fail
  go_ret
  exact ⟨rfl, H.out.2.2.trans (hb.mono H.out.2.2.size)⟩
set_option maxRecDepth 100000 in
theorem diskNobody_contract {H : Type} (enc : TypeId × Value → H) (W : World) (base : Nat) (args : Array Value) (ds gs : List (DataW H)) (before : List MemPlace)
    (hval : ∀ (j : Nat) t v, Try.f5.params[j]? = some t → args[j]? = some v → Value.okWide Try.prog W .any base t v)
    (hW : DataW.Whole enc Try.prog Try.f5.params.toList Rows.diskNobodySpec.vars false W args.toList ds gs before)
    (hsz : (DataW.weightsEach Try.prog (Try.f5.params.toList ++ Rows.diskNobodySpec.plain.varTypes Try.prog) (ds ++ gs)).all (· ≤ reachBytes) = true) :
    Calls Try.prog 5 args W fun e W' =>
      ((Rows.diskNobodySpec.fn H (ds ++ gs)).results = [.lit (.bool true)] ∧ (Rows.diskNobodySpec.fn H (ds ++ gs)).args = ds ∧ (Rows.diskNobodySpec.fn H (ds ++ gs)).vars = []) ∧ e = .returned (.bool true) ∧ Below W.heap.size W W' := by
  obtain ⟨p, q, hA0, hV, rfl, hfz, hnd⟩ := hW
  have hA : DataW.TrodAll enc Try.prog W 0 (fun _ => true) true Try.f5.params.toList args.toList ds p := hA0
  rw [Try.params5] at hA hval hsz
  obtain ⟨v0, v1, d0, d1, p0, p1, rfl, rfl, rfl, h0, h1⟩ := trodAll_two hA
  obtain ⟨rfl, rfl⟩ := trodVars_none hV
  obtain ⟨i, rfl, rfl, rfl, bd_i⟩ := open_int Try.underlying3 (hval 0 3 v0 rfl rfl) h0
  obtain ⟨f, rfl, ok_f⟩ := fall_open (hval 1 25 v1 rfl rfl) h1
  exact (nobody_any i _ _ W).mono fun e W' h => ⟨⟨rfl, rfl, rfl⟩, h⟩

end Go.Proofs.Ytldlhdbdehmhbaa
