/-
  The contract of GuardNobody.
-/
import Derived.Test.YtcgdjljfgjoliaaDoorGrdNone
import Derived.Test.YtcgdjljfgjoliaaDoorGrdAw
import Derived.Test.YtcgdjljfgjoliaaDoorLaw
import Derived.Test.YtcgdjljfgjoliaaDoorRows
import Derived.SizedLaws
namespace Go.Proofs.YtcgdjljfgjoliaaDoor
open Go.ChangeShapes Go.WideShapes Go.ChangeAt Go.RowKit
open Go.ChangeMaps (open_string shut_string)
set_option linter.unusedVariables false

set_option maxRecDepth 100000 in
set_option maxHeartbeats 2000000 in
theorem gnobody_any (i : Int) (s : List UInt8) (w : World) :
    Calls Tryd.prog 7 #[.int .i64 i, .string (S s)] w fun e w' => e = .returned (.bool true) ∧ Below w.heap.size w w' := by
  have HAW : Hid _ := fun W => gawake_any W
  have Hput : Hid _ := @ng_put
  have Hget : Hid _ := @ng_get
  have Hnew : Hid _ := @ng_new
  have Herase : Hid _ := @ng_erase
  have Hflush : Hid _ := @ng_flush
  have Hblank : Hid _ := @ng_blank
  have Hdisk : Hid _ := @ng_disk
  have HN : Hid (∀ W, NoGuard W (.pointer none)) := Lib.hid (fun W => Or.inl rfl)
  have hb0 : Below w.heap.size w (w.alloc (.cells #[.pointer none, .int .i64 0, .int .i64 0] 60)) := (Below.refl _ w).alloc (Nat.le_refl _) _
  have hz0 : NoGuard (w.alloc (.cells #[.pointer none, .int .i64 0, .int .i64 0] 60)) (.pointer (some ⟨w.heap.size, 0, none⟩)) := by
    refine Or.inr ⟨w.heap.size, rfl, ?_, ?_⟩
    · exact (Has.made w 60 #[.pointer none, .int .i64 0, .int .i64 0]).cell 0
    · rw [asize]; omega
  have H := Lib.hid (And.intro hz0 hb0)
  clear hz0 hb0
  go_enter Tryd.func7, Tryd.ntmps7
  go_wp2_with fail
  generalize World.alloc w _ = W0 at H ⊢
  refine (Hput.out (HN.out _) _ _).mono ?_
  rintro r w1 ⟨rfl, rfl⟩
  go_wp2_with fail
  refine (Hget.out H.out.1 _).mono ?_
  rintro r w1 ⟨rfl, rfl⟩
  go_wp2_with fail
  refine (Hnew.out _ _).mono ?_
  rintro r w1 ⟨rfl, rfl⟩
  go_wp2_with fail
  refine (Herase.out (HN.out _) _).mono ?_
  rintro r w1 ⟨rfl, hb⟩
  replace H := Lib.hid (And.intro (H.out.1.below hb) (H.out.2.trans (hb.mono H.out.2.size)))
  clear hb
  go_wp2_with fail
  refine (Hflush.out H.out.1).mono ?_
  rintro r w2 ⟨rfl, rfl⟩
  go_wp2_with fail
  refine (Hblank.out (HN.out _) _).mono ?_
  rintro r w2 ⟨rfl, rfl⟩
  go_wp2_with fail
  refine (Hdisk.out H.out.1).mono ?_
  rintro r w2 ⟨rfl, rfl⟩
  go_wp2_with fail
  refine (HAW.out _).mono ?_
  rintro r w3 ⟨rfl, hb⟩
  replace H := Lib.hid (H.out.2.trans (hb.mono H.out.2.size))
  clear hb
  go_wp2_with fail
  go_ret
  exact ⟨rfl, H.out⟩

set_option maxRecDepth 100000 in
theorem guardNobody_contract {H : Type} (enc : TypeId × Value → H) (W : World) (base : Nat) (args : Array Value) (ds gs : List (DataW H)) (before : List MemPlace)
    (hval : ∀ (j : Nat) t v, Tryd.f7.params[j]? = some t → args[j]? = some v → Value.okWide Tryd.prog W .any base t v)
    (hW : DataW.Whole enc Tryd.prog Tryd.f7.params.toList Rows.guardNobodySpec.vars false W args.toList ds gs before)
    (hsz : (DataW.weightsEach Tryd.prog (Tryd.f7.params.toList ++ Rows.guardNobodySpec.plain.varTypes Tryd.prog) (ds ++ gs)).all (· ≤ reachBytes) = true) :
    Calls Tryd.prog 7 args W fun e W' =>
      ((Rows.guardNobodySpec.fn H (ds ++ gs)).results = [.lit (.bool true)] ∧ (Rows.guardNobodySpec.fn H (ds ++ gs)).args = ds ∧ (Rows.guardNobodySpec.fn H (ds ++ gs)).vars = []) ∧ e = .returned (.bool true) ∧ Below W.heap.size W W' := by
  obtain ⟨p, q, hA0, hV, rfl, hfz, hnd⟩ := hW
  have hA : DataW.TrodAll enc Tryd.prog W 0 (fun _ => true) true Tryd.f7.params.toList args.toList ds p := hA0
  rw [Tryd.params7] at hA hval hsz
  obtain ⟨v0, v1, d0, d1, p0, p1, rfl, rfl, rfl, h0, h1⟩ := trodAll_two hA
  obtain ⟨rfl, rfl⟩ := trodVars_none hV
  obtain ⟨i, rfl, rfl, rfl, bd_i⟩ := open_int Tryd.underlying3 (hval 0 3 v0 rfl rfl) h0
  obtain ⟨s, rfl, rfl, rfl, max_s⟩ := open_string Tryd.underlying9 (hval 1 9 v1 rfl rfl) h1
  have len_s : s.data.toList.length ≤ reachBytes := sized_string hsz (j := 1) (t := 9) rfl rfl
  rw [← S_of s]
  exact (gnobody_any i s.data.toList W).mono fun e W' h => ⟨⟨rfl, rfl, rfl⟩, h⟩

end Go.Proofs.YtcgdjljfgjoliaaDoor
