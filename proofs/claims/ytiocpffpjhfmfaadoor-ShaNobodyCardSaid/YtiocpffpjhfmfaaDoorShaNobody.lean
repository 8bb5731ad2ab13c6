/-
  The contract of ShaNobody.
-/
import Derived.Test.YtiocpffpjhfmfaaDoorShaTabs
namespace Go.Proofs.YtiocpffpjhfmfaaDoor
open Go.ChangeShapes Go.WideShapes Go.ChangeAt Go.RowKit
open Go.ChangeMaps (open_string shut_string)
set_option linter.unusedVariables false

set_option maxRecDepth 100000 in
set_option maxHeartbeats 2000000 in
theorem shaNobody_any (s : ByteArray) (w : World) (hT : Tabs w) :
    Calls Tryd.prog 6 #[.string s] w fun e w' => e = .returned (.bool true) ∧ Below w.heap.size w w' := by
  have hzv := zero_state
  have h2 := hT.2.2
  have HT := Lib.hid hT; clear hT
  go_enter Tryd.func6, Tryd.ntmps6
  go_upto_region 3 with (fail)
  clear hzv
  generalize hW : World.alloc w _ = W
  have hb : Below w.heap.size w W := by rw [← hW]; exact (Below.refl _ _).alloc (Nat.le_refl _) _
  have c72 : W.cell? ⟨w.heap.size, 72, none⟩ = some (.int .i64 0) := by rw [← hW]; exact (Has.made w _ _).cell 72
  have c73 : W.cell? ⟨w.heap.size, 73, none⟩ = some (.bool false) := by rw [← hW]; exact (Has.made w _ _).cell 73
  clear hW
  go_wp2_with fail
  refine (write_nil _ _).mono ?_
  rintro r1 w1 ⟨rfl, rfl⟩
  go_wp2_with fail
  refine (write_zero _ _ _ c73).mono ?_
  rintro r1 w1 ⟨rfl, rfl⟩
  go_wp2_with fail
  refine (sum_nil _).mono ?_
  rintro r1 w1 ⟨rfl, rfl⟩
  go_wp2_with fail
  refine (sum_zero _ _ c73).mono ?_
  rintro r1 w1 ⟨rfl, rfl⟩
  go_wp2_with fail
  refine (len_nil _).mono ?_
  rintro r1 w1 ⟨rfl, rfl⟩
  go_wp2_with fail
  refine (len_zero _ _ c72).mono ?_
  rintro r1 w1 ⟨rfl, rfl⟩
  go_wp2_with fail
  refine (awake_any _ (HT.out.below hb h2)).mono ?_
  rintro r1 w1 ⟨rfl, hb1⟩
  go_wp2_with fail
  go_ret
  exact ⟨rfl, hb.trans (hb1.mono hb.size)⟩

theorem shaNobody_contract {H : Type} (enc : TypeId × Value → H) (W : World) (base : Nat) (args : Array Value) (ds gs : List (DataW H)) (before : List MemPlace)
    (hval : ∀ (j : Nat) t v, Tryd.f6.params[j]? = some t → args[j]? = some v → Value.okWide Tryd.prog W .any base t v)
    (hW : DataW.Whole enc Tryd.prog Tryd.f6.params.toList Rows.shaNobodySpec.vars false W args.toList ds gs before)
    {Z : Prop} (hz : Z) (hT : Tabs W) :
    Calls Tryd.prog 6 args W fun e W' =>
      ((Rows.shaNobodySpec.fn H (ds ++ gs)).results = [.lit (.bool true)] ∧ (Rows.shaNobodySpec.fn H (ds ++ gs)).args = ds ∧ (Rows.shaNobodySpec.fn H (ds ++ gs)).vars = []) ∧ e = .returned (.bool true) ∧ Below W.heap.size W W' := by
  obtain ⟨p, q, hA0, hV, rfl, hfz, hnd⟩ := hW
  have hA : DataW.TrodAll enc Tryd.prog W 0 (fun _ => true) true Tryd.f6.params.toList args.toList ds p := hA0
  rw [Tryd.params6] at hA hval
  obtain ⟨v0, d0, rfl, rfl, h0⟩ := trodAll_one hA
  obtain ⟨rfl, rfl⟩ := trodVars_none hV
  obtain ⟨s, rfl, rfl, rfl, max_s⟩ := open_string Tryd.underlying9 (hval 0 9 v0 rfl rfl) h0
  exact (shaNobody_any s W hT).mono fun e W' h => ⟨⟨rfl, rfl, rfl⟩, h⟩
end Go.Proofs.YtiocpffpjhfmfaaDoor
