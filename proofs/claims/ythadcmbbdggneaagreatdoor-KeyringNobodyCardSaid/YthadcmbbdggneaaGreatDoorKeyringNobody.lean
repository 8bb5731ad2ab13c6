/-
  KeyringNobody: what is asked of a ring that nobody made.
-/
import Derived.Test.YthadcmbbdggneaaGreatDoorKeyNobody
import Derived.Test.YthadcmbbdggneaaGreatDoorLaw
import Derived.Test.YthadcmbbdggneaaGreatDoorRows
import Derived.SizedLaws
namespace Go.Proofs.YthadcmbbdggneaaGreatDoor
open Go.ChangeShapes Go.WideShapes Go.ChangeAt Go.RowKit
open Go.ChangeMaps (open_string shut_string)
set_option linter.unusedVariables false

set_option maxRecDepth 100000 in
theorem keyringNobody_contract {H : Type} (enc : TypeId × Value → H) (W : World) (base : Nat) (args : Array Value) (ds gs : List (DataW H)) (before : List MemPlace)
    (hval : ∀ (j : Nat) t v, Tryz.f6.params[j]? = some t → args[j]? = some v → Value.okWide Tryz.prog W .any base t v)
    (hW : DataW.Whole enc Tryz.prog Tryz.f6.params.toList Rows.keyringNobodySpec.vars false W args.toList ds gs before)
    (hsz : (DataW.weightsEach Tryz.prog (Tryz.f6.params.toList ++ Rows.keyringNobodySpec.plain.varTypes Tryz.prog) (ds ++ gs)).all (· ≤ reachBytes) = true) :
    Calls Tryz.prog 6 args W fun e W' =>
      ((Rows.keyringNobodySpec.fn H (ds ++ gs)).results = [.lit (.bool true)] ∧ (Rows.keyringNobodySpec.fn H (ds ++ gs)).args = ds ∧ (Rows.keyringNobodySpec.fn H (ds ++ gs)).vars = []) ∧ e = .returned (.bool true) ∧ Below W.heap.size W W' := by
  obtain ⟨p, q, hA0, hV, rfl, hfz, hnd⟩ := hW
  have hA : DataW.TrodAll enc Tryz.prog W 0 (fun _ => true) true Tryz.f6.params.toList args.toList ds p := hA0
  rw [Tryz.params6] at hA hval hsz
  obtain ⟨v0, d0, rfl, rfl, h0⟩ := trodAll_one hA
  obtain ⟨rfl, rfl⟩ := trodVars_none hV
  obtain ⟨i, rfl, rfl, rfl, bd_i⟩ := open_int Tryz.underlying3 (hval 0 3 v0 rfl rfl) h0
  exact (knobody_any i W).mono fun e W' h => ⟨⟨rfl, rfl, rfl⟩, h⟩
end Go.Proofs.YthadcmbbdggneaaGreatDoor
