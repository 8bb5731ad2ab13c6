/-
  The contract of StateNobody, for a claim.
-/
import Derived.Test.YtojemaaljjibiaaStateNobody
import Derived.Test.YtojemaaljjibiaaArgs
import Derived.Test.YtojemaaljjibiaaRows
namespace Go.Proofs.Ytojemaaljjibiaa
open Go.ChangeShapes Go.WideShapes Go.ChangeAt Go.RowKit
open Go.ChangeMaps (open_string shut_string)
set_option linter.unusedVariables false

set_option maxRecDepth 100000 in
theorem stateNobody_contract {H : Type} (enc : TypeId × Value → H) (W : World) (base : Nat) (args : Array Value) (ds gs : List (DataW H)) (before : List MemPlace)
    (hval : ∀ (j : Nat) t v, Try.f8.params[j]? = some t → args[j]? = some v → Value.okWide Try.prog W .any base t v)
    (hW : DataW.Whole enc Try.prog Try.f8.params.toList Rows.stateNobodySpec.vars false W args.toList ds gs before)
    (hsz : (DataW.weightsEach Try.prog (Try.f8.params.toList ++ Rows.stateNobodySpec.plain.varTypes Try.prog) (ds ++ gs)).all (· ≤ reachBytes) = true) :
    Calls Try.prog 8 args W fun e W' =>
      ((Rows.stateNobodySpec.fn H (ds ++ gs)).results = [.lit (.bool true)] ∧ (Rows.stateNobodySpec.fn H (ds ++ gs)).args = ds ∧ (Rows.stateNobodySpec.fn H (ds ++ gs)).vars = []) ∧ e = .returned (.bool true) ∧ Below W.heap.size W W' := by
  obtain ⟨p, q, hA0, hV, rfl, hfz, hnd⟩ := hW
  have hA : DataW.TrodAll enc Try.prog W 0 (fun _ => true) true Try.f8.params.toList args.toList ds p := hA0
  rw [Try.params8] at hA hval hsz
  obtain ⟨v0, v1, d0, d1, p0, p1, rfl, rfl, rfl, h0, h1⟩ := trodAll_two hA
  obtain ⟨rfl, rfl⟩ := trodVars_none hV
  obtain ⟨x_v, A_v, ca_v, B_v, cb_v, rfl, in_v⟩ := event_open (hval 0 37 v0 rfl rfl) h0
  obtain ⟨n, rfl, rfl, rfl, bd_n⟩ := open_int Try.underlying3 (hval 1 3 v1 rfl rfl) h1
  exact ((stateNobody_any in_v n)).mono fun e W' h => ⟨⟨rfl, rfl, rfl⟩, h⟩

end Go.Proofs.Ytojemaaljjibiaa
