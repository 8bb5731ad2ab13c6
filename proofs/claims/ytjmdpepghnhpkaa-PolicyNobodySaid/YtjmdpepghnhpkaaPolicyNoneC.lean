/-
  The contract of PolicyNobody, for a claim.
-/
import Derived.Test.YtjmdpepghnhpkaaPolicyNone
import Derived.Test.YtjmdpepghnhpkaaDueArg
import Derived.Test.YtjmdpepghnhpkaaLaw
import Derived.Test.YtjmdpepghnhpkaaRows
namespace Go.Proofs.Ytjmdpepghnhpkaa
open Go.ChangeShapes Go.WideShapes Go.ChangeAt Go.RowKit
open Go.ChangeMaps (open_string shut_string)
set_option linter.unusedVariables false

set_option maxRecDepth 100000 in
theorem policyNobody_contract {H : Type} (enc : TypeId × Value → H) (W : World) (base : Nat) (args : Array Value) (ds gs : List (DataW H)) (before : List MemPlace)
    (hval : ∀ (j : Nat) t v, Try.f6.params[j]? = some t → args[j]? = some v → Value.okWide Try.prog W .any base t v)
    (hW : DataW.Whole enc Try.prog Try.f6.params.toList Rows.policyNobodySpec.vars false W args.toList ds gs before)
    (hsz : (DataW.weightsEach Try.prog (Try.f6.params.toList ++ Rows.policyNobodySpec.plain.varTypes Try.prog) (ds ++ gs)).all (· ≤ reachBytes) = true) :
    Calls Try.prog 6 args W fun e W' =>
      ((Rows.policyNobodySpec.fn H (ds ++ gs)).results = [.lit (.bool true)] ∧ (Rows.policyNobodySpec.fn H (ds ++ gs)).args = ds ∧ (Rows.policyNobodySpec.fn H (ds ++ gs)).vars = []) ∧ e = .returned (.bool true) ∧ Below W.heap.size W W' := by
  obtain ⟨p, q, hA0, hV, rfl, hfz, hnd⟩ := hW
  have hA : DataW.TrodAll enc Try.prog W 0 (fun _ => true) true Try.f6.params.toList args.toList ds p := hA0
  rw [Try.params6] at hA hval hsz
  obtain ⟨v0, d0, rfl, rfl, h0⟩ := trodAll_one hA
  obtain ⟨rfl, rfl⟩ := trodVars_none hV
  obtain ⟨x_d, rfl⟩ := due_open (hval 0 34 v0 rfl rfl) h0
  exact (policyNobody_any x_d W).mono fun e W' h => ⟨⟨rfl, rfl, rfl⟩, h⟩
end Go.Proofs.Ytjmdpepghnhpkaa
