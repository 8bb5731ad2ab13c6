/-
  The contract of PolicyDeadlines, for a claim.
-/
import Derived.Test.YtjmdpepghnhpkaaPolicyDead
import Derived.Test.YtjmdpepghnhpkaaPolArg
import Derived.Test.YtjmdpepghnhpkaaLaw
import Derived.Test.YtjmdpepghnhpkaaRows
namespace Go.Proofs.Ytjmdpepghnhpkaa
open Go.ChangeShapes Go.WideShapes Go.ChangeAt Go.RowKit
open Go.ChangeMaps (open_string shut_string)
set_option linter.unusedVariables false

set_option maxRecDepth 100000 in
theorem policyDeadlines_contract {H : Type} (enc : TypeId × Value → H) (W : World) (base : Nat) (args : Array Value) (ds gs : List (DataW H)) (before : List MemPlace)
    (hval : ∀ (j : Nat) t v, Try.f3.params[j]? = some t → args[j]? = some v → Value.okWide Try.prog W .any base t v)
    (hW : DataW.Whole enc Try.prog Try.f3.params.toList Rows.policyDeadlinesSpec.vars false W args.toList ds gs before)
    (hsz : (DataW.weightsEach Try.prog (Try.f3.params.toList ++ Rows.policyDeadlinesSpec.plain.varTypes Try.prog) (ds ++ gs)).all (· ≤ reachBytes) = true) :
    Calls Try.prog 3 args W fun e W' =>
      ((Rows.policyDeadlinesSpec.fn H (ds ++ gs)).results = [.lit (.bool true)] ∧ (Rows.policyDeadlinesSpec.fn H (ds ++ gs)).args = ds ∧ (Rows.policyDeadlinesSpec.fn H (ds ++ gs)).vars = []) ∧ e = .returned (.bool true) ∧ Below W.heap.size W W' := by
  obtain ⟨p, q, hA0, hV, rfl, hfz, hnd⟩ := hW
  have hA : DataW.TrodAll enc Try.prog W 0 (fun _ => true) true Try.f3.params.toList args.toList ds p := hA0
  rw [Try.params3] at hA hval hsz
  obtain ⟨v0, v1, v2, d0, d1, d2, p0, p1, p2, rfl, rfl, rfl, h0, h1, h2⟩ := trodAll_three hA
  obtain ⟨rfl, rfl⟩ := trodVars_none hV
  obtain ⟨x_p, rfl, len_p⟩ := pol_open (hval 0 22 v0 rfl rfl) h0
  obtain ⟨cls, rfl, rfl, rfl, bd_cls⟩ := open_int Try.underlying3 (hval 1 3 v1 rfl rfl) h1
  obtain ⟨born, rfl, rfl, rfl, bd_born⟩ := open_int Try.underlying3 (hval 2 3 v2 rfl rfl) h2
  exact (policyDead_any len_p cls born W).mono fun e W' h => ⟨⟨rfl, rfl, rfl⟩, h⟩
end Go.Proofs.Ytjmdpepghnhpkaa
