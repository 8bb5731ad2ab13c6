/-
  The contract of PolicyReady, for a claim.
-/
import Derived.Test.YtjmdpepghnhpkaaDueArg
import Derived.Test.YtjmdpepghnhpkaaLaw
import Derived.Test.YtjmdpepghnhpkaaRows
namespace Go.Proofs.Ytjmdpepghnhpkaa
open Go.ChangeShapes Go.WideShapes Go.ChangeAt Go.RowKit
open Go.ChangeMaps (open_string shut_string)
set_option linter.unusedVariables false

set_option maxRecDepth 100000 in
theorem policyReady_contract {H : Type} (enc : TypeId × Value → H) (W : World) (base : Nat) (args : Array Value) (ds gs : List (DataW H)) (before : List MemPlace)
    (hval : ∀ (j : Nat) t v, Try.f5.params[j]? = some t → args[j]? = some v → Value.okWide Try.prog W .any base t v)
    (hW : DataW.Whole enc Try.prog Try.f5.params.toList Rows.policyReadySpec.vars false W args.toList ds gs before)
    (hsz : (DataW.weightsEach Try.prog (Try.f5.params.toList ++ Rows.policyReadySpec.plain.varTypes Try.prog) (ds ++ gs)).all (· ≤ reachBytes) = true) :
    Calls Try.prog 5 args W fun e W' =>
      ((Rows.policyReadySpec.fn H (ds ++ gs)).results = [.lit (.bool true)] ∧ (Rows.policyReadySpec.fn H (ds ++ gs)).args = ds ∧ (Rows.policyReadySpec.fn H (ds ++ gs)).vars = []) ∧ e = .returned (.bool true) ∧ Below W.heap.size W W' := by
  obtain ⟨p, q, hA0, hV, rfl, hfz, hnd⟩ := hW
  have hA : DataW.TrodAll enc Try.prog W 0 (fun _ => true) true Try.f5.params.toList args.toList ds p := hA0
  rw [Try.params5] at hA hval hsz
  obtain ⟨v0, v1, v2, d0, d1, d2, p0, p1, p2, rfl, rfl, rfl, h0, h1, h2⟩ := trodAll_three hA
  obtain ⟨rfl, rfl⟩ := trodVars_none hV
  obtain ⟨A_l, len_l, cap_l, rfl⟩ := okWide_slice Try.underlying30 (hval 0 30 v0 rfl rfl)
  obtain ⟨fuel_l, hf_l⟩ := h0
  obtain ⟨l_l, rfl, lc_l, cm_l, hR_l⟩ := dues_open hf_l
  obtain ⟨now, rfl, rfl, rfl, bd_now⟩ := open_int Try.underlying3 (hval 1 3 v1 rfl rfl) h1
  obtain ⟨A_bar, len_bar, cap_bar, rfl⟩ := okWide_slice Try.underlying47 (hval 2 47 v2 rfl rfl)
  obtain ⟨fuel_bar, hf_bar⟩ := h2
  obtain ⟨l_bar, rfl, lc_bar, cm_bar, hR_bar⟩ := ints_open hf_bar
  exact (policyReady_any hR_l lc_l cm_l now hR_bar lc_bar cm_bar).mono fun e W' h => ⟨⟨rfl, rfl, rfl⟩, h⟩
end Go.Proofs.Ytjmdpepghnhpkaa
