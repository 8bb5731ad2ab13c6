/-
  The contract of OctetBack: the argument opened.
-/
import Derived.Test.YtclocjfnkaaenaaBack
namespace Go.Proofs.Ytclocjfnkaaenaa
open Go.ChangeShapes Go.WideShapes Go.ChangeAt Go.RowKit
set_option linter.unusedVariables false

theorem octetBack_contract {H : Type} (enc : TypeId × Value → H) (W : World) (base : Nat) (args : Array Value) (ds gs : List (DataW H)) (before : List MemPlace)
    (hval : ∀ (j : Nat) t v, Try.f4.params[j]? = some t → args[j]? = some v → Value.okWide Try.prog W .any base t v)
    (hW : DataW.Whole enc Try.prog Try.f4.params.toList Rows.octetBackSpec.vars false W args.toList ds gs before)
    (hk : Rows.uptoSmall H (ds ++ gs) = true) :
    Calls Try.prog 4 args W fun e W' =>
      ((Rows.octetBackSpec.fn H (ds ++ gs)).results = [.lit (.bool true)] ∧ (Rows.octetBackSpec.fn H (ds ++ gs)).args = ds ∧ (Rows.octetBackSpec.fn H (ds ++ gs)).vars = []) ∧ e = .returned (.bool true) ∧ Below W.heap.size W W' := by
  obtain ⟨p, q, hA0, hV, rfl, hfz, hnd⟩ := hW
  have hA : DataW.TrodAll enc Try.prog W 0 (fun _ => true) true Try.f4.params.toList args.toList ds p := hA0
  rw [Try.params4] at hA hval
  obtain ⟨v0, d0, rfl, rfl, h0⟩ := trodAll_one hA
  obtain ⟨rfl, rfl⟩ := trodVars_none hV
  obtain ⟨A, len, cap, rfl⟩ := okWide_slice Try.underlying22 (hval 0 22 v0 rfl rfl)
  obtain ⟨fuel, hf⟩ := h0
  have hb : Rows.uptoBulk d0 ≤ 1048576 := by
    have := Bulk.small hk
    simp only [List.append_nil, Rows.uptoBulkAll] at this
    omega
  rcases items_open hf hb with rfl | ⟨b, off, rfl, hlt, xs, rfl, hin, hx, hlen⟩
  · exact (octetBack_empty A cap W).mono fun e W' h => ⟨⟨rfl, rfl, rfl⟩, h⟩
  · exact (octetBack_rounds xs b off cap W hlen hx hin hlt).mono fun e W' h => ⟨⟨rfl, rfl, rfl⟩, h⟩
end Go.Proofs.Ytclocjfnkaaenaa
