/-
  JournalSectors: what the sectors of a journal hold.
-/
import Derived.Test.YtjdklifkalnamaaGreatDoorJrnSect
import Derived.Test.YtjdklifkalnamaaGreatDoorJrnArgT
import Derived.Test.YtjdklifkalnamaaGreatDoorLaw
import Derived.Test.YtjdklifkalnamaaGreatDoorRows
import Derived.SizedLaws
namespace Go.Proofs.YtjdklifkalnamaaGreatDoor
open Go.ChangeShapes Go.WideShapes Go.ChangeAt Go.RowKit
open Go.ChangeMaps (open_string shut_string)
set_option linter.unusedVariables false

set_option maxRecDepth 100000 in
theorem journalSectors_contract {H : Type} (enc : TypeId × Value → H) (W : World) (base : Nat) (args : Array Value) (ds gs : List (DataW H)) (before : List MemPlace)
    (hval : ∀ (j : Nat) t v, Tryz.f4.params[j]? = some t → args[j]? = some v → Value.okWide Tryz.prog W .any base t v)
    (hW : DataW.Whole enc Tryz.prog Tryz.f4.params.toList Rows.journalSectorsSpec.vars false W args.toList ds gs before)
    (hsz : (DataW.weightsEach Tryz.prog (Tryz.f4.params.toList ++ Rows.journalSectorsSpec.plain.varTypes Tryz.prog) (ds ++ gs)).all (· ≤ reachBytes) = true) :
    Calls Tryz.prog 4 args W fun e W' =>
      ((Rows.journalSectorsSpec.fn H (ds ++ gs)).results = [.lit (.bool true)] ∧ (Rows.journalSectorsSpec.fn H (ds ++ gs)).args = ds ∧ (Rows.journalSectorsSpec.fn H (ds ++ gs)).vars = []) ∧ e = .returned (.bool true) ∧ Below W.heap.size W W' := by
  obtain ⟨p, q, hA0, hV, rfl, hfz, hnd⟩ := hW
  have hA : DataW.TrodAll enc Tryz.prog W 0 (fun _ => true) true Tryz.f4.params.toList args.toList ds p := hA0
  rw [Tryz.params4] at hA hval hsz
  obtain ⟨v0, d0, rfl, rfl, h0⟩ := trodAll_one hA
  obtain ⟨rfl, rfl⟩ := trodVars_none hV
  obtain ⟨A_s, len_s, cap_s, rfl⟩ := okWide_slice Tryz.underlying28 (hval 0 28 v0 rfl rfl)
  obtain ⟨fuel_s, hf_s⟩ := h0
  obtain ⟨l_s, rfl, lc_s, cm_s, hA_s, hB_s⟩ := jtexts_open hf_s (fun n hn => by
    have h := List.all_eq_true.1 hsz n (DataW.weights_mem_each (j := 0) (t := 28) (d := d0) rfl rfl n hn)
    exact Nat.le_trans (by simpa using h) (by decide))
  exact (jsectors_any l_s A_s cap_s W lc_s cm_s hA_s).mono fun e W' h => ⟨⟨rfl, rfl, rfl⟩, h⟩
end Go.Proofs.YtjdklifkalnamaaGreatDoor
