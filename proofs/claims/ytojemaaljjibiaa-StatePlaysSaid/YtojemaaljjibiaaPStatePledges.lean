/-
  The contract of StatePledges.
-/
import Derived.Test.YtojemaaljjibiaaPStateSames
import Derived.Test.YtojemaaljjibiaaPStaThree
open List (setIfInBounds_toArray set_cons_zero set_cons_succ)
namespace Go.Proofs.Ytojemaaljjibiaa
open Go.RowKit
set_option linter.unusedVariables false

theorem Outs.get {M1 M2 : List EntX} {P R : List Ent} (h1 : M1.map EntX.e = P) (h2 : M2.map EntX.e = R) (h : Sta.Outs P R) : M1.length ≤ M2.length ∧ ∀ (k : Nat) (a : k < M1.length) (b : k < M2.length), Sta.Out (M1[k]).e (M2[k]).e := by
  subst h1 h2
  refine ⟨by simpa using h.1, fun k a b => h.2 k _ _ ?_ ?_⟩
  · rw [List.getElem?_map, List.getElem?_eq_getElem a]; rfl
  · rw [List.getElem?_map, List.getElem?_eq_getElem b]; rfl
end Go.Proofs.Ytojemaaljjibiaa
