/-
  The reference's RightEntry of the fourteenth layer.
-/
import Derived.Test.YtojemaaljjibiaaEvRefA
import Derived.Test.YtojemaaljjibiaaStaTwo
import Derived.Test.YtojemaaljjibiaaStaThree
namespace Go.Proofs.Ytojemaaljjibiaa
open Go.RowKit
open Go.Op (bytesLess)
set_option linter.unusedVariables false

/-- Texts that are not endless. -/
structure EntFew (e : Ent) : Prop where
  id : e.id.length ≤ 1000000
  h : ∀ x ∈ e.H, x.length ≤ 1000000
  n : ∀ x ∈ e.L, x.n.length ≤ 1000000
  p : ∀ x ∈ e.L, x.p.length ≤ 1000000
  c : ∀ x ∈ e.L, x.c.length ≤ 1000000
end Go.Proofs.Ytojemaaljjibiaa
