/-
  The contract of StateSames.
-/
import Derived.Test.YtojemaaljjibiaaPEvGm
import Derived.Test.YtojemaaljjibiaaPAws
import Derived.Test.YtojemaaljjibiaaPStaThree
open List (setIfInBounds_toArray set_cons_zero set_cons_succ)
namespace Go.Proofs.Ytojemaaljjibiaa
open Go.RowKit
set_option linter.unusedVariables false

/-- Two papers are read. -/
abbrev TwoX (b o : Nat) (x : EntX) (c p : Nat) (y : EntX) (W : World) : Prop :=
  (W.cell? ⟨b, o, none⟩ = some (.string (S x.e.id)) ∧ W.cell? ⟨b, o + 1, none⟩ = some (.int .i64 x.e.cls) ∧ W.cell? ⟨b, o + 2, none⟩ = some (.int .i64 x.e.born) ∧ W.cell? ⟨b, o + 3, none⟩ = some (.int .i64 x.e.slot) ∧
    W.cell? ⟨b, o + 4, none⟩ = some (.slice x.A x.e.L.length x.ca) ∧ W.cell? ⟨b, o + 5, none⟩ = some (.bool x.e.gone) ∧ W.cell? ⟨b, o + 6, none⟩ = some (.slice x.B x.e.H.length x.cb)) ∧
  (W.cell? ⟨c, p, none⟩ = some (.string (S y.e.id)) ∧ W.cell? ⟨c, p + 1, none⟩ = some (.int .i64 y.e.cls) ∧ W.cell? ⟨c, p + 2, none⟩ = some (.int .i64 y.e.born) ∧ W.cell? ⟨c, p + 3, none⟩ = some (.int .i64 y.e.slot) ∧
    W.cell? ⟨c, p + 4, none⟩ = some (.slice y.A y.e.L.length y.ca) ∧ W.cell? ⟨c, p + 5, none⟩ = some (.bool y.e.gone) ∧ W.cell? ⟨c, p + 6, none⟩ = some (.slice y.B y.e.H.length y.cb))
end Go.Proofs.Ytojemaaljjibiaa
