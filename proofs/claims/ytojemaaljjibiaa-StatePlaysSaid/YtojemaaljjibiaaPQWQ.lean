/-
  QWQ: the texts StaQW, StaQ in one.
-/
import Derived.Test.YtojemaaljjibiaaPQUV
import Derived.Test.YtojemaaljjibiaaPEvRdS
namespace Go.Proofs.Ytojemaaljjibiaa
open Go.RowKit
set_option linter.unusedVariables false

end Go.Proofs.Ytojemaaljjibiaa

namespace Go.Proofs.Ytojemaaljjibiaa
open Go.RowKit
set_option linter.unusedVariables false

theorem StAt.works {w : World} {q : Nat} {s ot : List Nat} {st : Sta} {n : Nat} (h : StAt w q s ot st n) : Calls Try.prog 34 #[.pointer (some ⟨q, 0, none⟩)] w fun r w' => r = .returned (.bool true) ∧ w' = w := by
  obtain ⟨⟨M, _, hr⟩, _⟩ := h
  obtain ⟨_, _, _, _, _, h1, _⟩ := hr.ex
  exact works_has h1
section
variable {w : World} {q : Nat} {s ot : List Nat} {st : Sta} {n : Nat}
end
end Go.Proofs.Ytojemaaljjibiaa
