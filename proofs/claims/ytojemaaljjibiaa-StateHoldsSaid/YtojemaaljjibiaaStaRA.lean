/-
  The reference's paper of the sixteenth layer.
-/
import Derived.Test.YtojemaaljjibiaaStaTwo
import Derived.Test.YtojemaaljjibiaaStaThree
import Derived.Deep.LoopGhost
import Derived.Deep.QuietTactic
import Derived.Deep.DeepCutAuto
import Derived.Deep.CutBlock
namespace Go.Proofs.Ytojemaaljjibiaa
open Go.RowKit
set_option linter.unusedVariables false

end Go.Proofs.Ytojemaaljjibiaa
