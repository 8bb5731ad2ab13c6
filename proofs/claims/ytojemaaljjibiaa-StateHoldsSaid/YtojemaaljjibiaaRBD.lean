/-
  RBD: the texts StaRB, StaRC, StaRD in one.
-/
import Derived.Test.YtojemaaljjibiaaStaTwo
import Derived.Test.YtojemaaljjibiaaStaThree
import Derived.Test.YtojemaaljjibiaaEvFewE
import Derived.Deep.LoopGhost
import Derived.Deep.QuietTactic
import Derived.Deep.DeepCutAuto
import Derived.Deep.CutBlock
import Derived.Maps.AppendAt
import Derived.Test.YtojemaaljjibiaaEvRefs
namespace Go.Proofs.Ytojemaaljjibiaa
open Go.RowKit
open Go.Op (bytesLess)
set_option linter.unusedVariables false

end Go.Proofs.Ytojemaaljjibiaa

namespace Go.Proofs.Ytojemaaljjibiaa
open Go.RowKit
set_option linter.unusedVariables false

end Go.Proofs.Ytojemaaljjibiaa

namespace Go.Proofs.Ytojemaaljjibiaa
open Go.RowKit
set_option linter.unusedVariables false

end Go.Proofs.Ytojemaaljjibiaa
