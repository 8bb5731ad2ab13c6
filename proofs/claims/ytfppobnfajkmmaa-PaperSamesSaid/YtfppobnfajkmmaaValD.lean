/-
  The contracts of the statements' own right.
-/
import Derived.Test.YtfppobnfajkmmaaValC
import Derived.Test.YtfppobnfajkmmaaTake
namespace Go.Proofs.Ytfppobnfajkmmaa
open Go.RowKit
set_option linter.unusedVariables false

end Go.Proofs.Ytfppobnfajkmmaa
