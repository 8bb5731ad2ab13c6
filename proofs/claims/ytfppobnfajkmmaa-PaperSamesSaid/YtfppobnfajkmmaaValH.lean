/-
  The contracts of the statements' own bytes and awake.
-/
import Derived.Test.YtfppobnfajkmmaaValG
namespace Go.Proofs.Ytfppobnfajkmmaa
open Go.RowKit
set_option linter.unusedVariables false

end Go.Proofs.Ytfppobnfajkmmaa
