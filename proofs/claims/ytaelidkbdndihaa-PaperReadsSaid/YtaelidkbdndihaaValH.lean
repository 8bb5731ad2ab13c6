/-
  The contracts of the statements' own bytes and awake.
-/
import Derived.Test.YtaelidkbdndihaaValG
namespace Go.Proofs.Ytaelidkbdndihaa
open Go.RowKit
set_option linter.unusedVariables false

end Go.Proofs.Ytaelidkbdndihaa
