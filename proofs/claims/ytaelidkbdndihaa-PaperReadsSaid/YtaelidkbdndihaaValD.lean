/-
  The contracts of the statements' own right.
-/
import Derived.Test.YtaelidkbdndihaaValC
import Derived.Test.YtaelidkbdndihaaTake
namespace Go.Proofs.Ytaelidkbdndihaa
open Go.RowKit
set_option linter.unusedVariables false

end Go.Proofs.Ytaelidkbdndihaa
