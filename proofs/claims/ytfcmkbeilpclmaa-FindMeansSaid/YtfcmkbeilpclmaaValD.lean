/-
  The contracts of the statements' own right.
-/
import Derived.Test.YtfcmkbeilpclmaaValC
import Derived.Test.YtfcmkbeilpclmaaTake
namespace Go.Proofs.Ytfcmkbeilpclmaa
open Go.RowKit
set_option linter.unusedVariables false

end Go.Proofs.Ytfcmkbeilpclmaa
