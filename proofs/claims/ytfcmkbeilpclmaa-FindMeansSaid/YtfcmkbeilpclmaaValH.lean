/-
  The contracts of the statements' own bytes and awake.
-/
import Derived.Test.YtfcmkbeilpclmaaValG
namespace Go.Proofs.Ytfcmkbeilpclmaa
open Go.RowKit
set_option linter.unusedVariables false

end Go.Proofs.Ytfcmkbeilpclmaa
