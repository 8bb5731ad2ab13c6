/-
  The contracts of paper's isWord, IsID, IsName, and of the statements' own word.
-/
import Derived.Test.YtfcmkbeilpclmaaPapSpec
import Derived.Test.YtfcmkbeilpclmaaPapWd
import Derived.Test.YtfcmkbeilpclmaaNum
namespace Go.Proofs.Ytfcmkbeilpclmaa
open Go.RowKit
set_option linter.unusedVariables false

end Go.Proofs.Ytfcmkbeilpclmaa
