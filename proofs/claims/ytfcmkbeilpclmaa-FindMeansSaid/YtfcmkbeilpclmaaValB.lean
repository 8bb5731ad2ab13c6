/-
  The contracts of value's Right, and of the statements' own nan, clean and right.
-/
import Derived.Test.YtfcmkbeilpclmaaVal
namespace Go.Proofs.Ytfcmkbeilpclmaa
open Go.RowKit
set_option linter.unusedVariables false

theorem shl_one (b : Nat) (hb : b < 18446744073709551616) : decide ((18437736874454810624 : Int) < (b : Int) * 2 % 18446744073709551616) = Val.nan b := by
  unfold Val.nan
  rw [decide_eq_decide]
  omega

end Go.Proofs.Ytfcmkbeilpclmaa
