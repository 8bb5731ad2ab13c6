/-
  The contract of the third layer's statements' awake.
-/
import Derived.Test.YtphhaiccpllnpaaDoorMillTag
namespace Go.Proofs.YtphhaiccpllnpaaDoor
open Go.RowKit
set_option linter.unusedVariables false

theorem awakeMill_sum : hexs (Mill.tag [] [] []) = [98, 54, 49, 51, 54, 55, 57, 97, 48, 56, 49, 52, 100, 57, 101, 99, 55, 55, 50, 102, 57, 53, 100, 55, 55, 56, 99, 51, 53, 102, 99, 53, 102, 102, 49, 54, 57, 55, 99, 52, 57, 51, 55, 49, 53, 54, 53, 51, 99, 54, 99, 55, 49, 50, 49, 52, 52, 50, 57, 50, 99, 53, 97, 100] := by
  decide +kernel
end Go.Proofs.YtphhaiccpllnpaaDoor
