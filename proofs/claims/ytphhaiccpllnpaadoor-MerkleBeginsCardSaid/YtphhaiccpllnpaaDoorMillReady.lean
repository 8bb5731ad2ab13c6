/-
  The contract of mill's ready.
-/
import Derived.Test.YtphhaiccpllnpaaDoorMillPad
import Derived.Laws.Rows
namespace Go.Proofs.YtphhaiccpllnpaaDoor
open Go.RowKit
set_option linter.unusedVariables false

/-- A key made ready. -/
def Mill.kh (l : List Mill.En) (k : List UInt8) : List UInt8 := if Mill.keyed l then Sha.sum k else []
def secVal (a b c : List UInt8) : Value := .agg #[.string (S a), .string (S b), .string (S c)]
def ReadyPost (w : World) (a b c : List UInt8) (e : Ending) (w' : World) : Prop := e = .returned (secVal a b c) ∧ Below w.heap.size w w'

end Go.Proofs.YtphhaiccpllnpaaDoor
