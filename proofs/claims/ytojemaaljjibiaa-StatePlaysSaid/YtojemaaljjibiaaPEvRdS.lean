/-
  EvRdS: the texts TextsSpec, EvRead, EvSame in one.
-/
import Derived.Test.YtojemaaljjibiaaPStaOne
import Derived.Test.YtojemaaljjibiaaPEvWr
import Derived.Test.YtojemaaljjibiaaPEvRefs
namespace Go.Proofs.Ytojemaaljjibiaa
open Go.RowKit
namespace R
def textsK : Nat → Int → St → List (List UInt8) → List (List UInt8) × St
  | 0, _, st, acc => (acc, st)
  | k + 1, m, st, acc => if (text m st).2.2 = 0 then textsK k m (text m st).2 (acc ++ [(text m st).1]) else ([], (text m st).2)
def texts (many m : Int) (st : St) : List (List UInt8) × St := textsK (num many st).1.toNat m (num many st).2 []

end R

/-- Behind a step that turned one row of the call's own. -/
theorem Only.own {w w2 w3 : World} {g : Nat} {row : Option Nat} (h : Only w w2 g) (hg : w2.grownBy w3 row) (hr : ∀ k, row = some k → w.heap.size ≤ k) : Only w w3 g :=
  ⟨hg.os.trans h.os, hg.tape.trans h.tape, hg.output.trans h.output, Nat.le_trans h.size hg.size, fun i hi hn => (hg.block i (Nat.lt_of_lt_of_le hi h.size) (fun e => by have := hr i e.symm; omega)).trans (h.block i hi hn)⟩
end Go.Proofs.Ytojemaaljjibiaa

namespace Go.Proofs.Ytojemaaljjibiaa
set_option linter.unusedVariables false

namespace R
end R
namespace Ev
open R (St)
/-! errors stay -/
/-! what was read -/
end Ev
namespace R
end R
namespace Ev
open R (St)
/-! what may be is read again -/
end Ev
end Go.Proofs.Ytojemaaljjibiaa

namespace Go.Proofs.Ytojemaaljjibiaa
open Go.RowKit
set_option linter.unusedVariables false

end Go.Proofs.Ytojemaaljjibiaa
