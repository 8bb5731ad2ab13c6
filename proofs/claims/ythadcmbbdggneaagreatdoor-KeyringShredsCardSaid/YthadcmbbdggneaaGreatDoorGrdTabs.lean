/-
  A world for the witness of the guard's cards: Go's own two tables of UTF-8 hold what the program's text lays.
-/
import Derived.Test.YthadcmbbdggneaaGreatDoorLaw
import Derived.Test.YthadcmbbdggneaaGreatDoorCards
import Derived.Test.YthadcmbbdggneaaGreatDoorTie
import Derived.Deep.DeepHandedRow
import Derived.Lib.LaidTab
import Derived.OpenShut
namespace Go.Proofs.YthadcmbbdggneaaGreatDoor
open Go.ChangeShapes Go.WideShapes Go.ChangeAt Go.RowKit
set_option linter.unusedVariables false

def layBytes (z : List Nat) : Obj → Obj
  | .cells _ t frozen => .cells (z.map fun x : Nat => Value.int .u8 (Int.ofNat x)).toArray t frozen
  | o => o
def zRanges : List Nat := [128, 191, 160, 191, 128, 159, 144, 191, 128, 143, 0, 0, 0, 0, 0, 0, 0, 0, 0, 0, 0, 0, 0, 0, 0, 0, 0, 0, 0, 0, 0, 0]
noncomputable def laidWorldG (os : Os) : World :=
  { World.holding Tryz.prog os ⟨#[], #[], []⟩ with heap := (((World.holding Tryz.prog os ⟨#[], #[], []⟩).heap.modify 2 (layBytes zRanges)).modify 1 (layBytes Go.Pinned.utf8FirstZ)) }
theorem own : ownKnob Tryz.prog.godebug = none := by kernel_rfl
theorem laidOut : laidOutB Tryz.prog = true := by kernel_rfl
end Go.Proofs.YthadcmbbdggneaaGreatDoor
