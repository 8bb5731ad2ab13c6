/-
  The contract of sha's rotated.
-/
import Derived.Test.YtgjknfphmmlcdaaDoorWord
import Derived.Test.YtgjknfphmmlcdaaDoorProg
import Derived.Deep.QuietTactic
import Derived.BigQuiet
namespace Go.Proofs.YtgjknfphmmlcdaaDoor
open Go.RowKit
set_option linter.unusedVariables false
def RotPost (w : World) (x : UInt32) (n : Nat) (e : Ending) (w' : World) : Prop := e = .returned (.int .u32 ((rotr x n).toNat : Int)) ∧ ∃ k, w' = w.drewN k
set_option maxHeartbeats 1000000 in
theorem rot_any (x : UInt32) (n : Nat) (hn1 : n < 32) (w : World) :
    Calls Tryd.prog 66 #[.int .u32 (x.toNat : Int), .int .i64 (n : Int)] w (RotPost w x n) := by
  have n0 : (0 : Int) ≤ (n : Int) := by omega
  have n1 : (n : Int) ≤ 31 := by omega
  have n2 : (0 : Int) ≤ 32 - (n : Int) := by omega
  have hr := w_rotr x n (by omega)
  have HR := Lib.hid hr; clear hr
  go_enter Tryd.func66, Tryd.ntmps66
  go_wp2_with fail
  go_quiet (fail)
  go_wp2_with fail
  rw [HR.out]
  go_ret
  exact ⟨rfl, _, rfl⟩
end Go.Proofs.YtgjknfphmmlcdaaDoor
