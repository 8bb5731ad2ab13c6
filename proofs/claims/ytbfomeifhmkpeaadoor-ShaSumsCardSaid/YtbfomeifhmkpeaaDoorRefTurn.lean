/-
  The contract of the reference's turn.
-/
import Derived.Test.YtbfomeifhmkpeaaDoorRefWord
import Derived.Test.YtbfomeifhmkpeaaDoorProg
import Derived.Deep.QuietTactic
import Derived.BigQuiet
namespace Go.Proofs.YtbfomeifhmkpeaaDoor
open Go.RowKit
set_option linter.unusedVariables false
def TurnPost (w : World) (x : UInt32) (n : Nat) (e : Ending) (w' : World) : Prop := e = .returned (.int .i64 ((rotr x n).toNat : Int)) ∧ ∃ k, w' = w.drewN k
set_option maxHeartbeats 1000000 in
theorem turn_any (x : UInt32) (n : Nat) (h1 : 2 ≤ n) (h2 : n < 32) (w : World) :
    Calls Tryd.prog 20 #[.int .i64 (x.toNat : Int), .int .i64 (n : Int)] w (TurnPost w x n) := by
  have n0 : (0 : Int) ≤ (n : Int) := by omega
  have n1 : (n : Int) ≤ 31 := by omega
  have n2 : (0 : Int) ≤ 32 - (n : Int) := by omega
  have hw := w_lt x
  have x0 : (0 : Int) ≤ (x.toNat : Int) := by omega
  have x1 : (x.toNat : Int) < 4294967296 := by omega
  have hr := v_turn x n h1 (by omega)
  have b2 : IntKind.i64.wrap ((x.toNat : Int) * 2 ^ (32 - n)) = (x.toNat : Int) * 2 ^ (32 - n) := by
    have : 2 ^ (32 - n) ≤ 2 ^ 30 := Nat.pow_le_pow_right (by omega) (by omega)
    have h3 : x.toNat * 2 ^ (32 - n) ≤ x.toNat * 2 ^ 30 := Nat.mul_le_mul_left _ this
    have e : ((x.toNat : Int) * 2 ^ (32 - n)) = ((x.toNat * 2 ^ (32 - n) : Nat) : Int) := by simp
    rw [e, IntKind.wrap_i64]
    omega
  have HR := Lib.hid hr; clear hr hw
  go_enter Tryd.func20, Tryd.ntmps20
  go_wp2_with fail
  go_quiet (fail)
  go_wp2_with fail
  rw [HR.out]
  go_ret
  exact ⟨rfl, _, rfl⟩
end Go.Proofs.YtbfomeifhmkpeaaDoor
