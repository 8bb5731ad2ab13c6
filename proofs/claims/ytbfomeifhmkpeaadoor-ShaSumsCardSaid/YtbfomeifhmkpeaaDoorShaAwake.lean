/-
  The contract of the second layer's statements' awake.
-/
import Derived.Test.YtbfomeifhmkpeaaDoorShaSum
namespace Go.Proofs.YtbfomeifhmkpeaaDoor
open Go.RowKit
set_option linter.unusedVariables false

theorem awake_sum : hexs (Sha.sum [97, 98, 99]) = [98, 97, 55, 56, 49, 54, 98, 102, 56, 102, 48, 49, 99, 102, 101, 97, 52, 49, 52, 49, 52, 48, 100, 101, 53, 100, 97, 101, 50, 50, 50, 51, 98, 48, 48, 51, 54, 49, 97, 51, 57, 54, 49, 55, 55, 97, 57, 99, 98, 52, 49, 48, 102, 102, 54, 49, 102, 50, 48, 48, 49, 53, 97, 100] := by
  decide +kernel
set_option maxHeartbeats 2000000 in
theorem awake_any (w : World) (hT : Tabs w) : Calls Tryd.prog 6 #[] w fun e w' => e = .returned (.bool true) ∧ Below w.heap.size w w' := by
  have hS := sum_any [97, 98, 99] w (by decide) hT
  have hl := Sha.sum_len [97, 98, 99]
  have hH := fun W => hex_any (Sha.sum [97, 98, 99]) W (by rw [hl]; decide)
  rw [awake_sum] at hH
  generalize Sha.sum [97, 98, 99] = m at hS hH
  have HS := Lib.hid hS; clear hS
  have HH := Lib.hid hH; clear hH hl
  go_enter Tryd.func6, Tryd.ntmps6
  go_wp2_with fail
  refine (HS.out).mono ?_
  rintro r1 w1 ⟨rfl, hb1⟩
  go_wp2_with fail
  refine (HH.out _).mono ?_
  rintro r2 w2 ⟨rfl, hb2⟩
  go_wp2_with fail
  go_ret
  exact ⟨rfl, hb1.trans (hb2.mono hb1.size)⟩
end Go.Proofs.YtbfomeifhmkpeaaDoor
