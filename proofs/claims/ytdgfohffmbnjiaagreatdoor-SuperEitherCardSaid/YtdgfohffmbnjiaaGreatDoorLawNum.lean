/-
  The contract of the statements' own num.
-/
import Derived.Test.YtdgfohffmbnjiaaGreatDoorNum
namespace Go.Proofs.YtdgfohffmbnjiaaGreatDoor
open Go.RowKit

set_option maxHeartbeats 400000 in
theorem text_any (l : List UInt8) (w : World) (hl : l.length ≤ 140737488351232) :
    Calls Tryz.prog 36 #[.string (S l)] w fun e w' => e = .returned (.string (S (M.encL l.length ++ l))) ∧ Below w.heap.size w w' := by
  have hb := M.encL_len l.length
  have hlim : ¬ 9223372036854775807 < (M.encL l.length).length + l.length := by omega
  go_enter Tryz.func36, Tryz.ntmps36
  go_wp2_with (go_at_call 37; refine (num_any _ _).mono ?_; rintro e w1 ⟨rfl, hb1⟩)
  go_ret
  exact ⟨rfl, hb1⟩

end Go.Proofs.YtdgfohffmbnjiaaGreatDoor
