/-
  The contract of the third layer's statements' awake.
-/
import Derived.Test.YtjajlofcpfgjhaaDoorMillTag
namespace Go.Proofs.YtjajlofcpfgjhaaDoor
open Go.RowKit
set_option linter.unusedVariables false

theorem awakeMill_sum : hexs (Mill.tag [] [] []) = [98, 54, 49, 51, 54, 55, 57, 97, 48, 56, 49, 52, 100, 57, 101, 99, 55, 55, 50, 102, 57, 53, 100, 55, 55, 56, 99, 51, 53, 102, 99, 53, 102, 102, 49, 54, 57, 55, 99, 52, 57, 51, 55, 49, 53, 54, 53, 51, 99, 54, 99, 55, 49, 50, 49, 52, 52, 50, 57, 50, 99, 53, 97, 100] := by
  decide +kernel
set_option maxHeartbeats 2000000 in
theorem awakeMill_any (w : World) (hT : Tabs w) : Calls Tryd.prog 15 #[] w fun e w' => e = .returned (.bool true) ∧ Below w.heap.size w w' := by
  have hTag := fun W (hM : MillAt W (w.heap.size + 1) w.heap.size [] Mill.fresh) (hTW : Tabs W) => millTag_any [] [] (w.heap.size + 1) w.heap.size [] Mill.fresh W hM (Nat.zero_le _) (Nat.zero_le _) hTW
  have hl := Mill.tag_len [] rfl [] []
  have hH := fun W => hex_any (Mill.tag [] [] []) W (by rw [hl]; decide)
  rw [awakeMill_sum] at hH
  generalize Mill.tag [] [] [] = m at hTag hH
  have HTAG := Lib.hid hTag; clear hTag
  have HH := Lib.hid hH; clear hH hl
  have HT := Lib.hid hT; clear hT
  go_enter Tryd.func15, Tryd.ntmps15
  go_wp2_with fail
  refine (newMill_any w).mono ?_
  rintro r1 w1 ⟨rfl, hM1, hb1, hs1, _⟩
  go_wp2_with fail
  refine (HTAG.out w1 hM1 (HT.out.below hb1 HT.out.2.2)).mono ?_
  rintro r2 w2 ⟨rfl, hb2⟩
  go_wp2_with fail
  refine (HH.out w2).mono ?_
  rintro r3 w3 ⟨rfl, hb3⟩
  go_wp2_with fail
  go_ret
  exact ⟨rfl, (hb1.trans (hb2.mono hb1.size)).trans (hb3.mono (Nat.le_trans hb1.size hb2.size))⟩
end Go.Proofs.YtjajlofcpfgjhaaDoor
