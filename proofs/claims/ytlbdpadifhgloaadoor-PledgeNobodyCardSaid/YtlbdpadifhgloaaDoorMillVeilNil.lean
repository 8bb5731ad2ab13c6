/-
  The contract of Veil of a mill that is nil.
-/
import Derived.Test.YtlbdpadifhgloaaDoorMillVeil
namespace Go.Proofs.YtlbdpadifhgloaaDoor
open Go.RowKit
set_option linter.unusedVariables false

set_option maxHeartbeats 2000000 in
theorem veil_nil (k l s : ByteArray) (w : World) : Calls Tryd.prog 25 #[.pointer none, .string k, .string l, .string s] w fun e w' => e = .returned (.string (S [])) ∧ Below w.heap.size w w' := by
  have hcv := conv_bytes (P := Tryd.prog) Tryd.underlying9 Tryd.underlying64 Tryd.underlying5 w []
  have hcb := conv_bytes_text (P := Tryd.prog) Tryd.underlying64 Tryd.underlying5 Tryd.underlying9 (Bytes.nil (bworld w 5 []) w.heap.size (some ⟨w.heap.size, 0, none⟩)) (bcap w 5 [])
  have hbw := bworld_below w 5 []
  simp only [List.length_nil] at hcv hcb
  generalize bworld w 5 [] = W at hcv hcb hbw
  have HB := Lib.hid hbw; clear hbw
  go_enter Tryd.func25, Tryd.ntmps25
  go_wp2_with fail
  refine (stream_nil _ _ _ _).mono ?_
  rintro r1 w1 ⟨rfl, rfl⟩
  go_wp2_with fail
  refine wp_loop_rounds 1 ?_
  rw [rounds_succ]
  go_wp2_with fail
  go_ret
  exact ⟨rfl, HB.out⟩
end Go.Proofs.YtlbdpadifhgloaaDoor
