/-
  The fourteenth layer's statements' own awake.
-/
import Derived.Test.YtihhgingdgepcaaEvX
namespace Go.Proofs.Ytihhgingdgepcaa
open Go.RowKit
set_option linter.unusedVariables false

def Ev.five : Evt := ⟨3, Ent.zero, 5, 0, [], 0, [], 0⟩
theorem Ev.five_few : EvtFew Ev.five := ⟨⟨Nat.zero_le _, fun x hx => (by cases hx), fun x hx => (by cases hx), fun x hx => (by cases hx), fun x hx => (by cases hx)⟩, Nat.zero_le _, Nat.zero_le _⟩
theorem Ev.five_bytes : Ev.bytes Ev.five = [1, 3, 1, 5] := by decide +kernel
set_option maxRecDepth 100000 in
theorem eawake_any (w : World) : Calls Try.prog 10 #[] w fun r w' => r = .returned (.bool true) ∧ Below w.heap.size w w' := by
  have HB := Lib.hid (fun W => bytesV_any (w := W) (v := Ev.five) (EntIn.zero W) Ev.five_few)
  rw [Ev.five_bytes] at HB
  have HV : Hid (Ev.five.val none 0 none 0 = .agg #[.int .i64 3, .string ⟨#[]⟩, .int .i64 0, .int .i64 0, .int .i64 0, .slice none 0 0, .bool false, .slice none 0 0, .int .i64 5, .int .i64 0, .string ⟨#[]⟩, .int .i64 0, .string ⟨#[]⟩, .int .i64 0]) := Lib.hid rfl
  rw [HV.out] at HB
  clear HV
  go_enter Try.func10, Try.ntmps10
  go_wp2_with fail
  refine (HB.out _).mono ?_
  rintro r w1 ⟨rfl, hb1⟩
  go_wp2_with fail
  go_ret
  exact ⟨rfl, hb1⟩
end Go.Proofs.Ytihhgingdgepcaa
