/-
  The contract of the statements' own awake.
-/
import Derived.Test.YtfppobnfajkmmaaPapC
namespace Go.Proofs.Ytfppobnfajkmmaa
open Go.RowKit Go.Lib
set_option linter.unusedVariables false

theorem awake_bytes : Pap.bytes [97] 2 [⟨[120], ⟨1, true, 0, 0, []⟩⟩] = ([1, 1, 97, 1, 2, 1, 1, 1, 1, 120, 1, 3, 1, 1, 1], 0) := by decide +kernel

set_option maxHeartbeats 1000000 in
theorem awake_any (w : World) : Calls Try.prog 12 #[] w fun e w' => e = .returned (.bool true) ∧ Below w.heap.size w w' := by
  have hB := fun (W : World) h => pbytes_any [97] 2 [⟨[120], ⟨1, true, 0, 0, []⟩⟩] w.heap.size 1 (some ⟨w.heap.size, 0, none⟩) W h (by decide) (by decide) (by decide) (by intro x hx; rw [List.mem_singleton] at hx; subst hx; exact ⟨by decide, by decide, by decide⟩)
  rw [awake_bytes] at hB
  have hg : Has (w.alloc (.cells (fcs [120] 1 true 0 0 []) 40)) w.heap.size 40 (fcs [120] 1 true 0 0 []) := Has.made w _ _
  have hF : FSl (w.alloc (.cells (fcs [120] 1 true 0 0 []) 40)) w.heap.size (some ⟨w.heap.size, 0, none⟩) [⟨[120], ⟨1, true, 0, 0, []⟩⟩] := fun _ => by
    refine ⟨0, rfl, hg.lt, fun i hi => ?_⟩
    obtain rfl : i = 0 := by simp at hi; omega
    exact flies hg
  have HB := Lib.hid (hB _ hF); clear hB hg hF
  go_enter Try.func12, Try.ntmps12
  go_wp2_with fail
  refine (HB.out).mono ?_
  rintro e w2 ⟨rfl, hb2⟩
  have hc : S [1, 1, 97, 1, 2, 1, 1, 1, 1, 120, 1, 3, 1, 1, 1] = ⟨#[1, 1, 97, 1, 2, 1, 1, 1, 1, 120, 1, 3, 1, 1, 1]⟩ := rfl
  rw [hc]
  go_wp2_with fail
  go_ret
  exact ⟨rfl, (up1 _).trans (hb2.mono (by simp))⟩
end Go.Proofs.Ytfppobnfajkmmaa
