/-
  The fifteenth layer's statements' own awake.
-/
import Derived.Test.YtjmdpepghnhpkaaDueL
namespace Go.Proofs.Ytjmdpepghnhpkaa
open Go.RowKit
set_option linter.unusedVariables false

set_option maxRecDepth 100000 in
set_option maxHeartbeats 1000000 in
theorem dawake_any (w : World) : Calls Try.prog 8 #[] w fun r w' => r = .returned (.bool true) ∧ Below w.heap.size w w' := by
  have hq := qnew w
  have hb : Below w.heap.size w (w.alloc (.cells #[.slice none 0 0] 32)) := (Below.refl _ w).alloc (Nat.le_refl _) _
  go_enter Try.func8, Try.ntmps8
  go_upto_region 2 with fail
  generalize w.alloc (.cells #[.slice none 0 0] 32) = W0 at hq hb ⊢
  have HB := Lib.hid hb
  have h1 := qadd_any hq (by decide) ⟨1, 5⟩
  dsimp only at h1
  have H1 := Lib.hid h1
  clear hb h1 hq
  go_wp2_with fail
  refine H1.out.mono ?_
  rintro r w1 ⟨rfl, s1, hq1, hm1, hs1⟩
  have HB1 := Lib.hid (hm1.below HB.out HB.out.size (by intro x hx; rw [List.mem_singleton.1 hx]; exact Nat.le_refl _))
  have HS1 := Lib.hid (fun x (hx : x ∈ s1) => (by rcases hs1 x hx with h | h; cases h; exact Nat.le_trans HB.out.size h : w.heap.size ≤ x))
  have h2 := qadd_any hq1 (by decide) ⟨2, 3⟩
  dsimp only at h2
  have H2 := Lib.hid h2
  clear h2 hq1 hm1 hs1 H1 HB
  go_wp2_with fail
  refine H2.out.mono ?_
  rintro r w2 ⟨rfl, s2, hq2, hm2, hs2⟩
  have HB2 := Lib.hid (hm2.below HB1.out HB1.out.size (by
    intro x hx
    rcases List.mem_cons.1 hx with rfl | hx
    · exact Nat.le_refl _
    · exact HS1.out x hx))
  have e2 : Du.put (Du.put [] ⟨1, 5⟩) ⟨2, 3⟩ = [⟨2, 3⟩, ⟨1, 5⟩] := by decide
  have h3 := qfirst_any hq2 (by rw [e2]; decide)
  rw [e2] at h3
  have H3 : Hid (Calls Try.prog 13 #[.pointer (some ⟨w.heap.size, 0, none⟩)] w2 fun r w' => r = .returned (.tuple #[.agg #[.int .i64 2, .int .i64 3], .bool true]) ∧ Below w2.heap.size w2 w') := Lib.hid h3
  clear h3 hq2 hm2 hs2 H2 e2 HB1 HS1
  go_wp2_with fail
  refine H3.out.mono ?_
  rintro r w3 ⟨rfl, hb3⟩
  have HB3 := Lib.hid (HB2.out.trans (hb3.mono HB2.out.size))
  clear hb3 H3 HB2
  have hba : Below w3.heap.size w3 (w3.alloc (.cells #[.int .i64 2, .int .i64 3] 34)) := (Below.refl _ w3).alloc (Nat.le_refl _) _
  have HB4 := Lib.hid (HB3.out.trans (hba.mono HB3.out.size))
  go_wp2_with fail
  go_ret
  exact ⟨rfl, HB4.out⟩
end Go.Proofs.Ytjmdpepghnhpkaa
