/-
  The contract of PolicyNobody.
-/
import Derived.Test.YtjmdpepghnhpkaaDueN
namespace Go.Proofs.Ytjmdpepghnhpkaa
open Go.RowKit
set_option linter.unusedVariables false

set_option maxRecDepth 100000 in
set_option maxHeartbeats 4000000 in
theorem policyNobody_any (d : Du) (w : World) : Calls Try.prog 6 #[.agg #[.int .i64 d.seq, .int .i64 d.due]] w fun r w' => r = .returned (.bool true) ∧ Below w.heap.size w w' := by
  obtain ⟨s, t⟩ := d
  dsimp only
  have HADD := Lib.hid (fun W => dn_add s t W)
  have HFI := Lib.hid (fun W => dn_first W)
  have HTA := Lib.hid (fun W => dn_take W)
  have HRE := Lib.hid (fun W => dn_ready t W)
  have HDR := Lib.hid (fun W => dn_drop s W)
  have HLE := Lib.hid (fun W => dn_len W)
  have HAL := Lib.hid (fun W => dn_all W)
  have HAW := Lib.hid dawake_any
  have hb : Below w.heap.size w (w.alloc (.cells #[.int .i64 s, .int .i64 t] 34)) := (Below.refl _ w).alloc (Nat.le_refl _) _
  have hh := Has.made w 34 #[.int .i64 s, .int .i64 t]
  go_enter Try.func6, Try.ntmps6
  go_upto_region 1 with fail
  generalize w.alloc (.cells #[.int .i64 s, .int .i64 t] 34) = W0 at hb hh ⊢
  obtain ⟨b0, hq0⟩ : ∃ b0, w.heap.size = b0 := ⟨_, rfl⟩
  rw [hq0] at hh ⊢
  have hlt := hh.lt
  have HC := Lib.hid (fun W (h : Below W0.heap.size W0 W) => (⟨(hh.below h hlt).cell 0, (hh.below h hlt).cell 1⟩ : W.cell? ⟨b0, 0, none⟩ = some (.int .i64 s) ∧ W.cell? ⟨b0, 1, none⟩ = some (.int .i64 t)))
  have HB := Lib.hid hb
  obtain ⟨c0, c1⟩ := HC.out W0 (Below.refl _ _)
  clear hb hq0 hh hlt
  go_wp2_with fail
  refine (HADD.out W0).mono ?_
  rintro r w1 ⟨rfl, hb1⟩
  have HX1 := Lib.hid hb1
  clear hb1 c0 c1
  go_wp2_with fail
  refine (HFI.out w1).mono ?_
  rintro r w2 ⟨⟨a2, b2, rfl⟩, hb2⟩
  have hba : Below w2.heap.size w2 (w2.alloc (.cells #[.int .i64 a2, .int .i64 b2] 34)) := (Below.refl _ w2).alloc (Nat.le_refl _) _
  have HX2 := Lib.hid ((HX1.out.trans (hb2.mono HX1.out.size)).trans (hba.mono (Nat.le_trans HX1.out.size hb2.size)))
  clear hb2 hba HX1
  go_upto_region 4 with fail
  generalize w2.alloc (.cells #[.int .i64 a2, .int .i64 b2] 34) = W3 at HX2 ⊢
  go_wp2_with fail
  refine (HTA.out W3).mono ?_
  rintro r w4 ⟨⟨a4, b4, rfl⟩, hb4⟩
  have hba : Below w4.heap.size w4 (w4.alloc (.cells #[.int .i64 a4, .int .i64 b4] 34)) := (Below.refl _ w4).alloc (Nat.le_refl _) _
  have HX4 := Lib.hid ((HX2.out.trans (hb4.mono HX2.out.size)).trans (hba.mono (Nat.le_trans HX2.out.size hb4.size)))
  clear hb4 hba HX2
  go_upto_region 5 with fail
  generalize w4.alloc (.cells #[.int .i64 a4, .int .i64 b4] 34) = W5 at HX4 ⊢
  obtain ⟨c0, c1⟩ := HC.out W5 HX4.out
  go_wp2_with fail
  refine (HRE.out W5).mono ?_
  rintro r w6 ⟨⟨a6, b6, rfl⟩, hb6⟩
  have hba : Below w6.heap.size w6 (w6.alloc (.cells #[.int .i64 a6, .int .i64 b6] 34)) := (Below.refl _ w6).alloc (Nat.le_refl _) _
  have HX6 := Lib.hid ((HX4.out.trans (hb6.mono HX4.out.size)).trans (hba.mono (Nat.le_trans HX4.out.size hb6.size)))
  clear hb6 hba HX4 c0 c1
  go_upto_region 6 with fail
  generalize w6.alloc (.cells #[.int .i64 a6, .int .i64 b6] 34) = W7 at HX6 ⊢
  obtain ⟨c0, c1⟩ := HC.out W7 HX6.out
  go_wp2_with fail
  refine (HDR.out W7).mono ?_
  rintro r w8 ⟨rfl, hb8⟩
  have HX8 := Lib.hid (HX6.out.trans (hb8.mono HX6.out.size))
  clear hb8 HX6 c0 c1
  go_wp2_with fail
  refine (HLE.out w8).mono ?_
  rintro r w9 ⟨rfl, hb9⟩
  have HX9 := Lib.hid (HX8.out.trans (hb9.mono HX8.out.size))
  clear hb9 HX8
  go_wp2_with fail
  refine (HAL.out w9).mono ?_
  rintro r w10 ⟨⟨A, cap, rfl⟩, hb10⟩
  have HX10 := Lib.hid (HX9.out.trans (hb10.mono HX9.out.size))
  clear hb10 HX9
  go_wp2_with fail
  refine (HAW.out w10).mono ?_
  rintro r w11 ⟨rfl, hb11⟩
  have HX11 := Lib.hid (HX10.out.trans (hb11.mono HX10.out.size))
  clear hb11 HX10
  go_wp2_with fail
  go_ret
  exact ⟨rfl, HB.out.trans (HX11.out.mono HB.out.size)⟩
end Go.Proofs.Ytjmdpepghnhpkaa
