/-
  KeyringNobody, walked.
-/
import Derived.Test.YthadcmbbdggneaaGreatDoorRingNone
import Derived.Test.YthadcmbbdggneaaGreatDoorKeyAw
import Derived.WalkSmall
import Derived.OwnWalk
namespace Go.Proofs.YthadcmbbdggneaaGreatDoor
open Go.RowKit
set_option linter.unusedVariables false

set_option maxRecDepth 100000 in
set_option maxHeartbeats 4000000 in
theorem knobody_any (i : Int) (w : World) : Calls Tryz.prog 6 #[.int .i64 i] w fun e w' => e = .returned (.bool true) ∧ Below w.heap.size w w' := by
  have HAW := Lib.hid (fun W => kawake_any W)
  have HKT := Lib.hid (fun W => key_any 1 (by decide) W)
  unfold KeyPost at HKT
  generalize Key.keyT 1 = kt at HKT
  have hb0 : Below w.heap.size w (w.alloc (.cells #[.pointer none, .int .i64 0, .int .i64 0, .int .i64 0] 66)) := (Below.refl _ w).alloc (Nat.le_refl _) _
  have HZ : Hid (NoRing (w.alloc (.cells #[.pointer none, .int .i64 0, .int .i64 0, .int .i64 0] 66)) (.pointer (some ⟨w.heap.size, 0, none⟩))) := Lib.hid (Or.inr ⟨_, rfl, (Has.made w 66 #[.pointer none, .int .i64 0, .int .i64 0, .int .i64 0]).cell 0, (Has.made w 66 #[.pointer none, .int .i64 0, .int .i64 0, .int .i64 0]).lt⟩)
  have HB := Lib.hid hb0
  clear hb0
  go_enter Tryz.func6, Tryz.ntmps6
  go_upto_region 3 with fail
  generalize w.alloc (.cells #[.pointer none, .int .i64 0, .int .i64 0, .int .i64 0] 66) = W at HZ HB ⊢
  generalize hzb : w.heap.size = zb at HZ ⊢
  have HR : Hid (∀ W, NoRing W (.pointer none)) := Lib.hid (fun W => Or.inl rfl)
  go_wp2_with fail
  refine (nr_get (HR.out _) i).mono ?_
  rintro r w1 ⟨rfl, rfl⟩
  go_wp2_with fail
  refine (nr_find HZ.out).mono ?_
  rintro r w1 ⟨rfl, rfl⟩
  go_wp2_with fail
  refine (nr_keep (HR.out _)).mono ?_
  rintro r w1 ⟨rfl, rfl⟩
  go_wp2_with fail
  refine (HKT.out _).mono ?_
  rintro r w2 ⟨rfl, hb2⟩
  have HZ2 := Lib.hid (And.intro (HZ.out.below hb2) hb2)
  clear hb2
  go_wp2_with fail
  refine (nr_put HZ2.out.1 i (S kt)).mono ?_
  rintro r w3 ⟨rfl, rfl⟩
  go_wp2_with fail
  refine (nr_shred (HR.out _) i).mono ?_
  rintro r w3 ⟨rfl, rfl⟩
  go_wp2_with fail
  refine (nr_free HZ2.out.1 i).mono ?_
  rintro r w4 ⟨rfl, hb4⟩
  have HZ4 := Lib.hid (And.intro (HZ2.out.1.below hb4) (HZ2.out.2.trans (hb4.mono HZ2.out.2.size)))
  clear hb4
  go_wp2_with fail
  refine (nr_slots (HR.out _)).mono ?_
  rintro r w5 ⟨rfl, rfl⟩
  go_wp2_with fail
  refine (nr_shreds HZ4.out.1).mono ?_
  rintro r w5 ⟨rfl, rfl⟩
  go_wp2_with fail
  refine (HAW.out _).mono ?_
  rintro r w6 ⟨rfl, hb6⟩
  have HF := Lib.hid (HZ4.out.2.trans (hb6.mono HZ4.out.2.size))
  clear hb6
  go_wp2_with fail
  go_ret
  refine ⟨rfl, ?_⟩
  subst hzb
  exact HB.out.trans (HF.out.mono HB.out.size)
end Go.Proofs.YthadcmbbdggneaaGreatDoor
