/-
  A ring that nobody made: each call's contract.
-/
import Derived.Test.YthadcmbbdggneaaGreatDoorRingOne
namespace Go.Proofs.YthadcmbbdggneaaGreatDoor
open Go.RowKit
set_option linter.unusedVariables false

/-- No ring, or one that New did not make. -/
def NoRing (W : World) (v : Value) : Prop := v = .pointer none ∨ ∃ g, v = .pointer (some ⟨g, 0, none⟩) ∧ W.cell? ⟨g, 0, none⟩ = some (.pointer none) ∧ g < W.heap.size
theorem NoRing.below {W W' : World} {v : Value} (h : NoRing W v) (hb : Below W.heap.size W W') : NoRing W' v := by
  rcases h with rfl | ⟨g, rfl, hc, hg⟩
  · exact Or.inl rfl
  · exact Or.inr ⟨g, rfl, (World.cell?_of_block (hb.block g hg)).trans hc, Nat.lt_of_lt_of_le hg hb.size⟩
set_option maxRecDepth 100000
theorem nr_works {W : World} {v : Value} (h : NoRing W v) : Calls Tryz.prog 38 #[v] W fun r w' => r = .returned (.bool false) ∧ W = w' := by
  rcases h with rfl | ⟨g, rfl, hc, hg⟩
  · go_enter Tryz.func38, Tryz.ntmps38
    go_wp2_with fail
    go_ret
    exact ⟨rfl, rfl⟩
  · go_enter Tryz.func38, Tryz.ntmps38
    go_wp2_with fail
    go_ret
    exact ⟨rfl, rfl⟩
theorem nr_access {W : World} {v : Value} (h : NoRing W v) (i : Int) : Calls Tryz.prog 39 #[v, .int .i64 i] W fun r w' => r = .returned (.int .i64 9) ∧ W = w' := by
  have HW := Lib.hid (nr_works h)
  clear h
  go_enter Tryz.func39, Tryz.ntmps39
  go_wp2_with fail
  refine HW.out.mono ?_
  rintro r w1 ⟨rfl, rfl⟩
  go_wp2_with fail
  go_ret
  exact ⟨rfl, rfl⟩
theorem nr_put {W : World} {v : Value} (h : NoRing W v) (i : Int) (s : ByteArray) : Calls Tryz.prog 24 #[v, .int .i64 i, .string s] W fun r w' => r = .returned (.int .i64 9) ∧ W = w' := by
  have HW := Lib.hid (nr_access h i)
  clear h
  go_enter Tryz.func24, Tryz.ntmps24
  go_wp2_with fail
  refine HW.out.mono ?_
  rintro r w1 ⟨rfl, rfl⟩
  go_wp2_with fail
  go_ret
  exact ⟨rfl, rfl⟩
theorem nr_get {W : World} {v : Value} (h : NoRing W v) (i : Int) : Calls Tryz.prog 29 #[v, .int .i64 i] W fun r w' => r = .returned (.tuple #[.string (S []), .int .i64 9]) ∧ W = w' := by
  have HW := Lib.hid (nr_access h i)
  clear h
  go_enter Tryz.func29, Tryz.ntmps29
  go_wp2_with fail
  refine HW.out.mono ?_
  rintro r w1 ⟨rfl, rfl⟩
  go_wp2_with fail
  go_ret2
  exact ⟨rfl, rfl⟩
theorem nr_shred {W : World} {v : Value} (h : NoRing W v) (i : Int) : Calls Tryz.prog 25 #[v, .int .i64 i] W fun r w' => r = .returned (.int .i64 9) ∧ W = w' := by
  have HW := Lib.hid (nr_access h i)
  clear h
  go_enter Tryz.func25, Tryz.ntmps25
  go_wp2_with fail
  refine HW.out.mono ?_
  rintro r w1 ⟨rfl, rfl⟩
  go_wp2_with fail
  go_ret
  exact ⟨rfl, rfl⟩
theorem nr_free {W : World} {v : Value} (h : NoRing W v) (i : Int) : Calls Tryz.prog 22 #[v, .int .i64 i] W fun e w' => e = .returned (.bool false) ∧ Below W.heap.size W w' := by
  have HA : Hid (∀ n, Calls Tryz.prog 39 #[v, .int .i64 i] (W.drewN n) fun e w' => e = .returned (.int .i64 9) ∧ w' = W.drewN n) :=
    Lib.hid (fun n => (nr_access (h.below (below_drewN (Below.refl _ W) n)) i).mono (fun e w' ⟨he, hw⟩ => ⟨he, hw.symm⟩))
  have HB : Hid (∀ n, Below W.heap.size W (W.drewN n)) := Lib.hid (fun n => below_drewN (Below.refl _ W) n)
  clear h
  go_enter Tryz.func22, Tryz.ntmps22
  go_upto_region 1 with fail
  go_quiet (exact Calls.quiet_of_same (HA.out _))
  go_wp2_with fail
  go_ret
  exact ⟨rfl, HB.out _⟩
theorem nr_slots {W : World} {v : Value} (h : NoRing W v) : Calls Tryz.prog 21 #[v] W fun r w' => r = .returned (.int .i64 0) ∧ W = w' := by
  have HW := Lib.hid (nr_works h)
  clear h
  go_enter Tryz.func21, Tryz.ntmps21
  go_wp2_with fail
  refine HW.out.mono ?_
  rintro r w1 ⟨rfl, rfl⟩
  go_wp2_with fail
  go_ret
  exact ⟨rfl, rfl⟩
theorem nr_shreds {W : World} {v : Value} (h : NoRing W v) : Calls Tryz.prog 32 #[v] W fun r w' => r = .returned (.int .i64 0) ∧ W = w' := by
  have HW := Lib.hid (nr_works h)
  clear h
  go_enter Tryz.func32, Tryz.ntmps32
  go_wp2_with fail
  refine HW.out.mono ?_
  rintro r w1 ⟨rfl, rfl⟩
  go_wp2_with fail
  go_ret
  exact ⟨rfl, rfl⟩
theorem nr_find {W : World} {v : Value} (h : NoRing W v) : Calls Tryz.prog 30 #[v] W fun r w' => r = .returned (.tuple #[.int .i64 0, .int .i64 9]) ∧ W = w' := by
  have HW := Lib.hid (nr_works h)
  clear h
  go_enter Tryz.func30, Tryz.ntmps30
  go_wp2_with fail
  refine HW.out.mono ?_
  rintro r w1 ⟨rfl, rfl⟩
  go_wp2_with fail
  go_ret2
  exact ⟨rfl, rfl⟩
theorem nr_keep {W : World} {v : Value} (h : NoRing W v) : Calls Tryz.prog 31 #[v, .slice none 0 0] W fun r w' => r = .returned (.tuple #[.int .i64 0, .int .i64 9]) ∧ W = w' := by
  have HW := Lib.hid (nr_works h)
  clear h
  go_enter Tryz.func31, Tryz.ntmps31
  go_wp2_with fail
  go_step3
  go_wp2_with fail
  refine HW.out.mono ?_
  rintro r w1 ⟨rfl, rfl⟩
  go_wp2_with fail
  try rw [Exit.noGoto_ret]
  go_ret2
  exact ⟨rfl, rfl⟩
end Go.Proofs.YthadcmbbdggneaaGreatDoor
