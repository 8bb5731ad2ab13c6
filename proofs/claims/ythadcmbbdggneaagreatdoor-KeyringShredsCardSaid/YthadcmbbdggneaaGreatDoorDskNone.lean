/-
  A disk that nobody made: each call's contract. Made by wip/gen/mkdsknone.py.
-/
import Derived.Test.YthadcmbbdggneaaGreatDoorDskAt
namespace Go.Proofs.YthadcmbbdggneaaGreatDoor
open Go.RowKit
set_option linter.unusedVariables false

/-- No disk, or one that New did not make. -/
def NoDisk (W : World) (v : Value) : Prop := v = .pointer none ∨ ∃ g, v = .pointer (some ⟨g, 0, none⟩) ∧ W.cell? ⟨g, 0, none⟩ = some (.slice none 0 0) ∧ g < W.heap.size
theorem NoDisk.below {W W' : World} {v : Value} (h : NoDisk W v) (hb : Below W.heap.size W W') : NoDisk W' v := by
  rcases h with rfl | ⟨g, rfl, hc, hg⟩
  · exact Or.inl rfl
  · exact Or.inr ⟨g, rfl, (World.cell?_of_block (hb.block g hg)).trans hc, Nat.lt_of_lt_of_le hg hb.size⟩
theorem run_nomade (W : World) : (binOp .neq 72 (.slice none 0 0) (.slice none 0 0)).run Tryz.prog W = .ok (.bool false) W :=
  run_neq_slice_nil_any W _ _ _ _ _ _ _ Tryz.underlying72
theorem n_works {W : World} {v : Value} (h : NoDisk W v) : Calls Tryz.prog 34 #[v] W fun r w' => r = .returned (.bool false) ∧ W = w' := by
  rcases h with rfl | ⟨g, rfl, hc, hg⟩
  · go_enter Tryz.func34, Tryz.ntmps34
    go_wp2_with fail
    go_ret
    exact ⟨rfl, rfl⟩
  · have hne := fun W => run_nomade W
    go_enter Tryz.func34, Tryz.ntmps34
    go_wp2_with fail
    go_ret
    exact ⟨rfl, rfl⟩
theorem n_powered {W : World} {v : Value} (h : NoDisk W v) : Calls Tryz.prog 35 #[v] W fun e w' => e = .returned (.int .i64 9) ∧ W = w' := by
  have HC := Lib.hid (n_works h)
  clear h
  go_enter Tryz.func35, Tryz.ntmps35
  go_wp2_with fail
  refine HC.out.mono ?_
  rintro r w1 ⟨rfl, rfl⟩
  go_wp2_with fail
  go_ret
  exact ⟨rfl, rfl⟩
theorem n_has {W : World} {v : Value} (h : NoDisk W v) (i : Int) : Calls Tryz.prog 85 #[v, .int .i64 i] W fun e w' => e = .returned (.bool false) ∧ W = w' := by
  have HC := Lib.hid (n_works h)
  clear h
  go_enter Tryz.func85, Tryz.ntmps85
  go_wp2_with fail
  refine HC.out.mono ?_
  rintro r w1 ⟨rfl, rfl⟩
  go_wp2_with fail
  go_ret
  exact ⟨rfl, rfl⟩
theorem n_access {W : World} {v : Value} (h : NoDisk W v) (i : Int) : Calls Tryz.prog 61 #[v, .int .i64 i] W fun e w' => e = .returned (.int .i64 9) ∧ W = w' := by
  have HC := Lib.hid (n_powered h)
  clear h
  go_enter Tryz.func61, Tryz.ntmps61
  go_wp2_with fail
  refine HC.out.mono ?_
  rintro r w1 ⟨rfl, rfl⟩
  go_wp2_with fail
  go_ret
  exact ⟨rfl, rfl⟩
theorem n_read {W : World} {v : Value} (h : NoDisk W v) (i : Int) : Calls Tryz.prog 71 #[v, .int .i64 i] W fun e w' => e = .returned (.tuple #[.string (S []), .int .i64 9]) ∧ W = w' := by
  have HC := Lib.hid (n_access h i)
  clear h
  go_enter Tryz.func71, Tryz.ntmps71
  go_wp2_with fail
  refine HC.out.mono ?_
  rintro r w1 ⟨rfl, rfl⟩
  go_wp2_with fail
  go_ret2
  exact ⟨rfl, rfl⟩
theorem n_write {W : World} {v : Value} (h : NoDisk W v) (i : Int) (s : ByteArray) : Calls Tryz.prog 52 #[v, .int .i64 i, .string s] W fun e w' => e = .returned (.int .i64 9) ∧ W = w' := by
  have HC := Lib.hid (n_access h i)
  clear h
  go_enter Tryz.func52, Tryz.ntmps52
  go_wp2_with fail
  refine HC.out.mono ?_
  rintro r w1 ⟨rfl, rfl⟩
  go_wp2_with fail
  go_ret
  exact ⟨rfl, rfl⟩
theorem n_flush {W : World} {v : Value} (h : NoDisk W v) : Calls Tryz.prog 54 #[v] W fun e w' => e = .returned (.int .i64 9) ∧ W = w' := by
  have HC := Lib.hid (n_powered h)
  clear h
  go_enter Tryz.func54, Tryz.ntmps54
  go_wp2_with fail
  refine HC.out.mono ?_
  rintro r w1 ⟨rfl, rfl⟩
  go_wp2_with fail
  go_ret
  exact ⟨rfl, rfl⟩
theorem n_start {W : World} {v : Value} (h : NoDisk W v) : Calls Tryz.prog 28 #[v] W fun e w' => e = .returned (.int .i64 9) ∧ W = w' := by
  have HC := Lib.hid (n_works h)
  clear h
  go_enter Tryz.func28, Tryz.ntmps28
  go_wp2_with fail
  refine HC.out.mono ?_
  rintro r w1 ⟨rfl, rfl⟩
  go_wp2_with fail
  go_ret
  exact ⟨rfl, rfl⟩
theorem n_up {W : World} {v : Value} (h : NoDisk W v) : Calls Tryz.prog 16 #[v] W fun e w' => e = .returned (.bool false) ∧ W = w' := by
  have HC := Lib.hid (n_works h)
  clear h
  go_enter Tryz.func16, Tryz.ntmps16
  go_wp2_with fail
  refine HC.out.mono ?_
  rintro r w1 ⟨rfl, rfl⟩
  go_wp2_with fail
  go_ret
  exact ⟨rfl, rfl⟩
theorem n_size {W : World} {v : Value} (h : NoDisk W v) : Calls Tryz.prog 36 #[v] W fun e w' => e = .returned (.int .i64 0) ∧ W = w' := by
  have HC := Lib.hid (n_works h)
  clear h
  go_enter Tryz.func36, Tryz.ntmps36
  go_wp2_with fail
  refine HC.out.mono ?_
  rintro r w1 ⟨rfl, rfl⟩
  go_wp2_with fail
  go_ret
  exact ⟨rfl, rfl⟩
theorem n_image {W : World} {v : Value} (h : NoDisk W v) : Calls Tryz.prog 26 #[v] W fun e w' => e = .returned (.string (S [])) ∧ W = w' := by
  have HC := Lib.hid (n_works h)
  clear h
  go_enter Tryz.func26, Tryz.ntmps26
  go_wp2_with fail
  refine HC.out.mono ?_
  rintro r w1 ⟨rfl, rfl⟩
  go_wp2_with fail
  go_ret
  exact ⟨rfl, rfl⟩
theorem n_waiting {W : World} {v : Value} (h : NoDisk W v) : Calls Tryz.prog 23 #[v] W fun e w' => e = .returned (.slice none 0 0) ∧ W = w' := by
  have HC := Lib.hid (n_works h)
  clear h
  go_enter Tryz.func23, Tryz.ntmps23
  go_wp2_with fail
  refine HC.out.mono ?_
  rintro r w1 ⟨rfl, rfl⟩
  go_wp2_with fail
  go_ret
  exact ⟨rfl, rfl⟩
theorem n_calm {W : World} {v : Value} (h : NoDisk W v) : Calls Tryz.prog 12 #[v] W fun e w' => e = .returned (.tuple #[]) ∧ W = w' := by
  have HC := Lib.hid (n_works h)
  clear h
  go_enter Tryz.func12, Tryz.ntmps12
  go_wp2_with fail
  refine HC.out.mono ?_
  rintro r w1 ⟨rfl, rfl⟩
  go_wp2_with fail
  go_end0
  exact ⟨rfl, rfl⟩
theorem n_crash {W : World} {v : Value} (h : NoDisk W v) (a b : Int) : Calls Tryz.prog 27 #[v, .agg #[.int .u64 a, .int .i64 b]] W fun e w' => e = .returned (.int .i64 9) ∧ Below W.heap.size W w' := by
  have hb : Below W.heap.size W (W.alloc (.cells #[.int .u64 a, .int .i64 b] 36)) := (Below.refl _ W).alloc (Nat.le_refl _) _
  have HC := Lib.hid (n_powered (h.below hb))
  have HB := Lib.hid hb; clear hb
  clear h
  go_enter Tryz.func27, Tryz.ntmps27
  go_wp2_with fail
  refine HC.out.mono ?_
  rintro r w1 ⟨rfl, rfl⟩
  go_wp2_with fail
  go_ret
  exact ⟨rfl, HB.out⟩
theorem n_arm {W : World} {v : Value} (h : NoDisk W v) (i a b : Int) : Calls Tryz.prog 15 #[v, .int .i64 i, .agg #[.int .u64 a, .int .i64 b]] W fun e w' => e = .returned (.int .i64 9) ∧ Below W.heap.size W w' := by
  have hb : Below W.heap.size W (W.alloc (.cells #[.int .u64 a, .int .i64 b] 36)) := (Below.refl _ W).alloc (Nat.le_refl _) _
  have HC := Lib.hid (n_powered (h.below hb))
  have HB := Lib.hid hb; clear hb
  clear h
  go_enter Tryz.func15, Tryz.ntmps15
  go_wp2_with fail
  refine HC.out.mono ?_
  rintro r w1 ⟨rfl, rfl⟩
  go_wp2_with fail
  go_ret
  exact ⟨rfl, HB.out⟩
end Go.Proofs.YthadcmbbdggneaaGreatDoor
