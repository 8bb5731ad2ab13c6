/-
  A disk that nobody made: each call's contract. Made by wip/gen/mkdsknone.py.
-/
import Derived.Test.YtdgfohffmbnjiaaGreatDoorDskAt
namespace Go.Proofs.YtdgfohffmbnjiaaGreatDoor
open Go.RowKit
set_option linter.unusedVariables false

/-- No disk, or one that New did not make. -/
def NoDisk (W : World) (v : Value) : Prop := v = .pointer none ∨ ∃ g, v = .pointer (some ⟨g, 0, none⟩) ∧ W.cell? ⟨g, 0, none⟩ = some (.slice none 0 0) ∧ g < W.heap.size
theorem NoDisk.below {W W' : World} {v : Value} (h : NoDisk W v) (hb : Below W.heap.size W W') : NoDisk W' v := by
  rcases h with rfl | ⟨g, rfl, hc, hg⟩
  · exact Or.inl rfl
  · exact Or.inr ⟨g, rfl, (World.cell?_of_block (hb.block g hg)).trans hc, Nat.lt_of_lt_of_le hg hb.size⟩
theorem run_nomade (W : World) : (binOp .neq 72 (.slice none 0 0) (.slice none 0 0)).run Tryz.prog W = .ok (.bool false) W :=
  run_neq_slice_nil_any W _ _ _ _ _ _ _ Tryz.underlying72
theorem n_works {W : World} {v : Value} (h : NoDisk W v) : Calls Tryz.prog 29 #[v] W fun r w' => r = .returned (.bool false) ∧ W = w' := by
  rcases h with rfl | ⟨g, rfl, hc, hg⟩
  · go_enter Tryz.func29, Tryz.ntmps29
    go_wp2_with fail
    go_ret
    exact ⟨rfl, rfl⟩
  · have hne := fun W => run_nomade W
    go_enter Tryz.func29, Tryz.ntmps29
    go_wp2_with fail
    go_ret
    exact ⟨rfl, rfl⟩
theorem n_powered {W : World} {v : Value} (h : NoDisk W v) : Calls Tryz.prog 47 #[v] W fun e w' => e = .returned (.int .i64 9) ∧ W = w' := by
  have HC := Lib.hid (n_works h)
  clear h
  go_enter Tryz.func47, Tryz.ntmps47
  go_wp2_with fail
  refine HC.out.mono ?_
  rintro r w1 ⟨rfl, rfl⟩
  go_wp2_with fail
  go_ret
  exact ⟨rfl, rfl⟩
theorem n_has {W : World} {v : Value} (h : NoDisk W v) (i : Int) : Calls Tryz.prog 71 #[v, .int .i64 i] W fun e w' => e = .returned (.bool false) ∧ W = w' := by
  have HC := Lib.hid (n_works h)
  clear h
  go_enter Tryz.func71, Tryz.ntmps71
  go_wp2_with fail
  refine HC.out.mono ?_
  rintro r w1 ⟨rfl, rfl⟩
  go_wp2_with fail
  go_ret
  exact ⟨rfl, rfl⟩
theorem n_access {W : World} {v : Value} (h : NoDisk W v) (i : Int) : Calls Tryz.prog 56 #[v, .int .i64 i] W fun e w' => e = .returned (.int .i64 9) ∧ W = w' := by
  have HC := Lib.hid (n_powered h)
  clear h
  go_enter Tryz.func56, Tryz.ntmps56
  go_wp2_with fail
  refine HC.out.mono ?_
  rintro r w1 ⟨rfl, rfl⟩
  go_wp2_with fail
  go_ret
  exact ⟨rfl, rfl⟩
theorem n_read {W : World} {v : Value} (h : NoDisk W v) (i : Int) : Calls Tryz.prog 32 #[v, .int .i64 i] W fun e w' => e = .returned (.tuple #[.string (S []), .int .i64 9]) ∧ W = w' := by
  have HC := Lib.hid (n_access h i)
  clear h
  go_enter Tryz.func32, Tryz.ntmps32
  go_wp2_with fail
  refine HC.out.mono ?_
  rintro r w1 ⟨rfl, rfl⟩
  go_wp2_with fail
  go_ret2
  exact ⟨rfl, rfl⟩
theorem n_write {W : World} {v : Value} (h : NoDisk W v) (i : Int) (s : ByteArray) : Calls Tryz.prog 39 #[v, .int .i64 i, .string s] W fun e w' => e = .returned (.int .i64 9) ∧ W = w' := by
  have HC := Lib.hid (n_access h i)
  clear h
  go_enter Tryz.func39, Tryz.ntmps39
  go_wp2_with fail
  refine HC.out.mono ?_
  rintro r w1 ⟨rfl, rfl⟩
  go_wp2_with fail
  go_ret
  exact ⟨rfl, rfl⟩
theorem n_flush {W : World} {v : Value} (h : NoDisk W v) : Calls Tryz.prog 52 #[v] W fun e w' => e = .returned (.int .i64 9) ∧ W = w' := by
  have HC := Lib.hid (n_powered h)
  clear h
  go_enter Tryz.func52, Tryz.ntmps52
  go_wp2_with fail
  refine HC.out.mono ?_
  rintro r w1 ⟨rfl, rfl⟩
  go_wp2_with fail
  go_ret
  exact ⟨rfl, rfl⟩
theorem n_start {W : World} {v : Value} (h : NoDisk W v) : Calls Tryz.prog 22 #[v] W fun e w' => e = .returned (.int .i64 9) ∧ W = w' := by
  have HC := Lib.hid (n_works h)
  clear h
  go_enter Tryz.func22, Tryz.ntmps22
  go_wp2_with fail
  refine HC.out.mono ?_
  rintro r w1 ⟨rfl, rfl⟩
  go_wp2_with fail
  go_ret
  exact ⟨rfl, rfl⟩
theorem n_size {W : World} {v : Value} (h : NoDisk W v) : Calls Tryz.prog 48 #[v] W fun e w' => e = .returned (.int .i64 0) ∧ W = w' := by
  have HC := Lib.hid (n_works h)
  clear h
  go_enter Tryz.func48, Tryz.ntmps48
  go_wp2_with fail
  refine HC.out.mono ?_
  rintro r w1 ⟨rfl, rfl⟩
  go_wp2_with fail
  go_ret
  exact ⟨rfl, rfl⟩
theorem n_waiting {W : World} {v : Value} (h : NoDisk W v) : Calls Tryz.prog 10 #[v] W fun e w' => e = .returned (.slice none 0 0) ∧ W = w' := by
  have HC := Lib.hid (n_works h)
  clear h
  go_enter Tryz.func10, Tryz.ntmps10
  go_wp2_with fail
  refine HC.out.mono ?_
  rintro r w1 ⟨rfl, rfl⟩
  go_wp2_with fail
  go_ret
  exact ⟨rfl, rfl⟩
theorem n_arm {W : World} {v : Value} (h : NoDisk W v) (i a b : Int) : Calls Tryz.prog 21 #[v, .int .i64 i, .agg #[.int .u64 a, .int .i64 b]] W fun e w' => e = .returned (.int .i64 9) ∧ Below W.heap.size W w' := by
  have hb : Below W.heap.size W (W.alloc (.cells #[.int .u64 a, .int .i64 b] 49)) := (Below.refl _ W).alloc (Nat.le_refl _) _
  have HC := Lib.hid (n_powered (h.below hb))
  have HB := Lib.hid hb; clear hb
  clear h
  go_enter Tryz.func21, Tryz.ntmps21
  go_wp2_with fail
  refine HC.out.mono ?_
  rintro r w1 ⟨rfl, rfl⟩
  go_wp2_with fail
  go_ret
  exact ⟨rfl, HB.out⟩
end Go.Proofs.YtdgfohffmbnjiaaGreatDoor
