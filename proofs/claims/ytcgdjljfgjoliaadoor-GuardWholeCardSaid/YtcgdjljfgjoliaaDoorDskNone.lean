/-
  A disk that nobody made: each call's contract. Made by wip/gen/mkdsknone.py.
-/
import Derived.Test.YtcgdjljfgjoliaaDoorDskAt
namespace Go.Proofs.YtcgdjljfgjoliaaDoor
open Go.RowKit
set_option linter.unusedVariables false

/-- No disk, or one that New did not make. -/
def NoDisk (W : World) (v : Value) : Prop := v = .pointer none ∨ ∃ g, v = .pointer (some ⟨g, 0, none⟩) ∧ W.cell? ⟨g, 0, none⟩ = some (.slice none 0 0) ∧ g < W.heap.size
theorem NoDisk.below {W W' : World} {v : Value} (h : NoDisk W v) (hb : Below W.heap.size W W') : NoDisk W' v := by
  rcases h with rfl | ⟨g, rfl, hc, hg⟩
  · exact Or.inl rfl
  · exact Or.inr ⟨g, rfl, (World.cell?_of_block (hb.block g hg)).trans hc, Nat.lt_of_lt_of_le hg hb.size⟩
theorem run_nomade (W : World) : (binOp .neq 70 (.slice none 0 0) (.slice none 0 0)).run Tryd.prog W = .ok (.bool false) W :=
  run_neq_slice_nil_any W _ _ _ _ _ _ _ Tryd.underlying70
theorem n_works {W : World} {v : Value} (h : NoDisk W v) : Calls Tryd.prog 35 #[v] W fun r w' => r = .returned (.bool false) ∧ W = w' := by
  rcases h with rfl | ⟨g, rfl, hc, hg⟩
  · go_enter Tryd.func35, Tryd.ntmps35
    go_wp2_with fail
    go_ret
    exact ⟨rfl, rfl⟩
  · have hne := fun W => run_nomade W
    go_enter Tryd.func35, Tryd.ntmps35
    go_wp2_with fail
    go_ret
    exact ⟨rfl, rfl⟩
theorem n_powered {W : World} {v : Value} (h : NoDisk W v) : Calls Tryd.prog 39 #[v] W fun e w' => e = .returned (.int .i64 9) ∧ W = w' := by
  have HC := Lib.hid (n_works h)
  clear h
  go_enter Tryd.func39, Tryd.ntmps39
  go_wp2_with fail
  refine HC.out.mono ?_
  rintro r w1 ⟨rfl, rfl⟩
  go_wp2_with fail
  go_ret
  exact ⟨rfl, rfl⟩
theorem n_has {W : World} {v : Value} (h : NoDisk W v) (i : Int) : Calls Tryd.prog 46 #[v, .int .i64 i] W fun e w' => e = .returned (.bool false) ∧ W = w' := by
  have HC := Lib.hid (n_works h)
  clear h
  go_enter Tryd.func46, Tryd.ntmps46
  go_wp2_with fail
  refine HC.out.mono ?_
  rintro r w1 ⟨rfl, rfl⟩
  go_wp2_with fail
  go_ret
  exact ⟨rfl, rfl⟩
theorem n_access {W : World} {v : Value} (h : NoDisk W v) (i : Int) : Calls Tryd.prog 34 #[v, .int .i64 i] W fun e w' => e = .returned (.int .i64 9) ∧ W = w' := by
  have HC := Lib.hid (n_powered h)
  clear h
  go_enter Tryd.func34, Tryd.ntmps34
  go_wp2_with fail
  refine HC.out.mono ?_
  rintro r w1 ⟨rfl, rfl⟩
  go_wp2_with fail
  go_ret
  exact ⟨rfl, rfl⟩
theorem n_read {W : World} {v : Value} (h : NoDisk W v) (i : Int) : Calls Tryd.prog 11 #[v, .int .i64 i] W fun e w' => e = .returned (.tuple #[.string (S []), .int .i64 9]) ∧ W = w' := by
  have HC := Lib.hid (n_access h i)
  clear h
  go_enter Tryd.func11, Tryd.ntmps11
  go_wp2_with fail
  refine HC.out.mono ?_
  rintro r w1 ⟨rfl, rfl⟩
  go_wp2_with fail
  go_ret2
  exact ⟨rfl, rfl⟩
theorem n_write {W : World} {v : Value} (h : NoDisk W v) (i : Int) (s : ByteArray) : Calls Tryd.prog 19 #[v, .int .i64 i, .string s] W fun e w' => e = .returned (.int .i64 9) ∧ W = w' := by
  have HC := Lib.hid (n_access h i)
  clear h
  go_enter Tryd.func19, Tryd.ntmps19
  go_wp2_with fail
  refine HC.out.mono ?_
  rintro r w1 ⟨rfl, rfl⟩
  go_wp2_with fail
  go_ret
  exact ⟨rfl, rfl⟩
theorem n_flush {W : World} {v : Value} (h : NoDisk W v) : Calls Tryd.prog 40 #[v] W fun e w' => e = .returned (.int .i64 9) ∧ W = w' := by
  have HC := Lib.hid (n_powered h)
  clear h
  go_enter Tryd.func40, Tryd.ntmps40
  go_wp2_with fail
  refine HC.out.mono ?_
  rintro r w1 ⟨rfl, rfl⟩
  go_wp2_with fail
  go_ret
  exact ⟨rfl, rfl⟩
theorem n_start {W : World} {v : Value} (h : NoDisk W v) : Calls Tryd.prog 29 #[v] W fun e w' => e = .returned (.int .i64 9) ∧ W = w' := by
  have HC := Lib.hid (n_works h)
  clear h
  go_enter Tryd.func29, Tryd.ntmps29
  go_wp2_with fail
  refine HC.out.mono ?_
  rintro r w1 ⟨rfl, rfl⟩
  go_wp2_with fail
  go_ret
  exact ⟨rfl, rfl⟩
theorem n_up {W : World} {v : Value} (h : NoDisk W v) : Calls Tryd.prog 24 #[v] W fun e w' => e = .returned (.bool false) ∧ W = w' := by
  have HC := Lib.hid (n_works h)
  clear h
  go_enter Tryd.func24, Tryd.ntmps24
  go_wp2_with fail
  refine HC.out.mono ?_
  rintro r w1 ⟨rfl, rfl⟩
  go_wp2_with fail
  go_ret
  exact ⟨rfl, rfl⟩
theorem n_size {W : World} {v : Value} (h : NoDisk W v) : Calls Tryd.prog 17 #[v] W fun e w' => e = .returned (.int .i64 0) ∧ W = w' := by
  have HC := Lib.hid (n_works h)
  clear h
  go_enter Tryd.func17, Tryd.ntmps17
  go_wp2_with fail
  refine HC.out.mono ?_
  rintro r w1 ⟨rfl, rfl⟩
  go_wp2_with fail
  go_ret
  exact ⟨rfl, rfl⟩
theorem n_acts {W : World} {v : Value} (h : NoDisk W v) : Calls Tryd.prog 18 #[v] W fun e w' => e = .returned (.int .i64 0) ∧ W = w' := by
  have HC := Lib.hid (n_works h)
  clear h
  go_enter Tryd.func18, Tryd.ntmps18
  go_wp2_with fail
  refine HC.out.mono ?_
  rintro r w1 ⟨rfl, rfl⟩
  go_wp2_with fail
  go_ret
  exact ⟨rfl, rfl⟩
theorem n_waiting {W : World} {v : Value} (h : NoDisk W v) : Calls Tryd.prog 52 #[v] W fun e w' => e = .returned (.slice none 0 0) ∧ W = w' := by
  have HC := Lib.hid (n_works h)
  clear h
  go_enter Tryd.func52, Tryd.ntmps52
  go_wp2_with fail
  refine HC.out.mono ?_
  rintro r w1 ⟨rfl, rfl⟩
  go_wp2_with fail
  go_ret
  exact ⟨rfl, rfl⟩
theorem n_calm {W : World} {v : Value} (h : NoDisk W v) : Calls Tryd.prog 28 #[v] W fun e w' => e = .returned (.tuple #[]) ∧ W = w' := by
  have HC := Lib.hid (n_works h)
  clear h
  go_enter Tryd.func28, Tryd.ntmps28
  go_wp2_with fail
  refine HC.out.mono ?_
  rintro r w1 ⟨rfl, rfl⟩
  go_wp2_with fail
  go_end0
  exact ⟨rfl, rfl⟩
theorem n_crash {W : World} {v : Value} (h : NoDisk W v) (a b : Int) : Calls Tryd.prog 27 #[v, .agg #[.int .u64 a, .int .i64 b]] W fun e w' => e = .returned (.int .i64 9) ∧ Below W.heap.size W w' := by
  have hb : Below W.heap.size W (W.alloc (.cells #[.int .u64 a, .int .i64 b] 49)) := (Below.refl _ W).alloc (Nat.le_refl _) _
  have HC := Lib.hid (n_powered (h.below hb))
  have HB := Lib.hid hb; clear hb
  clear h
  go_enter Tryd.func27, Tryd.ntmps27
  go_wp2_with fail
  refine HC.out.mono ?_
  rintro r w1 ⟨rfl, rfl⟩
  go_wp2_with fail
  go_ret
  exact ⟨rfl, HB.out⟩
theorem n_arm {W : World} {v : Value} (h : NoDisk W v) (i a b : Int) : Calls Tryd.prog 23 #[v, .int .i64 i, .agg #[.int .u64 a, .int .i64 b]] W fun e w' => e = .returned (.int .i64 9) ∧ Below W.heap.size W w' := by
  have hb : Below W.heap.size W (W.alloc (.cells #[.int .u64 a, .int .i64 b] 49)) := (Below.refl _ W).alloc (Nat.le_refl _) _
  have HC := Lib.hid (n_powered (h.below hb))
  have HB := Lib.hid hb; clear hb
  clear h
  go_enter Tryd.func23, Tryd.ntmps23
  go_wp2_with fail
  refine HC.out.mono ?_
  rintro r w1 ⟨rfl, rfl⟩
  go_wp2_with fail
  go_ret
  exact ⟨rfl, HB.out⟩
end Go.Proofs.YtcgdjljfgjoliaaDoor
