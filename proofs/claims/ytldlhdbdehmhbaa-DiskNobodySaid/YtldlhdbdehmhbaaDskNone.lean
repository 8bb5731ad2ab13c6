/-
  A disk that nobody made: each call's contract. Made by wip/gen/mkdsknone.py.
-/
import Derived.Test.YtldlhdbdehmhbaaDskAt
namespace Go.Proofs.Ytldlhdbdehmhbaa
open Go.RowKit
set_option linter.unusedVariables false

/-- No disk, or one that New did not make. -/
def NoDisk (W : World) (v : Value) : Prop := v = .pointer none ∨ ∃ g, v = .pointer (some ⟨g, 0, none⟩) ∧ W.cell? ⟨g, 0, none⟩ = some (.slice none 0 0) ∧ g < W.heap.size
theorem NoDisk.below {W W' : World} {v : Value} (h : NoDisk W v) (hb : Below W.heap.size W W') : NoDisk W' v := by
  rcases h with rfl | ⟨g, rfl, hc, hg⟩
  · exact Or.inl rfl
  · exact Or.inr ⟨g, rfl, (World.cell?_of_block (hb.block g hg)).trans hc, Nat.lt_of_lt_of_le hg hb.size⟩
theorem run_nomade (W : World) : (binOp .neq 40 (.slice none 0 0) (.slice none 0 0)).run Try.prog W = .ok (.bool false) W :=
  run_neq_slice_nil_any W _ _ _ _ _ _ _ Try.underlying40
theorem n_works {W : World} {v : Value} (h : NoDisk W v) : Calls Try.prog 27 #[v] W fun r w' => r = .returned (.bool false) ∧ W = w' := by
  rcases h with rfl | ⟨g, rfl, hc, hg⟩
  · go_enter Try.func27, Try.ntmps27
    go_wp2_with fail
    go_ret
    exact ⟨rfl, rfl⟩
  · have hne := fun W => run_nomade W
    go_enter Try.func27, Try.ntmps27
    go_wp2_with fail
    go_ret
    exact ⟨rfl, rfl⟩
theorem n_powered {W : World} {v : Value} (h : NoDisk W v) : Calls Try.prog 25 #[v] W fun e w' => e = .returned (.int .i64 9) ∧ W = w' := by
  have HC := Lib.hid (n_works h)
  clear h
  go_enter Try.func25, Try.ntmps25
  go_wp2_with fail
  refine HC.out.mono ?_
  rintro r w1 ⟨rfl, rfl⟩
  go_wp2_with fail
  go_ret
  exact ⟨rfl, rfl⟩
theorem n_has {W : World} {v : Value} (h : NoDisk W v) (i : Int) : Calls Try.prog 28 #[v, .int .i64 i] W fun e w' => e = .returned (.bool false) ∧ W = w' := by
  have HC := Lib.hid (n_works h)
  clear h
  go_enter Try.func28, Try.ntmps28
  go_wp2_with fail
  refine HC.out.mono ?_
  rintro r w1 ⟨rfl, rfl⟩
  go_wp2_with fail
  go_ret
  exact ⟨rfl, rfl⟩
theorem n_access {W : World} {v : Value} (h : NoDisk W v) (i : Int) : Calls Try.prog 23 #[v, .int .i64 i] W fun e w' => e = .returned (.int .i64 9) ∧ W = w' := by
  have HC := Lib.hid (n_powered h)
  clear h
  go_enter Try.func23, Try.ntmps23
  go_wp2_with fail
  refine HC.out.mono ?_
  rintro r w1 ⟨rfl, rfl⟩
  go_wp2_with fail
  go_ret
  exact ⟨rfl, rfl⟩
theorem n_read {W : World} {v : Value} (h : NoDisk W v) (i : Int) : Calls Try.prog 12 #[v, .int .i64 i] W fun e w' => e = .returned (.tuple #[.string (S []), .int .i64 9]) ∧ W = w' := by
  have HC := Lib.hid (n_access h i)
  clear h
  go_enter Try.func12, Try.ntmps12
  go_wp2_with fail
  refine HC.out.mono ?_
  rintro r w1 ⟨rfl, rfl⟩
  go_wp2_with fail
  go_ret2
  exact ⟨rfl, rfl⟩
theorem n_write {W : World} {v : Value} (h : NoDisk W v) (i : Int) (s : ByteArray) : Calls Try.prog 7 #[v, .int .i64 i, .string s] W fun e w' => e = .returned (.int .i64 9) ∧ W = w' := by
  have HC := Lib.hid (n_access h i)
  clear h
  go_enter Try.func7, Try.ntmps7
  go_wp2_with fail
  refine HC.out.mono ?_
  rintro r w1 ⟨rfl, rfl⟩
  go_wp2_with fail
  go_ret
  exact ⟨rfl, rfl⟩
theorem n_flush {W : World} {v : Value} (h : NoDisk W v) : Calls Try.prog 9 #[v] W fun e w' => e = .returned (.int .i64 9) ∧ W = w' := by
  have HC := Lib.hid (n_powered h)
  clear h
  go_enter Try.func9, Try.ntmps9
  go_wp2_with fail
  refine HC.out.mono ?_
  rintro r w1 ⟨rfl, rfl⟩
  go_wp2_with fail
  go_ret
  exact ⟨rfl, rfl⟩
theorem n_start {W : World} {v : Value} (h : NoDisk W v) : Calls Try.prog 11 #[v] W fun e w' => e = .returned (.int .i64 9) ∧ W = w' := by
  have HC := Lib.hid (n_works h)
  clear h
  go_enter Try.func11, Try.ntmps11
  go_wp2_with fail
  refine HC.out.mono ?_
  rintro r w1 ⟨rfl, rfl⟩
  go_wp2_with fail
  go_ret
  exact ⟨rfl, rfl⟩
theorem n_up {W : World} {v : Value} (h : NoDisk W v) : Calls Try.prog 17 #[v] W fun e w' => e = .returned (.bool false) ∧ W = w' := by
  have HC := Lib.hid (n_works h)
  clear h
  go_enter Try.func17, Try.ntmps17
  go_wp2_with fail
  refine HC.out.mono ?_
  rintro r w1 ⟨rfl, rfl⟩
  go_wp2_with fail
  go_ret
  exact ⟨rfl, rfl⟩
theorem n_size {W : World} {v : Value} (h : NoDisk W v) : Calls Try.prog 14 #[v] W fun e w' => e = .returned (.int .i64 0) ∧ W = w' := by
  have HC := Lib.hid (n_works h)
  clear h
  go_enter Try.func14, Try.ntmps14
  go_wp2_with fail
  refine HC.out.mono ?_
  rintro r w1 ⟨rfl, rfl⟩
  go_wp2_with fail
  go_ret
  exact ⟨rfl, rfl⟩
theorem n_acts {W : World} {v : Value} (h : NoDisk W v) : Calls Try.prog 20 #[v] W fun e w' => e = .returned (.int .i64 0) ∧ W = w' := by
  have HC := Lib.hid (n_works h)
  clear h
  go_enter Try.func20, Try.ntmps20
  go_wp2_with fail
  refine HC.out.mono ?_
  rintro r w1 ⟨rfl, rfl⟩
  go_wp2_with fail
  go_ret
  exact ⟨rfl, rfl⟩
theorem n_falls {W : World} {v : Value} (h : NoDisk W v) : Calls Try.prog 21 #[v] W fun e w' => e = .returned (.int .i64 0) ∧ W = w' := by
  have HC := Lib.hid (n_works h)
  clear h
  go_enter Try.func21, Try.ntmps21
  go_wp2_with fail
  refine HC.out.mono ?_
  rintro r w1 ⟨rfl, rfl⟩
  go_wp2_with fail
  go_ret
  exact ⟨rfl, rfl⟩
theorem n_stamp {W : World} {v : Value} (h : NoDisk W v) (i : Int) : Calls Try.prog 19 #[v, .int .i64 i] W fun e w' => e = .returned (.int .i64 0) ∧ W = w' := by
  have HC := Lib.hid (n_has h i)
  clear h
  go_enter Try.func19, Try.ntmps19
  go_wp2_with fail
  refine HC.out.mono ?_
  rintro r w1 ⟨rfl, rfl⟩
  go_wp2_with fail
  go_ret
  exact ⟨rfl, rfl⟩
theorem n_image {W : World} {v : Value} (h : NoDisk W v) : Calls Try.prog 18 #[v] W fun e w' => e = .returned (.string (S [])) ∧ W = w' := by
  have HC := Lib.hid (n_works h)
  clear h
  go_enter Try.func18, Try.ntmps18
  go_wp2_with fail
  refine HC.out.mono ?_
  rintro r w1 ⟨rfl, rfl⟩
  go_wp2_with fail
  go_ret
  exact ⟨rfl, rfl⟩
theorem n_waiting {W : World} {v : Value} (h : NoDisk W v) : Calls Try.prog 22 #[v] W fun e w' => e = .returned (.slice none 0 0) ∧ W = w' := by
  have HC := Lib.hid (n_works h)
  clear h
  go_enter Try.func22, Try.ntmps22
  go_wp2_with fail
  refine HC.out.mono ?_
  rintro r w1 ⟨rfl, rfl⟩
  go_wp2_with fail
  go_ret
  exact ⟨rfl, rfl⟩
theorem n_calm {W : World} {v : Value} (h : NoDisk W v) : Calls Try.prog 15 #[v] W fun e w' => e = .returned (.tuple #[]) ∧ W = w' := by
  have HC := Lib.hid (n_works h)
  clear h
  go_enter Try.func15, Try.ntmps15
  go_wp2_with fail
  refine HC.out.mono ?_
  rintro r w1 ⟨rfl, rfl⟩
  go_wp2_with fail
  go_end0
  exact ⟨rfl, rfl⟩
theorem n_crash {W : World} {v : Value} (h : NoDisk W v) (a b : Int) : Calls Try.prog 10 #[v, .agg #[.int .u64 a, .int .i64 b]] W fun e w' => e = .returned (.int .i64 9) ∧ Below W.heap.size W w' := by
  have hb : Below W.heap.size W (W.alloc (.cells #[.int .u64 a, .int .i64 b] 25)) := (Below.refl _ W).alloc (Nat.le_refl _) _
  have HC := Lib.hid (n_powered (h.below hb))
  have HB := Lib.hid hb; clear hb
  clear h
  go_enter Try.func10, Try.ntmps10
  go_wp2_with fail
  refine HC.out.mono ?_
  rintro r w1 ⟨rfl, rfl⟩
  go_wp2_with fail
  go_ret
  exact ⟨rfl, HB.out⟩
theorem n_arm {W : World} {v : Value} (h : NoDisk W v) (i a b : Int) : Calls Try.prog 16 #[v, .int .i64 i, .agg #[.int .u64 a, .int .i64 b]] W fun e w' => e = .returned (.int .i64 9) ∧ Below W.heap.size W w' := by
  have hb : Below W.heap.size W (W.alloc (.cells #[.int .u64 a, .int .i64 b] 25)) := (Below.refl _ W).alloc (Nat.le_refl _) _
  have HC := Lib.hid (n_powered (h.below hb))
  have HB := Lib.hid hb; clear hb
  clear h
  go_enter Try.func16, Try.ntmps16
  go_wp2_with fail
  refine HC.out.mono ?_
  rintro r w1 ⟨rfl, rfl⟩
  go_wp2_with fail
  go_ret
  exact ⟨rfl, HB.out⟩
end Go.Proofs.Ytldlhdbdehmhbaa
