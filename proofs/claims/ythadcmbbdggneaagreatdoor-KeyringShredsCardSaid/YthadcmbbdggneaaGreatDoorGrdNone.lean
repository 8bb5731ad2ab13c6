/-
  A guard that nobody made: each call's contract.
-/
import Derived.Test.YthadcmbbdggneaaGreatDoorGrdB
import Derived.Test.YthadcmbbdggneaaGreatDoorDskNone
import Derived.WalkSmall
import Derived.OwnWalk
namespace Go.Proofs.YthadcmbbdggneaaGreatDoor
open Go.RowKit
set_option linter.unusedVariables false

/-- No guard, or one that New did not make. -/
def NoGuard (W : World) (v : Value) : Prop := v = .pointer none ∨ ∃ g, v = .pointer (some ⟨g, 0, none⟩) ∧ W.cell? ⟨g, 0, none⟩ = some (.pointer none) ∧ g < W.heap.size
theorem NoGuard.below {W W' : World} {v : Value} (h : NoGuard W v) (hb : Below W.heap.size W W') : NoGuard W' v := by
  rcases h with rfl | ⟨g, rfl, hc, hg⟩
  · exact Or.inl rfl
  · exact Or.inr ⟨g, rfl, (World.cell?_of_block (hb.block g hg)).trans hc, Nat.lt_of_lt_of_le hg hb.size⟩
theorem nod (W : World) : NoDisk W (.pointer none) := Or.inl rfl
set_option maxRecDepth 100000 in
theorem ng_disk {W : World} {v : Value} (h : NoGuard W v) : Calls Tryz.prog 37 #[v] W fun r w' => r = .returned (.pointer none) ∧ W = w' := by
  rcases h with rfl | ⟨g, rfl, hc, hg⟩
  · go_enter Tryz.func37, Tryz.ntmps37
    go_wp2_with fail
    go_ret
    exact ⟨rfl, rfl⟩
  · go_enter Tryz.func37, Tryz.ntmps37
    go_wp2_with fail
    go_ret
    exact ⟨rfl, rfl⟩
set_option maxRecDepth 100000 in
theorem ng_read (W : World) (i : Int) : Calls Tryz.prog 57 #[.pointer none, .int .i64 i] W fun r w' => r = .returned (.tuple #[.string (S []), .int .i64 0, .int .i64 9]) ∧ W = w' := by
  have HC := Lib.hid (n_read (nod W) i)
  go_enter Tryz.func57, Tryz.ntmps57
  go_wp2_with fail
  refine HC.out.mono ?_
  rintro r w1 ⟨rfl, rfl⟩
  go_wp2_with fail
  go_ret3
  exact ⟨rfl, rfl⟩
set_option maxRecDepth 100000 in
theorem ng_get {W : World} {v : Value} (h : NoGuard W v) (i : Int) : Calls Tryz.prog 48 #[v, .int .i64 i] W fun r w' => r = .returned (.tuple #[.string (S []), .int .i64 0, .int .i64 9]) ∧ W = w' := by
  have HD := Lib.hid (ng_disk h)
  have HC := Lib.hid (ng_read W i)
  clear h
  go_enter Tryz.func48, Tryz.ntmps48
  go_wp2_with fail
  refine HD.out.mono ?_
  rintro r w1 ⟨rfl, rfl⟩
  go_wp2_with fail
  refine HC.out.mono ?_
  rintro r w1 ⟨rfl, rfl⟩
  go_wp2_with fail
  go_ret3
  exact ⟨rfl, rfl⟩
set_option maxRecDepth 100000 in
theorem ng_blank {W : World} {v : Value} (h : NoGuard W v) (i : Int) : Calls Tryz.prog 40 #[v, .int .i64 i] W fun r w' => r = .returned (.bool false) ∧ W = w' := by
  have HC := Lib.hid (ng_get h i)
  clear h
  go_enter Tryz.func40, Tryz.ntmps40
  go_wp2_with fail
  refine HC.out.mono ?_
  rintro r w1 ⟨rfl, rfl⟩
  go_wp2_with fail
  go_ret
  exact ⟨rfl, rfl⟩
set_option maxRecDepth 100000 in
theorem ng_put {W : World} {v : Value} (h : NoGuard W v) (i : Int) (s : ByteArray) : Calls Tryz.prog 44 #[v, .int .i64 i, .string s] W fun r w' => r = .returned (.tuple #[.int .i64 0, .int .i64 9]) ∧ W = w' := by
  have HD := Lib.hid (ng_disk h)
  clear h
  go_enter Tryz.func44, Tryz.ntmps44
  go_wp2_with fail
  refine HD.out.mono ?_
  rintro r w1 ⟨rfl, rfl⟩
  go_wp2_with fail
  go_ret2
  exact ⟨rfl, rfl⟩
set_option maxRecDepth 100000 in
theorem ng_flush {W : World} {v : Value} (h : NoGuard W v) : Calls Tryz.prog 45 #[v] W fun r w' => r = .returned (.int .i64 9) ∧ W = w' := by
  have HD := Lib.hid (ng_disk h)
  have HC := Lib.hid (n_flush (nod W))
  clear h
  go_enter Tryz.func45, Tryz.ntmps45
  go_wp2_with fail
  refine HD.out.mono ?_
  rintro r w1 ⟨rfl, rfl⟩
  go_wp2_with fail
  refine HC.out.mono ?_
  rintro r w1 ⟨rfl, rfl⟩
  go_wp2_with fail
  go_ret
  exact ⟨rfl, rfl⟩
set_option maxRecDepth 100000 in
theorem ng_erase {W : World} {v : Value} (h : NoGuard W v) (i : Int) : Calls Tryz.prog 46 #[v, .int .i64 i] W fun r w' => r = .returned (.int .i64 9) ∧ Below W.heap.size W w' := by
  have HD := Lib.hid (ng_disk h)
  have HZ : Hid (∀ W, Calls Tryz.prog 55 #[.string (S [0]), .int .i64 64] W fun e w' => e = .returned (.string (S Grd.noughts)) ∧ Below W.heap.size W w') := Lib.hid (fun W => zrep_any 64 (by decide) W)
  have HC : Hid (∀ W, Calls Tryz.prog 52 #[.pointer none, .int .i64 i, .string (S Grd.noughts)] W fun e w' => e = .returned (.int .i64 9) ∧ W = w') := Lib.hid (fun W => n_write (nod W) i (S Grd.noughts))
  generalize Grd.noughts = nz at HZ HC
  clear h
  go_enter Tryz.func46, Tryz.ntmps46
  go_wp2_with fail
  refine HD.out.mono ?_
  rintro r w1 ⟨rfl, rfl⟩
  go_wp2_with fail
  refine (HZ.out _).mono ?_
  rintro r w1 ⟨rfl, hb⟩
  go_wp2_with fail
  refine (HC.out _).mono ?_
  rintro r w1 ⟨rfl, rfl⟩
  go_wp2_with fail
  go_ret
  exact ⟨rfl, hb⟩
set_option maxRecDepth 100000 in
theorem ng_new (W : World) (i : Int) : Calls Tryz.prog 19 #[.pointer none, .int .i64 i] W fun r w' => r = .returned (.tuple #[.pointer none, .int .i64 1]) ∧ W = w' := by
  have HC := Lib.hid (n_size (nod W))
  go_enter Tryz.func19, Tryz.ntmps19
  go_wp2_with fail
  refine HC.out.mono ?_
  rintro r w1 ⟨rfl, rfl⟩
  go_wp2_with fail
  go_ret2
  exact ⟨rfl, rfl⟩
end Go.Proofs.YthadcmbbdggneaaGreatDoor
