/-
  A guard that nobody made: each call's contract.
-/
import Derived.Test.YtcgdjljfgjoliaaDoorGrdB
import Derived.Test.YtcgdjljfgjoliaaDoorDskNone
import Derived.WalkSmall
import Derived.OwnWalk
namespace Go.Proofs.YtcgdjljfgjoliaaDoor
open Go.RowKit
set_option linter.unusedVariables false

/-- No guard, or one that New did not make. -/
def NoGuard (W : World) (v : Value) : Prop := v = .pointer none ∨ ∃ g, v = .pointer (some ⟨g, 0, none⟩) ∧ W.cell? ⟨g, 0, none⟩ = some (.pointer none) ∧ g < W.heap.size
theorem NoGuard.below {W W' : World} {v : Value} (h : NoGuard W v) (hb : Below W.heap.size W W') : NoGuard W' v := by
  rcases h with rfl | ⟨g, rfl, hc, hg⟩
  · exact Or.inl rfl
  · exact Or.inr ⟨g, rfl, (World.cell?_of_block (hb.block g hg)).trans hc, Nat.lt_of_lt_of_le hg hb.size⟩
theorem nod (W : World) : NoDisk W (.pointer none) := Or.inl rfl
set_option maxRecDepth 100000 in
theorem ng_disk {W : World} {v : Value} (h : NoGuard W v) : Calls Tryd.prog 16 #[v] W fun r w' => r = .returned (.pointer none) ∧ W = w' := by
  rcases h with rfl | ⟨g, rfl, hc, hg⟩
  · go_enter Tryd.func16, Tryd.ntmps16
    go_wp2_with fail
    go_ret
    exact ⟨rfl, rfl⟩
  · go_enter Tryd.func16, Tryd.ntmps16
    go_wp2_with fail
    go_ret
    exact ⟨rfl, rfl⟩
set_option maxRecDepth 100000 in
theorem ng_read (W : World) (i : Int) : Calls Tryd.prog 20 #[.pointer none, .int .i64 i] W fun r w' => r = .returned (.tuple #[.string (S []), .int .i64 0, .int .i64 9]) ∧ W = w' := by
  have HC := Lib.hid (n_read (nod W) i)
  go_enter Tryd.func20, Tryd.ntmps20
  go_wp2_with fail
  refine HC.out.mono ?_
  rintro r w1 ⟨rfl, rfl⟩
  go_wp2_with fail
  go_ret3
  exact ⟨rfl, rfl⟩
set_option maxRecDepth 100000 in
theorem ng_get {W : World} {v : Value} (h : NoGuard W v) (i : Int) : Calls Tryd.prog 12 #[v, .int .i64 i] W fun r w' => r = .returned (.tuple #[.string (S []), .int .i64 0, .int .i64 9]) ∧ W = w' := by
  have HD := Lib.hid (ng_disk h)
  have HC := Lib.hid (ng_read W i)
  clear h
  go_enter Tryd.func12, Tryd.ntmps12
  go_wp2_with fail
  refine HD.out.mono ?_
  rintro r w1 ⟨rfl, rfl⟩
  go_wp2_with fail
  refine HC.out.mono ?_
  rintro r w1 ⟨rfl, rfl⟩
  go_wp2_with fail
  go_ret3
  exact ⟨rfl, rfl⟩
set_option maxRecDepth 100000 in
theorem ng_blank {W : World} {v : Value} (h : NoGuard W v) (i : Int) : Calls Tryd.prog 15 #[v, .int .i64 i] W fun r w' => r = .returned (.bool false) ∧ W = w' := by
  have HC := Lib.hid (ng_get h i)
  clear h
  go_enter Tryd.func15, Tryd.ntmps15
  go_wp2_with fail
  refine HC.out.mono ?_
  rintro r w1 ⟨rfl, rfl⟩
  go_wp2_with fail
  go_ret
  exact ⟨rfl, rfl⟩
set_option maxRecDepth 100000 in
theorem ng_put {W : World} {v : Value} (h : NoGuard W v) (i : Int) (s : ByteArray) : Calls Tryd.prog 10 #[v, .int .i64 i, .string s] W fun r w' => r = .returned (.tuple #[.int .i64 0, .int .i64 9]) ∧ W = w' := by
  have HD := Lib.hid (ng_disk h)
  clear h
  go_enter Tryd.func10, Tryd.ntmps10
  go_wp2_with fail
  refine HD.out.mono ?_
  rintro r w1 ⟨rfl, rfl⟩
  go_wp2_with fail
  go_ret2
  exact ⟨rfl, rfl⟩
set_option maxRecDepth 100000 in
theorem ng_flush {W : World} {v : Value} (h : NoGuard W v) : Calls Tryd.prog 25 #[v] W fun r w' => r = .returned (.int .i64 9) ∧ W = w' := by
  have HD := Lib.hid (ng_disk h)
  have HC := Lib.hid (n_flush (nod W))
  clear h
  go_enter Tryd.func25, Tryd.ntmps25
  go_wp2_with fail
  refine HD.out.mono ?_
  rintro r w1 ⟨rfl, rfl⟩
  go_wp2_with fail
  refine HC.out.mono ?_
  rintro r w1 ⟨rfl, rfl⟩
  go_wp2_with fail
  go_ret
  exact ⟨rfl, rfl⟩
set_option maxRecDepth 100000 in
theorem ng_erase {W : World} {v : Value} (h : NoGuard W v) (i : Int) : Calls Tryd.prog 26 #[v, .int .i64 i] W fun r w' => r = .returned (.int .i64 9) ∧ Below W.heap.size W w' := by
  have HD := Lib.hid (ng_disk h)
  have HZ : Hid (∀ W, Calls Tryd.prog 41 #[.string (S [0]), .int .i64 64] W fun e w' => e = .returned (.string (S Grd.noughts)) ∧ Below W.heap.size W w') := Lib.hid (fun W => zrep_any 64 (by decide) W)
  have HC : Hid (∀ W, Calls Tryd.prog 19 #[.pointer none, .int .i64 i, .string (S Grd.noughts)] W fun e w' => e = .returned (.int .i64 9) ∧ W = w') := Lib.hid (fun W => n_write (nod W) i (S Grd.noughts))
  generalize Grd.noughts = nz at HZ HC
  clear h
  go_enter Tryd.func26, Tryd.ntmps26
  go_wp2_with fail
  refine HD.out.mono ?_
  rintro r w1 ⟨rfl, rfl⟩
  go_wp2_with fail
  refine (HZ.out _).mono ?_
  rintro r w1 ⟨rfl, hb⟩
  go_wp2_with fail
  refine (HC.out _).mono ?_
  rintro r w1 ⟨rfl, rfl⟩
  go_wp2_with fail
  go_ret
  exact ⟨rfl, hb⟩
set_option maxRecDepth 100000 in
theorem ng_new (W : World) (i : Int) : Calls Tryd.prog 31 #[.pointer none, .int .i64 i] W fun r w' => r = .returned (.tuple #[.pointer none, .int .i64 1]) ∧ W = w' := by
  have HC := Lib.hid (n_size (nod W))
  go_enter Tryd.func31, Tryd.ntmps31
  go_wp2_with fail
  refine HC.out.mono ?_
  rintro r w1 ⟨rfl, rfl⟩
  go_wp2_with fail
  go_ret2
  exact ⟨rfl, rfl⟩
end Go.Proofs.YtcgdjljfgjoliaaDoor
