/-
  The contracts of a mill that nobody made.
-/
import Derived.Test.YtlbdpadifhgloaaDoorMillRec
namespace Go.Proofs.YtlbdpadifhgloaaDoor
open Go.RowKit
set_option linter.unusedVariables false

theorem millSum_nil (s : ByteArray) (w : World) : Calls Tryd.prog 13 #[.pointer none, .string s] w (SamePost w (.string (S []))) := by
  go_enter Tryd.func13, Tryd.ntmps13
  go_wp2_with fail
  refine (works_nil w).mono ?_
  rintro r1 w1 ⟨rfl, rfl⟩
  go_wp2_with fail
  go_ret
  exact ⟨rfl, rfl⟩
theorem millSum_zero (g : Nat) (s : ByteArray) (w : World) (h : w.cell? ⟨g, 8, none⟩ = some (.bool false)) : Calls Tryd.prog 13 #[.pointer (some ⟨g, 0, none⟩), .string s] w (SamePost w (.string (S []))) := by
  have HW := Lib.hid (works_is g false w h)
  go_enter Tryd.func13, Tryd.ntmps13
  go_wp2_with fail
  refine HW.out.mono ?_
  rintro r1 w1 ⟨rfl, rfl⟩
  go_wp2_with fail
  go_ret
  exact ⟨rfl, rfl⟩
theorem millTag_nil (k s : ByteArray) (w : World) : Calls Tryd.prog 19 #[.pointer none, .string k, .string s] w (SamePost w (.string (S []))) := by
  go_enter Tryd.func19, Tryd.ntmps19
  go_wp2_with fail
  refine (works_nil w).mono ?_
  rintro r1 w1 ⟨rfl, rfl⟩
  go_wp2_with fail
  go_ret
  exact ⟨rfl, rfl⟩
theorem twins_nil (w : World) : Calls Tryd.prog 29 #[.pointer none] w (SamePost w (.tuple #[.string (S []), .string (S []), .bool false])) := by
  go_enter Tryd.func29, Tryd.ntmps29
  go_wp2_with fail
  refine (works_nil w).mono ?_
  rintro r1 w1 ⟨rfl, rfl⟩
  go_wp2_with fail
  go_ret3
  exact ⟨rfl, rfl⟩
theorem stream_zero (g : Nat) (k l : ByteArray) (n : Int) (w : World) (h : w.cell? ⟨g, 8, none⟩ = some (.bool false)) : Calls Tryd.prog 37 #[.pointer (some ⟨g, 0, none⟩), .string k, .string l, .int .i64 n] w (SamePost w (.string (S []))) := by
  have HW := Lib.hid (works_is g false w h)
  go_enter Tryd.func37, Tryd.ntmps37
  go_wp2_with fail
  refine HW.out.mono ?_
  rintro r1 w1 ⟨rfl, rfl⟩
  go_wp2_with fail
  go_ret
  exact ⟨rfl, rfl⟩
theorem stream_nil (k l : ByteArray) (n : Int) (w : World) : Calls Tryd.prog 37 #[.pointer none, .string k, .string l, .int .i64 n] w (SamePost w (.string (S []))) := by
  go_enter Tryd.func37, Tryd.ntmps37
  go_wp2_with fail
  refine (works_nil w).mono ?_
  rintro r1 w1 ⟨rfl, rfl⟩
  go_wp2_with fail
  go_ret
  exact ⟨rfl, rfl⟩
theorem stream_none (g : Nat) (k l : ByteArray) (n : Int) (hn : n < 1) (w : World) (h : w.cell? ⟨g, 8, none⟩ = some (.bool true)) : Calls Tryd.prog 37 #[.pointer (some ⟨g, 0, none⟩), .string k, .string l, .int .i64 n] w (SamePost w (.string (S []))) := by
  have HW := Lib.hid (works_is g true w h)
  go_enter Tryd.func37, Tryd.ntmps37
  go_wp2_with fail
  refine HW.out.mono ?_
  rintro r1 w1 ⟨rfl, rfl⟩
  go_wp2_with fail
  go_ret
  exact ⟨rfl, rfl⟩
end Go.Proofs.YtlbdpadifhgloaaDoor
