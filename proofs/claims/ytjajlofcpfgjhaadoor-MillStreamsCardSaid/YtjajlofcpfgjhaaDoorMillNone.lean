/-
  The contracts of a mill that nobody made.
-/
import Derived.Test.YtjajlofcpfgjhaaDoorMillRec
namespace Go.Proofs.YtjajlofcpfgjhaaDoor
open Go.RowKit
set_option linter.unusedVariables false

theorem millSum_nil (s : ByteArray) (w : World) : Calls Tryd.prog 17 #[.pointer none, .string s] w (SamePost w (.string (S []))) := by
  go_enter Tryd.func17, Tryd.ntmps17
  go_wp2_with fail
  refine (works_nil w).mono ?_
  rintro r1 w1 ⟨rfl, rfl⟩
  go_wp2_with fail
  go_ret
  exact ⟨rfl, rfl⟩
theorem millSum_zero (g : Nat) (s : ByteArray) (w : World) (h : w.cell? ⟨g, 8, none⟩ = some (.bool false)) : Calls Tryd.prog 17 #[.pointer (some ⟨g, 0, none⟩), .string s] w (SamePost w (.string (S []))) := by
  have HW := Lib.hid (works_is g false w h)
  go_enter Tryd.func17, Tryd.ntmps17
  go_wp2_with fail
  refine HW.out.mono ?_
  rintro r1 w1 ⟨rfl, rfl⟩
  go_wp2_with fail
  go_ret
  exact ⟨rfl, rfl⟩
theorem millTag_nil (k s : ByteArray) (w : World) : Calls Tryd.prog 21 #[.pointer none, .string k, .string s] w (SamePost w (.string (S []))) := by
  go_enter Tryd.func21, Tryd.ntmps21
  go_wp2_with fail
  refine (works_nil w).mono ?_
  rintro r1 w1 ⟨rfl, rfl⟩
  go_wp2_with fail
  go_ret
  exact ⟨rfl, rfl⟩
theorem twins_nil (w : World) : Calls Tryd.prog 18 #[.pointer none] w (SamePost w (.tuple #[.string (S []), .string (S []), .bool false])) := by
  go_enter Tryd.func18, Tryd.ntmps18
  go_wp2_with fail
  refine (works_nil w).mono ?_
  rintro r1 w1 ⟨rfl, rfl⟩
  go_wp2_with fail
  go_ret3
  exact ⟨rfl, rfl⟩
theorem full_zero (g : Nat) (w : World) (h : w.cell? ⟨g, 8, none⟩ = some (.bool false)) : Calls Tryd.prog 20 #[.pointer (some ⟨g, 0, none⟩)] w (SamePost w (.bool false)) := by
  have HW := Lib.hid (works_is g false w h)
  go_enter Tryd.func20, Tryd.ntmps20
  go_wp2_with fail
  refine HW.out.mono ?_
  rintro r1 w1 ⟨rfl, rfl⟩
  go_wp2_with fail
  go_ret
  exact ⟨rfl, rfl⟩
theorem sums_nil (w : World) : Calls Tryd.prog 19 #[.pointer none] w (SamePost w (.int .i64 0)) := by
  go_enter Tryd.func19, Tryd.ntmps19
  go_wp2_with fail
  refine (works_nil w).mono ?_
  rintro r1 w1 ⟨rfl, rfl⟩
  go_wp2_with fail
  go_ret
  exact ⟨rfl, rfl⟩
theorem sums_zero (g : Nat) (w : World) (h : w.cell? ⟨g, 8, none⟩ = some (.bool false)) : Calls Tryd.prog 19 #[.pointer (some ⟨g, 0, none⟩)] w (SamePost w (.int .i64 0)) := by
  have HW := Lib.hid (works_is g false w h)
  go_enter Tryd.func19, Tryd.ntmps19
  go_wp2_with fail
  refine HW.out.mono ?_
  rintro r1 w1 ⟨rfl, rfl⟩
  go_wp2_with fail
  go_ret
  exact ⟨rfl, rfl⟩
theorem stream_zero (g : Nat) (k l : ByteArray) (n : Int) (w : World) (h : w.cell? ⟨g, 8, none⟩ = some (.bool false)) : Calls Tryd.prog 24 #[.pointer (some ⟨g, 0, none⟩), .string k, .string l, .int .i64 n] w (SamePost w (.string (S []))) := by
  have HW := Lib.hid (works_is g false w h)
  go_enter Tryd.func24, Tryd.ntmps24
  go_wp2_with fail
  refine HW.out.mono ?_
  rintro r1 w1 ⟨rfl, rfl⟩
  go_wp2_with fail
  go_ret
  exact ⟨rfl, rfl⟩
theorem stream_nil (k l : ByteArray) (n : Int) (w : World) : Calls Tryd.prog 24 #[.pointer none, .string k, .string l, .int .i64 n] w (SamePost w (.string (S []))) := by
  go_enter Tryd.func24, Tryd.ntmps24
  go_wp2_with fail
  refine (works_nil w).mono ?_
  rintro r1 w1 ⟨rfl, rfl⟩
  go_wp2_with fail
  go_ret
  exact ⟨rfl, rfl⟩
theorem stream_none (g : Nat) (k l : ByteArray) (n : Int) (hn : n < 1) (w : World) (h : w.cell? ⟨g, 8, none⟩ = some (.bool true)) : Calls Tryd.prog 24 #[.pointer (some ⟨g, 0, none⟩), .string k, .string l, .int .i64 n] w (SamePost w (.string (S []))) := by
  have HW := Lib.hid (works_is g true w h)
  go_enter Tryd.func24, Tryd.ntmps24
  go_wp2_with fail
  refine HW.out.mono ?_
  rintro r1 w1 ⟨rfl, rfl⟩
  go_wp2_with fail
  go_ret
  exact ⟨rfl, rfl⟩
end Go.Proofs.YtjajlofcpfgjhaaDoor
