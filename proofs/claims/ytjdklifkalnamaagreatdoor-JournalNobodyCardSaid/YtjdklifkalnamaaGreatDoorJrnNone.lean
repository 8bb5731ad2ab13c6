/-
  A journal that nobody opened: the journal's calls upon none, and upon one of noughts; Wipe without a guard.
-/
import Derived.Test.YtjdklifkalnamaaGreatDoorJrnStr
import Derived.Test.YtjdklifkalnamaaGreatDoorJrnAt
import Derived.Test.YtjdklifkalnamaaGreatDoorGrdNone
namespace Go.Proofs.YtjdklifkalnamaaGreatDoor
open Go.RowKit
set_option linter.unusedVariables false

/-- A journal that nobody opened: none at all, or one of noughts. -/
def NoJrn (w : World) (p : Value) : Prop := p = .pointer none ∨ ∃ g, p = .pointer (some ⟨g, 0, none⟩) ∧ w.cell? ⟨g, 0, none⟩ = some (.pointer none)
theorem nj_works {w : World} {p : Value} (h : NoJrn w p) : Calls Tryz.prog 29 #[p] w fun e w' => e = .returned (.bool false) ∧ w' = w := by
  rcases h with rfl | ⟨g, rfl, c0⟩
  · go_enter Tryz.func29, Tryz.ntmps29
    go_wp2_with fail
    go_ret
    exact ⟨rfl, rfl⟩
  · go_enter Tryz.func29, Tryz.ntmps29
    go_wp2_with fail
    go_ret
    exact ⟨rfl, rfl⟩
theorem nj_append {w : World} {p : Value} (h : NoJrn w p) (s : ByteArray) : Calls Tryz.prog 16 #[p, .string s] w fun e w' => e = .returned (.int .i64 9) ∧ w' = w := by
  have HW := Lib.hid (nj_works h)
  clear h
  go_enter Tryz.func16, Tryz.ntmps16
  go_wp2_with fail
  refine HW.out.mono ?_
  rintro r w1 ⟨rfl, rfl⟩
  go_wp2_with fail
  go_ret
  exact ⟨rfl, rfl⟩
theorem nj_flush {w : World} {p : Value} (h : NoJrn w p) : Calls Tryz.prog 10 #[p] w fun e w' => e = .returned (.int .i64 9) ∧ w' = w := by
  have HW := Lib.hid (nj_works h)
  clear h
  go_enter Tryz.func10, Tryz.ntmps10
  go_wp2_with fail
  refine HW.out.mono ?_
  rintro r w1 ⟨rfl, rfl⟩
  go_wp2_with fail
  go_ret
  exact ⟨rfl, rfl⟩
theorem nj_records {w : World} {p : Value} (h : NoJrn w p) : Calls Tryz.prog 23 #[p] w fun e w' => e = .returned (.slice none 0 0) ∧ w' = w := by
  have HW := Lib.hid (nj_works h)
  clear h
  go_enter Tryz.func23, Tryz.ntmps23
  go_wp2_with fail
  refine HW.out.mono ?_
  rintro r w1 ⟨rfl, rfl⟩
  go_wp2_with fail
  go_ret
  exact ⟨rfl, rfl⟩
theorem nj_sure {w : World} {p : Value} (h : NoJrn w p) : Calls Tryz.prog 26 #[p] w fun e w' => e = .returned (.int .i64 0) ∧ w' = w := by
  have HW := Lib.hid (nj_works h)
  clear h
  go_enter Tryz.func26, Tryz.ntmps26
  go_wp2_with fail
  refine HW.out.mono ?_
  rintro r w1 ⟨rfl, rfl⟩
  go_wp2_with fail
  go_ret
  exact ⟨rfl, rfl⟩
theorem nj_used {w : World} {p : Value} (h : NoJrn w p) : Calls Tryz.prog 20 #[p] w fun e w' => e = .returned (.int .i64 0) ∧ w' = w := by
  have HW := Lib.hid (nj_works h)
  clear h
  go_enter Tryz.func20, Tryz.ntmps20
  go_wp2_with fail
  refine HW.out.mono ?_
  rintro r w1 ⟨rfl, rfl⟩
  go_wp2_with fail
  go_ret
  exact ⟨rfl, rfl⟩
theorem nj_left {w : World} {p : Value} (h : NoJrn w p) : Calls Tryz.prog 24 #[p] w fun e w' => e = .returned (.int .i64 0) ∧ w' = w := by
  have HW := Lib.hid (nj_works h)
  clear h
  go_enter Tryz.func24, Tryz.ntmps24
  go_wp2_with fail
  refine HW.out.mono ?_
  rintro r w1 ⟨rfl, rfl⟩
  go_wp2_with fail
  go_ret
  exact ⟨rfl, rfl⟩
theorem nw_written (w : World) : Calls Tryz.prog 47 #[.pointer none, .int .i64 0, .int .i64 1] w fun e w' => e = .returned (.tuple #[.slice none 0 0, .int .i64 9]) ∧ w' = w := by
  have HG : Hid (∀ W, Calls Tryz.prog 62 #[.pointer none, .int .i64 0] W fun r w' => r = .returned (.tuple #[.string (S []), .int .i64 0, .int .i64 9]) ∧ W = w') := Lib.hid (fun W => ng_get (Or.inl rfl) 0)
  go_enter Tryz.func47, Tryz.ntmps47
  go_wp2_with fail
  refine wp_loop_rounds 1 ?_
  rw [rounds_succ]
  go_wp2_with fail
  refine (HG.out _).mono ?_
  rintro r w1 ⟨rfl, rfl⟩
  go_wp2_with fail
  go_ret2
  exact ⟨rfl, rfl⟩
theorem nw_wipe (w : World) : Calls Tryz.prog 25 #[.pointer none, .int .i64 0, .int .i64 1] w fun e w' => e = .returned (.tuple #[.int .i64 0, .int .i64 9]) ∧ w' = w := by
  have HW := Lib.hid (fun W => nw_written W)
  go_enter Tryz.func25, Tryz.ntmps25
  go_wp2_with fail
  refine (HW.out _).mono ?_
  rintro r w1 ⟨rfl, rfl⟩
  go_wp2_with fail
  go_ret2
  exact ⟨rfl, rfl⟩
set_option maxRecDepth 100000 in
set_option maxHeartbeats 2000000 in
theorem jnobody_any (s : ByteArray) (w : World) : Calls Tryz.prog 6 #[.string s] w fun e w' => e = .returned (.bool true) ∧ Below w.heap.size w w' := by
  have HW := Lib.hid (fun W => nw_wipe W)
  have HN : Hid (∀ W, NoJrn W (.pointer none)) := Lib.hid (fun W => Or.inl rfl)
  have hz := Has.made w 62 #[.pointer none, .int .i64 0, .int .i64 0, .int .i64 0, .slice none 0 0, .slice none 0 0, .int .i64 0, .int .i64 0, .bool false]
  have hb0 := (Below.refl _ w).alloc (Nat.le_refl _) (.cells #[.pointer none, .int .i64 0, .int .i64 0, .int .i64 0, .slice none 0 0, .slice none 0 0, .int .i64 0, .int .i64 0, .bool false] 62)
  have HZ : Hid (NoJrn (w.alloc (.cells #[.pointer none, .int .i64 0, .int .i64 0, .int .i64 0, .slice none 0 0, .slice none 0 0, .int .i64 0, .int .i64 0, .bool false] 62)) (.pointer (some ⟨w.heap.size, 0, none⟩))) := Lib.hid (Or.inr ⟨_, rfl, hz.cell 0⟩)
  have HB := Lib.hid hb0
  have HA := Lib.hid (fun W => jawakeJ_any W)
  clear hz hb0
  go_enter Tryz.func6, Tryz.ntmps6
  go_wp2_with fail
  refine (HW.out _).mono ?_
  rintro r w1 ⟨rfl, rfl⟩
  go_wp2_with fail
  refine (nj_append (HN.out _) _).mono ?_
  rintro r w2 ⟨rfl, rfl⟩
  go_wp2_with fail
  refine (nj_flush HZ.out).mono ?_
  rintro r w3 ⟨rfl, rfl⟩
  go_wp2_with fail
  refine (nj_records (HN.out _)).mono ?_
  rintro r w4 ⟨rfl, rfl⟩
  go_wp2_with fail
  refine (nj_sure HZ.out).mono ?_
  rintro r w5 ⟨rfl, rfl⟩
  go_wp2_with fail
  refine (nj_used (HN.out _)).mono ?_
  rintro r w6 ⟨rfl, rfl⟩
  go_wp2_with fail
  refine (nj_left HZ.out).mono ?_
  rintro r w7 ⟨rfl, rfl⟩
  go_wp2_with fail
  refine (HA.out _).mono ?_
  rintro r w8 ⟨rfl, hb8⟩
  have HB8 := Lib.hid (HB.out.trans (hb8.mono HB.out.size))
  clear hb8
  go_wp2_with fail
  go_ret
  exact ⟨rfl, HB8.out⟩
end Go.Proofs.YtjdklifkalnamaaGreatDoor
