/-
  A state that nobody made: nil, or zero.
-/
import Derived.Test.YtojemaaljjibiaaQWQ
namespace Go.Proofs.Ytojemaaljjibiaa
open Go.RowKit
set_option linter.unusedVariables false

section
variable {w : World} {b : Nat}
set_option maxRecDepth 100000 in
theorem nLen (w : World) :
    Calls Try.prog 20 #[.pointer none] w fun r w' => r = .returned (.int .i64 0) ∧ w' = w := by
  have HW := Lib.hid (works_nil w)
  go_enter Try.func20, Try.ntmps20
  go_wp2_with fail
  refine HW.out.mono ?_
  rintro r w1 ⟨rfl, hw1⟩
  subst w1
  go_wp2_with fail
  go_ret
  exact ⟨rfl, rfl⟩
set_option maxRecDepth 100000 in
theorem zNow (h : Has w b 58 #[.slice none 0 0, .map none, .slice none 0 0, .int .i64 0, .int .i64 0]) :
    Calls Try.prog 24 #[.pointer (some ⟨b, 0, none⟩)] w fun r w' => r = .returned (.int .i64 0) ∧ w' = w := by
  have HW := Lib.hid (works_zero h)
  go_enter Try.func24, Try.ntmps24
  go_wp2_with fail
  refine HW.out.mono ?_
  rintro r w1 ⟨rfl, hw1⟩
  subst w1
  go_wp2_with fail
  go_ret
  exact ⟨rfl, rfl⟩
set_option maxRecDepth 100000 in
theorem nEvents (w : World) :
    Calls Try.prog 16 #[.pointer none] w fun r w' => r = .returned (.int .i64 0) ∧ w' = w := by
  have HW := Lib.hid (works_nil w)
  go_enter Try.func16, Try.ntmps16
  go_wp2_with fail
  refine HW.out.mono ?_
  rintro r w1 ⟨rfl, hw1⟩
  subst w1
  go_wp2_with fail
  go_ret
  exact ⟨rfl, rfl⟩
set_option maxRecDepth 100000 in
theorem zEntries (h : Has w b 58 #[.slice none 0 0, .map none, .slice none 0 0, .int .i64 0, .int .i64 0]) :
    Calls Try.prog 23 #[.pointer (some ⟨b, 0, none⟩)] w fun r w' => r = .returned (.slice none 0 0) ∧ w' = w := by
  have HW := Lib.hid (works_zero h)
  go_enter Try.func23, Try.ntmps23
  go_wp2_with fail
  refine HW.out.mono ?_
  rintro r w1 ⟨rfl, hw1⟩
  subst w1
  go_wp2_with fail
  go_ret
  exact ⟨rfl, rfl⟩
set_option maxRecDepth 100000 in
theorem nPoints (w : World) :
    Calls Try.prog 21 #[.pointer none] w fun r w' => r = .returned (.slice none 0 0) ∧ w' = w := by
  have HW := Lib.hid (works_nil w)
  go_enter Try.func21, Try.ntmps21
  go_wp2_with fail
  refine HW.out.mono ?_
  rintro r w1 ⟨rfl, hw1⟩
  subst w1
  go_wp2_with fail
  go_ret
  exact ⟨rfl, rfl⟩
set_option maxRecDepth 100000 in
theorem zUsed (h : Has w b 58 #[.slice none 0 0, .map none, .slice none 0 0, .int .i64 0, .int .i64 0]) :
    Calls Try.prog 28 #[.pointer (some ⟨b, 0, none⟩)] w fun r w' => r = .returned (.slice none 0 0) ∧ w' = w := by
  have HW := Lib.hid (works_zero h)
  go_enter Try.func28, Try.ntmps28
  go_wp2_with fail
  refine HW.out.mono ?_
  rintro r w1 ⟨rfl, hw1⟩
  subst w1
  go_wp2_with fail
  go_ret
  exact ⟨rfl, rfl⟩
set_option maxRecDepth 100000 in
theorem nSnapshot (w : World) :
    Calls Try.prog 19 #[.pointer none] w fun r w' => r = .returned (.slice none 0 0) ∧ w' = w := by
  have HW := Lib.hid (works_nil w)
  go_enter Try.func19, Try.ntmps19
  go_wp2_with fail
  refine HW.out.mono ?_
  rintro r w1 ⟨rfl, hw1⟩
  subst w1
  go_wp2_with fail
  go_ret
  exact ⟨rfl, rfl⟩
set_option maxRecDepth 100000 in
theorem zSeq (h : Has w b 58 #[.slice none 0 0, .map none, .slice none 0 0, .int .i64 0, .int .i64 0]) (id : List UInt8) :
    Calls Try.prog 27 #[.pointer (some ⟨b, 0, none⟩), .string (S id)] w fun r w' => r = .returned (.tuple #[.int .i64 0, .int .i64 9]) ∧ w' = w := by
  have HW := Lib.hid (works_zero h)
  go_enter Try.func27, Try.ntmps27
  go_wp2_with fail
  refine HW.out.mono ?_
  rintro r w1 ⟨rfl, hw1⟩
  subst w1
  go_wp2_with fail
  go_ret2
  exact ⟨rfl, rfl⟩
set_option maxRecDepth 100000 in
theorem nEntry (w : World) (i : Int) :
    Calls Try.prog 26 #[.pointer none, .int .i64 i] w fun r w' => ∃ x : EntX, r = .returned (.tuple #[x.val, .int .i64 9]) ∧ Below w.heap.size w w' := by
  have hba : Below w.heap.size w (w.alloc (.cells entZ 33)) := stBox _ _
  have HW := Lib.hid (works_nil (w.alloc (.cells entZ 33)))
  have hz := Has.made w 33 entZ
  unfold entZ at *
  go_enter Try.func26, Try.ntmps26
  go_upto_region 1 with fail
  generalize w.alloc (.cells #[.string ⟨#[]⟩, .int .i64 0, .int .i64 0, .int .i64 0, .slice none 0 0, .bool false, .slice none 0 0] 33) = W0 at *
  obtain ⟨b0, hq0⟩ : ∃ b0, w.heap.size = b0 := ⟨_, rfl⟩
  rw [hq0] at hz ⊢
  have HQ0 := Lib.hid hq0
  have HH := Lib.hid (set7 hz (.string ⟨#[]⟩) (.int .i64 0) (.int .i64 0) (.int .i64 0) (.slice none 0 0) (.bool false) (.slice none 0 0))
  have HB := Lib.hid ((only7 W0 b0 (.string ⟨#[]⟩) (.int .i64 0) (.int .i64 0) (.int .i64 0) (.slice none 0 0) (.bool false) (.slice none 0 0)).below hba hba.size (by omega))
  have z0 := hz.cell 0
  have f0 := hz.free 0
  have z1 := hz.cell 1
  have f1 := hz.free 1
  have z2 := hz.cell 2
  have f2 := hz.free 2
  have z3 := hz.cell 3
  have f3 := hz.free 3
  have z4 := hz.cell 4
  have f4 := hz.free 4
  have z5 := hz.cell 5
  have f5 := hz.free 5
  have z6 := hz.cell 6
  have f6 := hz.free 6
  clear hz hba hq0
  go_wp2_with fail
  refine HW.out.mono ?_
  rintro r w1 ⟨rfl, hw1⟩
  subst w1
  go_wp2_with fail
  refine ret_ent2 (p := 4) (u := 5) rfl b0 _ _ rfl rfl rfl HH.out rfl ?_
  exact ⟨⟨⟨[], 0, 0, 0, [], false, []⟩, none, 0, none, 0⟩, rfl, by rw [HQ0.out]; rw [HQ0.out] at HB; exact HB.out⟩
set_option maxRecDepth 100000 in
theorem nCheck (w : World) (v : Evt) (A : Option Addr) (ca : Nat) (B : Option Addr) (cb : Nat) :
    Calls Try.prog 12 #[.pointer none, v.val A ca B cb] w fun r w' => r = .returned (.int .i64 9) ∧ Below w.heap.size w w' := by
  have hba := stBox w (.cells #[.int .i64 v.kind, .string (S v.ent.id), .int .i64 v.ent.cls, .int .i64 v.ent.born, .int .i64 v.ent.slot, .slice A v.ent.L.length ca, .bool v.ent.gone, .slice B v.ent.H.length cb, .int .i64 v.seq, .int .i64 v.idx, .string (S v.name), .int .i64 v.size, .string (S v.root), .int .i64 v.now] 37)
  have HW := Lib.hid (works_nil (w.alloc (.cells #[.int .i64 v.kind, .string (S v.ent.id), .int .i64 v.ent.cls, .int .i64 v.ent.born, .int .i64 v.ent.slot, .slice A v.ent.L.length ca, .bool v.ent.gone, .slice B v.ent.H.length cb, .int .i64 v.seq, .int .i64 v.idx, .string (S v.name), .int .i64 v.size, .string (S v.root), .int .i64 v.now] 37)))
  have HB := Lib.hid hba
  clear hba
  unfold Evt.val
  obtain ⟨kind, ⟨id, cls, born, slot, L, gone, H⟩, seq, idx, name, size, root, now⟩ := v
  dsimp only at *
  go_enter Try.func12, Try.ntmps12
  go_wp2_with fail
  refine HW.out.mono ?_
  rintro r w1 ⟨rfl, hw1⟩
  subst w1
  go_wp2_with fail
  go_ret
  exact ⟨rfl, HB.out⟩
set_option maxRecDepth 100000 in
theorem zCheck (h : Has w b 58 #[.slice none 0 0, .map none, .slice none 0 0, .int .i64 0, .int .i64 0]) (v : Evt) (A : Option Addr) (ca : Nat) (B : Option Addr) (cb : Nat) :
    Calls Try.prog 12 #[.pointer (some ⟨b, 0, none⟩), v.val A ca B cb] w fun r w' => r = .returned (.int .i64 9) ∧ Below w.heap.size w w' := by
  have hba := stBox w (.cells #[.int .i64 v.kind, .string (S v.ent.id), .int .i64 v.ent.cls, .int .i64 v.ent.born, .int .i64 v.ent.slot, .slice A v.ent.L.length ca, .bool v.ent.gone, .slice B v.ent.H.length cb, .int .i64 v.seq, .int .i64 v.idx, .string (S v.name), .int .i64 v.size, .string (S v.root), .int .i64 v.now] 37)
  have HW := Lib.hid (works_zero (h.below hba h.lt))
  have HB := Lib.hid hba
  clear hba
  unfold Evt.val
  obtain ⟨kind, ⟨id, cls, born, slot, L, gone, H⟩, seq, idx, name, size, root, now⟩ := v
  dsimp only at *
  go_enter Try.func12, Try.ntmps12
  go_wp2_with fail
  refine HW.out.mono ?_
  rintro r w1 ⟨rfl, hw1⟩
  subst w1
  go_wp2_with fail
  go_ret
  exact ⟨rfl, HB.out⟩
set_option maxRecDepth 100000 in
set_option maxHeartbeats 4000000 in
theorem zApply (h : Has w b 58 #[.slice none 0 0, .map none, .slice none 0 0, .int .i64 0, .int .i64 0]) (v : Evt) (A : Option Addr) (ca : Nat) (B : Option Addr) (cb : Nat) :
    Calls Try.prog 13 #[.pointer (some ⟨b, 0, none⟩), v.val A ca B cb] w fun r w' => r = .returned (.int .i64 9) ∧ Below w.heap.size w w' := by
  have hba := stBox w (.cells #[.int .i64 v.kind, .string (S v.ent.id), .int .i64 v.ent.cls, .int .i64 v.ent.born, .int .i64 v.ent.slot, .slice A v.ent.L.length ca, .bool v.ent.gone, .slice B v.ent.H.length cb, .int .i64 v.seq, .int .i64 v.idx, .string (S v.name), .int .i64 v.size, .string (S v.root), .int .i64 v.now] 37)
  have hbx := Has.made w 37 #[.int .i64 v.kind, .string (S v.ent.id), .int .i64 v.ent.cls, .int .i64 v.ent.born, .int .i64 v.ent.slot, .slice A v.ent.L.length ca, .bool v.ent.gone, .slice B v.ent.H.length cb, .int .i64 v.seq, .int .i64 v.idx, .string (S v.name), .int .i64 v.size, .string (S v.root), .int .i64 v.now]
  have HC := Lib.hid (zCheck (h.below hba h.lt) v A ca B cb)
  have HB := Lib.hid hba
  clear hba
  unfold Evt.val at *
  obtain ⟨kind, ⟨id, cls, born, slot, L, gone, H⟩, seq, idx, name, size, root, now⟩ := v
  dsimp only at *
  go_enter Try.func13, Try.ntmps13
  go_upto_region 1 with fail
  generalize w.alloc (.cells #[.int .i64 kind, .string (S id), .int .i64 cls, .int .i64 born, .int .i64 slot, .slice A L.length ca, .bool gone, .slice B H.length cb, .int .i64 seq, .int .i64 idx, .string (S name), .int .i64 size, .string (S root), .int .i64 now] 37) = W0 at *
  generalize w.heap.size = b0 at hbx ⊢
  have y0 := hbx.cell 0
  have y1 := hbx.cell 1
  have y2 := hbx.cell 2
  have y3 := hbx.cell 3
  have y4 := hbx.cell 4
  have y5 := hbx.cell 5
  have y6 := hbx.cell 6
  have y7 := hbx.cell 7
  have y8 := hbx.cell 8
  have y9 := hbx.cell 9
  have y10 := hbx.cell 10
  have y11 := hbx.cell 11
  have y12 := hbx.cell 12
  have y13 := hbx.cell 13
  clear hbx h
  go_wp2_with fail
  refine HC.out.mono ?_
  rintro r w1 ⟨rfl, hb1⟩
  have HB1 := Lib.hid (HB.out.trans (hb1.mono HB.out.size))
  clear hb1 y0 y1 y2 y3 y4 y5 y6 y7 y8 y9 y10 y11 y12 y13
  go_wp2_with fail
  go_ret
  exact ⟨rfl, HB1.out⟩
set_option maxRecDepth 100000 in
theorem nSame (w : World) (y : Value) : Calls Try.prog 22 #[.pointer none, .pointer none] w fun r w' => r = .returned (.bool false) ∧ w' = w := by
  have HW := Lib.hid (works_nil w)
  go_enter Try.func22, Try.ntmps22
  go_wp2_with fail
  refine HW.out.mono ?_
  rintro r w1 ⟨rfl, hw1⟩
  subst w1
  go_wp2_with fail
  go_ret
  exact ⟨rfl, rfl⟩
set_option maxRecDepth 100000 in
theorem qSame {q : Nat} {s ot : List Nat} {st : Sta} {n : Nat} (h : StAt w q s ot st n) : Calls Try.prog 22 #[.pointer (some ⟨q, 0, none⟩), .pointer none] w fun r w' => r = .returned (.bool false) ∧ w' = w := by
  have HW1 := Lib.hid h.works
  have HW := Lib.hid (works_nil w)
  clear h
  go_enter Try.func22, Try.ntmps22
  go_wp2_with fail
  refine HW1.out.mono ?_
  rintro r w1 ⟨rfl, hw1⟩
  subst w1
  go_wp2_with fail
  refine HW.out.mono ?_
  rintro r w1 ⟨rfl, hw1⟩
  subst w1
  go_wp2_with fail
  go_ret
  exact ⟨rfl, rfl⟩
end
end Go.Proofs.Ytojemaaljjibiaa
