/-
  A guard: what its block holds, and what its methods do.
-/
import Derived.Test.YthadcmbbdggneaaGreatDoorGrdR
import Derived.Test.YthadcmbbdggneaaGreatDoorDskG
import Derived.Test.YthadcmbbdggneaaGreatDoorDskH
import Derived.Test.YthadcmbbdggneaaGreatDoorDskNone
namespace Go.Proofs.YthadcmbbdggneaaGreatDoor
open Go.RowKit
set_option linter.unusedVariables false

/-- Block gg is a guard of the disk in blocks g, bd, mb, of the start boot, that has written wr sectors. -/
structure GuardAt (w : World) (gg g bd mb boot wr : Nat) (d : Dsk.St) : Prop where
  cells : Has w gg 79 #[.pointer (some ⟨g, 0, none⟩), .int .i64 (boot : Int), .int .i64 (wr : Int)]
  disk : DiskAt w g bd mb d
  n1 : gg ≠ g
  n2 : gg ≠ bd
  n3 : gg ≠ mb
  lo : 1 ≤ boot
  hi : boot ≤ 2147483647
theorem GuardAt.below {w w' : World} {gg g bd mb boot wr : Nat} {d : Dsk.St} (h : GuardAt w gg g bd mb boot wr d) (hb : Below w.heap.size w w') : GuardAt w' gg g bd mb boot wr d :=
  ⟨h.cells.below hb h.cells.lt, h.disk.below hb, h.n1, h.n2, h.n3, h.lo, h.hi⟩
theorem GuardAt.turn {w w' : World} {gg g bd mb boot wr : Nat} {d d' : Dsk.St} (h : GuardAt w gg g bd mb boot wr d) (hd : DiskAt w' g bd mb d') (hm : Mv w w' [g, bd, mb]) : GuardAt w' gg g bd mb boot wr d' :=
  ⟨hm.has h.cells (by simp [h.n1, h.n2, h.n3]), hd, h.n1, h.n2, h.n3, h.lo, h.hi⟩
theorem GuardAt.cell0 {w : World} {gg g bd mb boot wr : Nat} {d : Dsk.St} (h : GuardAt w gg g bd mb boot wr d) :
    w.cell? ⟨gg, 0, none⟩ = some (.pointer (some ⟨g, 0, none⟩)) ∧ w.cell? ⟨gg, 1, none⟩ = some (.int .i64 (boot : Int)) ∧ w.cell? ⟨gg, 2, none⟩ = some (.int .i64 (wr : Int)) :=
  ⟨by rw [h.cells.cell]; rfl, by rw [h.cells.cell]; rfl, by rw [h.cells.cell]; rfl⟩

set_option maxRecDepth 100000 in
theorem gdisk_any {w : World} {gg g bd mb boot wr : Nat} {d : Dsk.St} (h : GuardAt w gg g bd mb boot wr d) :
    Calls Tryz.prog 37 #[.pointer (some ⟨gg, 0, none⟩)] w fun r w' => r = .returned (.pointer (some ⟨g, 0, none⟩)) ∧ w = w' := by
  obtain ⟨c0, _⟩ := h.cell0
  clear h
  go_enter Tryz.func37, Tryz.ntmps37
  go_wp2_with fail
  go_ret
  exact ⟨rfl, rfl⟩
set_option maxRecDepth 100000 in
theorem gget_any {w : World} {gg g bd mb boot wr : Nat} {d : Dsk.St} (h : GuardAt w gg g bd mb boot wr d) (i : Int) :
    Calls Tryz.prog 48 #[.pointer (some ⟨gg, 0, none⟩), .int .i64 i] w (GReadPost w (Grd.read d i)) := by
  have HD := Lib.hid (gdisk_any h)
  have HR := Lib.hid (gread_any h.disk i)
  generalize Grd.read d i = res at HR ⊢
  unfold GReadPost at HR ⊢
  clear h
  go_enter Tryz.func48, Tryz.ntmps48
  go_wp2_with fail
  refine HD.out.mono ?_
  rintro r w1 ⟨rfl, rfl⟩
  go_wp2_with fail
  refine HR.out.mono ?_
  rintro r w2 ⟨rfl, hb⟩
  go_wp2_with fail
  go_ret3
  exact ⟨rfl, hb⟩
set_option maxRecDepth 100000 in
theorem gblank_any {w : World} {gg g bd mb boot wr : Nat} {d : Dsk.St} (h : GuardAt w gg g bd mb boot wr d) (i : Int) :
    Calls Tryz.prog 40 #[.pointer (some ⟨gg, 0, none⟩), .int .i64 i] w fun e w' => e = .returned (.bool ((Grd.read d i).2.2 == 7)) ∧ Below w.heap.size w w' := by
  have HR := Lib.hid (gget_any h i)
  generalize Grd.read d i = res at HR ⊢
  unfold GReadPost at HR
  clear h
  go_enter Tryz.func40, Tryz.ntmps40
  go_wp2_with fail
  refine HR.out.mono ?_
  rintro r w2 ⟨rfl, hb⟩
  go_wp2_with fail
  go_ret
  exact ⟨rfl, hb⟩
/-- A call that hands back a code, and turns the disk. -/
def GDPost (w : World) (gg g bd mb boot wr : Nat) (c : Int) (d' : Dsk.St) (e : Ending) (w' : World) : Prop := e = .returned (.int .i64 c) ∧ GuardAt w' gg g bd mb boot wr d' ∧ Mv w w' [g, bd, mb]
set_option maxRecDepth 100000 in
theorem gflush_any {w : World} {gg g bd mb boot wr : Nat} {d : Dsk.St} (h : GuardAt w gg g bd mb boot wr d) (ha : d.acts < 1000000000000) (hfl : d.falls < 1000000000000) :
    Calls Tryz.prog 45 #[.pointer (some ⟨gg, 0, none⟩)] w (GDPost w gg g bd mb boot wr (Dsk.flush d).1 (Dsk.flush d).2) := by
  have HD := Lib.hid (gdisk_any h)
  have HR := Lib.hid (flush_any h.disk ha hfl)
  have HT : Hid (∀ w' d', DiskAt w' g bd mb d' → Mv w w' [g, bd, mb] → GuardAt w' gg g bd mb boot wr d') := Lib.hid (fun w' d' hd hm => h.turn hd hm)
  generalize Dsk.flush d = res at HR ⊢
  unfold DPost at HR
  unfold GDPost
  clear h ha hfl
  go_enter Tryz.func45, Tryz.ntmps45
  go_wp2_with fail
  refine HD.out.mono ?_
  rintro r w1 ⟨rfl, rfl⟩
  go_wp2_with fail
  refine HR.out.mono ?_
  rintro r w2 ⟨rfl, hd, hm⟩
  have HF := Lib.hid (And.intro (HT.out _ _ hd hm) hm)
  clear hd hm
  go_wp2_with fail
  go_ret
  exact ⟨rfl, HF.out.1, HF.out.2⟩
set_option maxRecDepth 100000 in
theorem gerase_any {w : World} {gg g bd mb boot wr : Nat} {d : Dsk.St} (h : GuardAt w gg g bd mb boot wr d) (ha : d.acts < 1000000000000) (hfl : d.falls < 1000000000000) (i : Int) :
    Calls Tryz.prog 46 #[.pointer (some ⟨gg, 0, none⟩), .int .i64 i] w (GDPost w gg g bd mb boot wr (Dsk.write d i Grd.noughts).1 (Dsk.write d i Grd.noughts).2) := by
  have HD := Lib.hid (gdisk_any h)
  have HZ : Hid (∀ W, Calls Tryz.prog 55 #[.string (S [0]), .int .i64 64] W fun e w' => e = .returned (.string (S Grd.noughts)) ∧ Below W.heap.size W w') := Lib.hid (fun W => zrep_any 64 (by decide) W)
  have HR : Hid (∀ W, Below w.heap.size w W → Calls Tryz.prog 52 #[.pointer (some ⟨g, 0, none⟩), .int .i64 i, .string (S Grd.noughts)] W (DPost W g bd mb (Dsk.write d i Grd.noughts).1 (Dsk.write d i Grd.noughts).2)) :=
    Lib.hid (fun W hb => write_any (h.disk.below hb) ha hfl i Grd.noughts (by rw [Grd.noughts_len]; decide))
  have HT : Hid (∀ w' d', DiskAt w' g bd mb d' → Mv w w' [g, bd, mb] → GuardAt w' gg g bd mb boot wr d') := Lib.hid (fun w' d' hd hm => h.turn hd hm)
  generalize Dsk.write d i Grd.noughts = res at HR ⊢
  generalize Grd.noughts = nz at HR HZ
  unfold DPost at HR
  unfold GDPost
  clear h ha hfl
  go_enter Tryz.func46, Tryz.ntmps46
  go_wp2_with fail
  refine HD.out.mono ?_
  rintro r w1 ⟨rfl, rfl⟩
  go_wp2_with fail
  refine (HZ.out _).mono ?_
  rintro r w2 ⟨rfl, hb⟩
  have HB := Lib.hid hb
  clear hb
  go_wp2_with fail
  refine (HR.out _ HB.out).mono ?_
  rintro r w3 ⟨rfl, hd, hm⟩
  have hm := (Mv.of_below HB.out [g, bd, mb]).trans hm
  have HF := Lib.hid (And.intro (HT.out _ _ hd hm) hm)
  clear hd hm
  go_wp2_with fail
  go_ret
  exact ⟨rfl, HF.out.1, HF.out.2⟩
end Go.Proofs.YthadcmbbdggneaaGreatDoor
