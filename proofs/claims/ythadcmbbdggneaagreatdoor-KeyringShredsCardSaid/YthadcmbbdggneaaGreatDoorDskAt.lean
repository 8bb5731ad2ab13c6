/-
  A disk in memory, whole; the calls that only look.
-/
import Derived.Test.YthadcmbbdggneaaGreatDoorDskMem
import Derived.WalkSpells
namespace Go.Proofs.YthadcmbbdggneaaGreatDoor
open Go.RowKit
set_option linter.unusedVariables false

def Fok (f : Dsk.Fall) : Prop := f.keep < 18446744073709551616 ∧ -9223372036854775808 ≤ f.tear ∧ f.tear ≤ 9223372036854775807
def ArmOk (a : Option (Nat × Dsk.Fall)) (l0 k0 t0 : Int) : Prop := ∀ n f, a = some (n, f) → l0 = (n : Int) ∧ k0 = (f.keep : Int) ∧ t0 = f.tear ∧ n ≤ 9223372036854775807 ∧ Fok f
def dskCells (bd mb n : Nat) (up : Bool) (acts falls : Nat) (l0 k0 t0 : Int) (arm : Bool) : Array Value :=
  #[.slice (some ⟨bd, 0, none⟩) n n, .map (some mb), .bool up, .int .i64 (acts : Int), .int .i64 (falls : Int), .int .i64 l0, .int .u64 k0, .int .i64 t0, .bool arm]
/-- Block g is the document's disk d; its sectors lie in block bd, what waits in the map of block mb. -/
structure DiskAt (w : World) (g bd mb : Nat) (d : Dsk.St) : Prop where
  cells : ∃ l0 k0 t0, Has w g 77 (dskCells bd mb d.secs.length d.up d.acts d.falls l0 k0 t0 d.arm.isSome) ∧ ArmOk d.arm l0 k0 t0
  rows : Rows w bd d.secs
  pend : Pend w mb 8192 (Dsk.pendI d.secs)
  good : Dsk.Good d
  n1 : g ≠ bd
  n2 : g ≠ mb
  n3 : bd ≠ mb
  pos : 0 < d.secs.length
  most : d.secs.length ≤ 8192
theorem DiskAt.lt {w : World} {g bd mb : Nat} {d : Dsk.St} (h : DiskAt w g bd mb d) : g < w.heap.size ∧ bd < w.heap.size ∧ mb < w.heap.size := by
  obtain ⟨l0, k0, t0, h1, _⟩ := h.cells
  exact ⟨h1.lt, h.rows.lt, h.pend.lt⟩
theorem DiskAt.keep {w w' : World} {g bd mb : Nat} {d : Dsk.St} (h : DiskAt w g bd mb d) (h1 : w'.heap[g]? = w.heap[g]?) (h2 : w'.heap[bd]? = w.heap[bd]?) (h3 : w'.heap[mb]? = w.heap[mb]?) : DiskAt w' g bd mb d := by
  obtain ⟨l0, k0, t0, hc, ha⟩ := h.cells
  exact ⟨⟨l0, k0, t0, h1.trans hc, ha⟩, h.rows.keep h2, h.pend.keep h3, h.good, h.n1, h.n2, h.n3, h.pos, h.most⟩
theorem DiskAt.mv {w w' : World} {g bd mb : Nat} {d : Dsk.St} {s : List Nat} (h : DiskAt w g bd mb d) (hm : Mv w w' s) (h1 : g ∉ s) (h2 : bd ∉ s) (h3 : mb ∉ s) : DiskAt w' g bd mb d := by
  obtain ⟨l1, l2, l3⟩ := h.lt
  exact h.keep (hm.block _ l1 h1) (hm.block _ l2 h2) (hm.block _ l3 h3)
theorem DiskAt.below {w w' : World} {g bd mb : Nat} {d : Dsk.St} (h : DiskAt w g bd mb d) (hb : Below w.heap.size w w') : DiskAt w' g bd mb d := by
  obtain ⟨l1, l2, l3⟩ := h.lt
  exact h.keep (hb.block _ l1) (hb.block _ l2) (hb.block _ l3)

/-- What lies in a disk's own cells. -/
abbrev Cells9 (w : World) (g bd mb n : Nat) (up : Bool) (acts falls : Nat) (l0 k0 t0 : Int) (arm : Bool) : Prop :=
  w.cell? ⟨g, 0, none⟩ = some (.slice (some ⟨bd, 0, none⟩) n n) ∧ w.cell? ⟨g, 1, none⟩ = some (.map (some mb)) ∧ w.cell? ⟨g, 2, none⟩ = some (.bool up) ∧ w.cell? ⟨g, 3, none⟩ = some (.int .i64 (acts : Int)) ∧
  w.cell? ⟨g, 4, none⟩ = some (.int .i64 (falls : Int)) ∧ w.cell? ⟨g, 5, none⟩ = some (.int .i64 l0) ∧ w.cell? ⟨g, 6, none⟩ = some (.int .u64 k0) ∧ w.cell? ⟨g, 7, none⟩ = some (.int .i64 t0) ∧ w.cell? ⟨g, 8, none⟩ = some (.bool arm)
theorem cells9 {w : World} {g bd mb n : Nat} {up : Bool} {acts falls : Nat} {l0 k0 t0 : Int} {arm : Bool} (h : Has w g 77 (dskCells bd mb n up acts falls l0 k0 t0 arm)) : Cells9 w g bd mb n up acts falls l0 k0 t0 arm :=
  ⟨h.cell 0, h.cell 1, h.cell 2, h.cell 3, h.cell 4, h.cell 5, h.cell 6, h.cell 7, h.cell 8⟩

theorem run_made (bd n : Nat) (W : World) : (binOp .neq 72 (.slice (some ⟨bd, 0, none⟩) n n) (.slice none 0 0)).run Tryz.prog W = .ok (.bool true) W :=
  run_neq_slice_nil_any W _ _ _ _ _ _ _ Tryz.underlying72
theorem works_any {w : World} {g bd mb : Nat} {d : Dsk.St} (h : DiskAt w g bd mb d) :
    Calls Tryz.prog 34 #[.pointer (some ⟨g, 0, none⟩)] w fun r w' => r = .returned (.bool true) ∧ w = w' := by
  obtain ⟨l0, k0, t0, hc, _⟩ := h.cells
  obtain ⟨c0, _⟩ := cells9 hc
  generalize d.secs.length = n at c0
  have hne := fun W => run_made bd n W
  go_enter Tryz.func34, Tryz.ntmps34
  go_wp2_with fail
  go_ret
  exact ⟨rfl, rfl⟩
theorem powered_any {w : World} {g bd mb : Nat} {d : Dsk.St} (h : DiskAt w g bd mb d) :
    Calls Tryz.prog 35 #[.pointer (some ⟨g, 0, none⟩)] w fun r w' => r = .returned (.int .i64 (if d.up = true then 0 else 8)) ∧ w = w' := by
  have hw := works_any h
  obtain ⟨l0, k0, t0, hc, _⟩ := h.cells
  obtain ⟨_, _, c2, _⟩ := cells9 hc
  generalize d.up = up at c2 ⊢
  clear hc h
  have HW := Lib.hid hw; clear hw
  cases up
  · go_enter Tryz.func35, Tryz.ntmps35
    go_wp2_with fail
    refine HW.out.mono ?_
    rintro r w1 ⟨rfl, rfl⟩
    go_wp2_with fail
    go_ret
    exact ⟨rfl, rfl⟩
  · go_enter Tryz.func35, Tryz.ntmps35
    go_wp2_with fail
    refine HW.out.mono ?_
    rintro r w1 ⟨rfl, rfl⟩
    go_wp2_with fail
    go_ret
    exact ⟨rfl, rfl⟩
/-- Is there a sector i? -/
def inB (i : Int) (n : Nat) : Bool := decide (0 ≤ i) && decide (i < (n : Int))
theorem inB_true {i : Int} {n : Nat} : inB i n = true ↔ 0 ≤ i ∧ i < (n : Int) := by unfold inB; simp
theorem has_any {w : World} {g bd mb : Nat} {d : Dsk.St} (h : DiskAt w g bd mb d) (i : Int) :
    Calls Tryz.prog 85 #[.pointer (some ⟨g, 0, none⟩), .int .i64 i] w fun r w' => r = .returned (.bool (inB i d.secs.length)) ∧ w = w' := by
  have hw := works_any h
  obtain ⟨l0, k0, t0, hc, _⟩ := h.cells
  obtain ⟨c0, _⟩ := cells9 hc
  have hR : inB i d.secs.length = (decide (0 ≤ i) && decide (i < (d.secs.length : Int))) := rfl
  generalize inB i d.secs.length = rr at hR ⊢
  generalize d.secs.length = n at c0 hR
  clear hc h
  have HW := Lib.hid hw; clear hw
  have HR := Lib.hid hR; clear hR
  go_enter Tryz.func85, Tryz.ntmps85
  go_wp2_with fail
  refine HW.out.mono ?_
  rintro r w1 ⟨rfl, rfl⟩
  go_wp2_with fail
  all_goals go_ret
  all_goals refine ⟨ret_bool ?_, rfl⟩
  all_goals rw [HR.out]
  all_goals first
    | (rw [Bool.eq_iff_iff, Bool.and_eq_true, decide_eq_true_iff, decide_eq_true_iff]; omega)
    | (symm; rw [Bool.and_eq_true, decide_eq_true_iff, decide_eq_true_iff]; omega)
    | (symm; rw [Bool.eq_false_iff, ne_eq, Bool.and_eq_true, decide_eq_true_iff, decide_eq_true_iff]; omega)
theorem access_any {w : World} {g bd mb : Nat} {d : Dsk.St} (h : DiskAt w g bd mb d) (i : Int) :
    Calls Tryz.prog 61 #[.pointer (some ⟨g, 0, none⟩), .int .i64 i] w fun r w' => r = .returned (.int .i64 (if d.up = true then (if inB i d.secs.length = true then 0 else 5) else 8)) ∧ w = w' := by
  have hw := powered_any h
  have hh := has_any h i
  generalize d.up = up at hw ⊢
  generalize inB i d.secs.length = rr at hh ⊢
  clear h
  have HH := Lib.hid hh; clear hh
  have HW := Lib.hid hw; clear hw
  cases up
  · go_enter Tryz.func61, Tryz.ntmps61
    go_wp2_with fail
    refine HW.out.mono ?_
    rintro r w1 ⟨rfl, rfl⟩
    go_wp2_with fail
    go_ret
    exact ⟨rfl, rfl⟩
  · cases rr
    · go_enter Tryz.func61, Tryz.ntmps61
      go_wp2_with fail
      refine HW.out.mono ?_
      rintro r w1 ⟨rfl, rfl⟩
      go_wp2_with fail
      refine HH.out.mono ?_
      rintro r w1 ⟨rfl, rfl⟩
      go_wp2_with fail
      go_ret
      exact ⟨rfl, rfl⟩
    · go_enter Tryz.func61, Tryz.ntmps61
      go_wp2_with fail
      refine HW.out.mono ?_
      rintro r w1 ⟨rfl, rfl⟩
      go_wp2_with fail
      refine HH.out.mono ?_
      rintro r w1 ⟨rfl, rfl⟩
      go_wp2_with fail
      go_ret
      exact ⟨rfl, rfl⟩
end Go.Proofs.YthadcmbbdggneaaGreatDoor
