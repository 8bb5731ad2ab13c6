/-
  The contracts of mill's New, hash, record, Sum, Twins, Full, Sums.
-/
import Derived.Test.YtgjknfphmmlcdaaDoorMillMem
namespace Go.Proofs.YtgjknfphmmlcdaaDoor
open Go.RowKit
set_option linter.unusedVariables false

theorem S_beq (a b : List UInt8) : (S a == S b) = decide (a = b) := by
  have h : ∀ x y : ByteArray, (x == y) = (x.data == y.data) := fun x y => by cases x; cases y; rfl
  rw [h]
  by_cases e : a = b
  · subst e; simp [S]
  · simp [S, e]
theorem S_eq {a b : List UInt8} (h : a = b) : (S a == S b) = true := by rw [S_beq]; simpa using h
theorem S_ne {a b : List UInt8} (h : a ≠ b) : (S a == S b) = false := by rw [S_beq]; simpa using h

theorem zeroMill (W : World) : (zeroValue 70).run Tryd.prog W = .ok (.agg #[.map none, .bool false, .map none, .string (S []), .string (S []), .bool false, .bool false, .int .i64 0, .bool false]) W := by kernel_rfl

/-! A mill that nobody made. -/
theorem works_nil (w : World) : Calls Tryd.prog 41 #[.pointer none] w fun e w' => e = .returned (.bool false) ∧ w = w' := by
  go_enter Tryd.func41, Tryd.ntmps41
  go_wp2_with fail
  go_ret
  exact ⟨rfl, rfl⟩
theorem works_is (g : Nat) (b : Bool) (w : World) (h : w.cell? ⟨g, 8, none⟩ = some (.bool b)) : Calls Tryd.prog 41 #[.pointer (some ⟨g, 0, none⟩)] w fun e w' => e = .returned (.bool b) ∧ w = w' := by
  go_enter Tryd.func41, Tryd.ntmps41
  go_wp2_with fail
  go_ret
  exact ⟨rfl, rfl⟩

set_option maxHeartbeats 1000000 in
theorem newMill_any (w : World) : Calls Tryd.prog 8 #[] w fun e w' => e = .returned (.pointer (some ⟨w.heap.size + 1, 0, none⟩)) ∧ MillAt w' (w.heap.size + 1) w.heap.size [] Mill.fresh ∧ Below w.heap.size w w' ∧ w'.heap.size = w.heap.size + 2 ∧ Has w' (w.heap.size + 1) 70 (millCells none w.heap.size [] Mill.fresh) := by
  have hmm := @run_makeMap Tryd.prog
  have hz := zeroMill
  go_enter Tryd.func8, Tryd.ntmps8
  go_wp2_with fail
  go_ret
  have hH := Has.made (w.alloc (.map #[] 0)) 70 (millCells none w.heap.size [] Mill.fresh)
  have hs : (w.alloc (.map #[] 0)).heap.size = w.heap.size + 1 := by simp
  rw [hs] at hH
  refine ⟨rfl, ⟨none, hH, rfl, (Noted.made w).keep (Below.heap_alloc _ _ _ (by rw [hs]; omega)), by omega, (fun b hb => by cases hb), (show 0 < maxLen by decide)⟩, ?_, ?_, hH⟩
  · exact ((Below.refl _ _).alloc (Nat.le_refl _) _).alloc (by rw [hs]; omega) _
  · simp

theorem zeroIn (W : World) : (zeroValue 102).run Tryd.prog W = .ok (.agg #[.bool false, .string (S []), .string (S [])]) W := by kernel_rfl

set_option maxRecDepth 100000 in
set_option maxHeartbeats 2000000 in
theorem hash_any (s : List UInt8) (g nb : Nat) (l : List Mill.En) (st : Mill.St) (w : World) (h : MillAt w g nb l st) (hs : s.length ≤ 5000000000000000) (hT : Tabs w) :
    Calls Tryd.prog 45 #[.pointer (some ⟨g, 0, none⟩), .string (S s)] w (TextPost w (Mill.hash l s)) := by
  obtain ⟨tv, hc, ha, _⟩ := h
  have c0 : w.cell? ⟨g, 0, none⟩ = some (.map tv) := hc.cell 0
  have hk : (Instr.lookup 65 (.map tv) (.agg #[.bool false, .string (S []), .string (S s)]) true).run Tryd.prog w = _ := ha.look (false, [], s) (Nat.zero_le _) (Nat.le_trans hs (by decide))
  have hz := zeroIn
  have hz2 := zeroOut
  have hsum := fun W (hTW : Tabs W) => sum_any s W hs hTW
  clear hc ha
  have HT := Lib.hid hT; clear hT
  unfold Mill.hash
  cases hm : Mill.ask l (false, [], s) with
  | some o =>
    rw [hm] at hk
    simp only [Option.getD_some, Option.isSome_some] at hk ⊢
    clear hm hsum
    go_enter Tryd.func45, Tryd.ntmps45
    go_wp2_with fail
    go_ret
    exact ⟨rfl, (Below.refl _ _).alloc (Nat.le_refl _) _⟩
  | none =>
    rw [hm] at hk
    simp only [Option.getD_none, Option.isSome_none] at hk ⊢
    clear hm
    generalize Sha.sum s = x at hsum ⊢
    have HS := Lib.hid hsum; clear hsum
    go_enter Tryd.func45, Tryd.ntmps45
    go_wp2_with fail
    generalize hW : World.alloc w _ = W
    have hb : Below w.heap.size w W := by rw [← hW]; exact (Below.refl _ _).alloc (Nat.le_refl _) _
    clear hW
    refine (HS.out W (HT.out.below hb HT.out.2.2)).mono ?_
    rintro r1 w1 ⟨rfl, hb1⟩
    go_wp2_with fail
    go_ret
    exact ⟨rfl, hb.trans (hb1.mono hb.size)⟩
end Go.Proofs.YtgjknfphmmlcdaaDoor
