/-
  The statements' own fill.
-/
import Derived.Test.YtihhgingdgepcaaMv
import Derived.Test.YtihhgingdgepcaaProg
import Derived.WalkSpells
import Derived.Laws.MakeOwn
namespace Go.Proofs.Ytihhgingdgepcaa
open Go.RowKit
set_option linter.unusedVariables false

def vInt : Value → Int | .int _ q => q | _ => 0
def fillc (c : UInt8) (n k : Nat) : Array Value := (bcells (List.replicate k c ++ List.replicate (n - k) 0)).toArray
theorem fillc_size (c : UInt8) (n k : Nat) (h : k ≤ n) : (fillc c n k).size = n := by simp [fillc, bcells]; omega
theorem fillc_step (c : UInt8) (n k : Nat) (h : k < n) : (fillc c n k).setIfInBounds k (.int .u8 (c.toNat : Int)) = fillc c n (k + 1) := by
  apply Array.ext'
  rw [Array.toList_setIfInBounds]
  show (bcells _).set k _ = bcells _
  unfold bcells
  rw [List.map_append, List.set_append_right _ _ (by simp), List.map_append]
  simp only [List.length_map, List.length_replicate, Nat.sub_self]
  have e : n - k = (n - (k + 1)) + 1 := by omega
  rw [e, List.replicate_succ, List.map_cons, List.set_cons_zero, List.replicate_succ', List.map_append, List.append_assoc]
  rfl
theorem u8Info : ∃ i0 : TypeInfo, Try.prog.info? 5 = some i0 ∧ i0.zero = some (.int .u8 0) ∧ i0.size = 1 ∧ i0.bytes = 1 := by
  have h : (Try.prog.info? 5).map (fun i => (i.zero, i.size, i.bytes)) = some (some (.int .u8 0), 1, 1) := by kernel_rfl
  cases hq : Try.prog.info? 5 with
  | none => rw [hq] at h; cases h
  | some i0 =>
    rw [hq] at h
    injection h with h
    simp only [Prod.mk.injEq] at h
    exact ⟨i0, rfl, h.1, h.2.1, h.2.2⟩
theorem run_make_bytes (c : UInt8) (n : Nat) (hn : n ≤ 1000000) (W : World) : (Instr.makeSlice 66 (.int .i64 (n : Int)) (.int .i64 (n : Int))).run Try.prog W = .ok (.slice (some ⟨W.heap.size, 0, none⟩) n n) (W.alloc (.cells (fillc c n 0) 5)) := by
  obtain ⟨i0, h1, h2, h3, h4⟩ := u8Info
  have h := run_make (P := Try.prog) W 66 5 i0 _ Try.underlying66 h1 h2 .i64 .i64 (n : Int) (n : Int) (by omega) (by omega) (by rw [h4]; omega) (by omega)
  have e : madeCells (Value.int .u8 0).cells (n * i0.size) = fillc c n 0 := by
    apply Array.ext'
    rw [h3, Nat.mul_one]
    show (madeCells #[Value.int .u8 0] n).toList = _
    rw [toList_madeCells_one]
    simp [fillc, bcells]
  rw [Int.toNat_natCast, e] at h
  exact h
def FillPost (w : World) (c : UInt8) (n : Nat) (e : Ending) (w' : World) : Prop := e = .returned (.string (S (List.replicate n c))) ∧ Below w.heap.size w w'
end Go.Proofs.Ytihhgingdgepcaa
