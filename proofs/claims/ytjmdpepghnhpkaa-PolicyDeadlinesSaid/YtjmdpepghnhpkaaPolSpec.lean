/-
  A policy's classes: which may be, when a paper is due.
-/
import Derived.Test.YtjmdpepghnhpkaaDueA
import Derived.Deep.MidRow
namespace Go.Proofs.Ytjmdpepghnhpkaa
open Go.RowKit
set_option linter.unusedVariables false

def Pol.one (n : Int) : Bool := decide (0 ≤ n) && decide (n ≤ 1073741824)
def Pol.right (l : List Int) : Bool := l.all Pol.one
def Pol.dead (l : List Int) (cls born : Int) : Option Int :=
  if 0 ≤ cls ∧ cls ≤ 7 ∧ 0 ≤ born ∧ born ≤ 1099511627776 ∧ l.getD cls.toNat 0 ≠ 0 then some (born + l.getD cls.toNat 0) else none
def polv (l : List Int) : Array Value := (l.map (Value.int .i64)).toArray
theorem polv_size (l : List Int) : (polv l).size = l.length := by simp [polv]
theorem polv_one (l : List Int) : (polv l).all (·.oneCell') = true := by
  unfold polv
  rw [Array.all_eq_true]
  intro i hi
  simp [Value.oneCell']
theorem polv_cell {w : World} {g : Nat} {t : TypeId} {l : List Int} (h : Has w g t (polv l)) {k : Nat} (hk : k < l.length) : w.cell? ⟨g, k, none⟩ = some (.int .i64 l[k]) := by
  rw [h.cell k]
  simp [polv, hk]
theorem Pol.right_get {l : List Int} (h : Pol.right l = true) {k : Nat} (hk : k < l.length) : 0 ≤ l[k] ∧ l[k] ≤ 1073741824 := by
  have := List.all_eq_true.1 h l[k] (List.getElem_mem hk)
  unfold Pol.one at this
  simpa using this
theorem Pol.take_step {l : List Int} {k : Nat} (hk : k < l.length) : (l.take (k + 1)).all Pol.one = ((l.take k).all Pol.one && Pol.one l[k]) := by
  rw [List.take_succ_eq_append_getElem hk, List.all_append]
  simp
theorem polSizeL : (Try.prog.info? 22).map (·.size) = some 8 := by kernel_rfl
theorem polSize : (Try.prog.info? 23).map (·.size) = some 8 := by kernel_rfl
/-- A load of a whole policy at the list of a plain region's operations, guarded or not. -/
theorem wpList_polLoad {ops : Array Oper} {rest : List Oper} {o : Oper} {a : Act} {w : World} {Q : Exit → Act → World → Prop} (hw : Region.wanted o (yielded ops a.tmps) = true) (x : Operand) (ho : o.op = .load 23 x)
    (g : Nat) (cs : Array Value) (hx : a.eval x = .pointer (some ⟨g, 0, none⟩)) (hg : Has w g 23 cs) (hcs : cs.size = 8) (h : wpList Try.prog ops Q rest (a.put o.dst (.agg cs)) w) : wpList Try.prog ops Q (o :: rest) a w :=
  wpList_step fun K hK => by
    rw [if_pos hw]
    exact wp_load_row 23 x ho g hx 23 cs (0, 0) _ hg Try.underlying23 rfl (by rw [hcs]; exact polSize) (hK _ _ h)
theorem wpList_polLoadL {ops : Array Oper} {rest : List Oper} {o : Oper} {a : Act} {w : World} {Q : Exit → Act → World → Prop} (hw : Region.wanted o (yielded ops a.tmps) = true) (x : Operand) (ho : o.op = .load 22 x)
    (g : Nat) (cs : Array Value) (hx : a.eval x = .pointer (some ⟨g, 0, none⟩)) (hg : Has w g 22 cs) (hcs : cs.size = 8) (h : wpList Try.prog ops Q rest (a.put o.dst (.agg cs)) w) : wpList Try.prog ops Q (o :: rest) a w :=
  wpList_step fun K hK => by
    rw [if_pos hw]
    exact wp_load_row 22 x ho g hx 22 cs (0, 0) _ hg Try.underlying22 rfl (by rw [hcs]; exact polSizeL) (hK _ _ h)
/-- What Deadline returns. -/
def deadR : Option Int → Value
  | some n => .tuple #[.int .i64 n, .bool true]
  | none => .tuple #[.int .i64 0, .bool false]
end Go.Proofs.Ytjmdpepghnhpkaa
