/-
  Events whole: opened as cells, loaded from their blocks.
-/
import Derived.Test.YtihhgingdgepcaaEvRefD
import Derived.Test.YtihhgingdgepcaaTake
import Derived.Deep.MidRow
namespace Go.Proofs.Ytihhgingdgepcaa
open Go.RowKit
set_option linter.unusedVariables false

theorem evtOpen (v : Evt) (A : Option Addr) (ca : Nat) (B : Option Addr) (cb : Nat) : ∃ CS : Array Value, v.val A ca B cb = .agg CS ∧ CS.size = 14 ∧ CS.all (·.oneCell') = true := ⟨_, rfl, rfl, by simp [Value.oneCell']⟩
theorem evLoad {ev : Operand → Value} {oi : Oper} {W : World} {g : Nat} {cs : Array Value} (x : Operand) (ho : oi.op = .load 29 x) (hx : ev x = .pointer (some ⟨g, 0, none⟩)) (h : Has W g 29 cs) (hcs : cs.size = 14) :
    (execOp ev oi).run Try.prog W = .ok (.value (.agg cs)) W := by
  have h1 : (loadVar 29 ⟨g, 0, none⟩).run Try.prog W = .ok (.agg cs) W := run_loadVar_row W g 29 29 cs (0, 0) _ h Try.underlying29 rfl (by rw [hcs]; exact evtSize)
  unfold execOp
  simp only [ho, hx, Instr.loadAt, Instr.sureAddr, Sem.run_bind, Sem.run_pure, Result.andThen_ok, h1]
/-- A load of a whole event at the list of a plain region's operations, guarded or not. -/
theorem wpList_evLoad {ops : Array Oper} {rest : List Oper} {o : Oper} {a : Act} {w : World} {Q : Exit → Act → World → Prop} (hw : Region.wanted o (yielded ops a.tmps) = true) (x : Operand) (ho : o.op = .load 29 x)
    (g : Nat) (cs : Array Value) (hx : a.eval x = .pointer (some ⟨g, 0, none⟩)) (hg : Has w g 29 cs) (hcs : cs.size = 14) (h : wpList Try.prog ops Q rest (a.put o.dst (.agg cs)) w) : wpList Try.prog ops Q (o :: rest) a w :=
  wpList_step fun K hK => by
    rw [if_pos hw]
    exact wp_load_row 29 x ho g hx 29 cs (0, 0) _ hg Try.underlying29 rfl (by rw [hcs]; exact evtSize) (hK _ _ h)
end Go.Proofs.Ytihhgingdgepcaa
