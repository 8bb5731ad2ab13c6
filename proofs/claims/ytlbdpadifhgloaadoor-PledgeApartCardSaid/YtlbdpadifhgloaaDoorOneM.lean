/-
  One new mill.
-/
import Derived.Test.YtlbdpadifhgloaaDoorTwoM
namespace Go.Proofs.YtlbdpadifhgloaaDoor
open Go.RowKit
set_option linter.unusedVariables false

/-- A mill that was made behind w0. -/
structure OneM (w0 W : World) (st : Mill.St) : Prop where
  m : MillTv W (w0.heap.size + 1) w0.heap.size none [] st
  t : Tabs W
  b : Below w0.heap.size w0 W
  two : 2 ≤ w0.heap.size
  sz : w0.heap.size + 2 ≤ W.heap.size
theorem OneM.made {w w1 : World} (hT : Tabs w) (h1 : MillTv w1 (w.heap.size + 1) w.heap.size none [] Mill.fresh) (hb1 : Below w.heap.size w w1) (hs1 : w1.heap.size = w.heap.size + 2) : OneM w w1 Mill.fresh :=
  ⟨h1, hT.below hb1 hT.2.2, hb1, hT.2.2, by omega⟩
theorem OneM.below {w0 W W' : World} {st : Mill.St} (h : OneM w0 W st) (hb : Below W.heap.size W W') : OneM w0 W' st :=
  ⟨h.m.below hb, h.t.below hb h.t.2.2, h.b.trans (hb.mono h.b.size), h.two, Nat.le_trans h.sz hb.size⟩
theorem OneM.step {w0 W W' : World} {st st' : Mill.St} (h : OneM w0 W st) (hm : MillTv W' (w0.heap.size + 1) w0.heap.size none [] st') (hv : Mv W W' [w0.heap.size + 1, w0.heap.size]) : OneM w0 W' st' := by
  have h2 := h.two
  exact ⟨hm, hv.tabs2 h.t (by omega) (by omega), slip_tied hv (by omega) (by omega) h.b.size h.b, h2, Nat.le_trans h.sz hv.size⟩
theorem OneM.drew {w0 W : World} {st : Mill.St} (h : OneM w0 W st) : OneM w0 W.drew st := ⟨h.m, h.t, h.b.drew, h.two, h.sz⟩
theorem OneM.two1 {w0 W : World} {st : Mill.St} (h : OneM w0 W st) : 2 ≤ w0.heap.size + 1 := by have := h.two; omega
theorem OneM.awake {w0 W : World} {st : Mill.St} (h : OneM w0 W st) : Calls Tryd.prog 18 #[] W fun e w' => e = .returned (.bool true) ∧ Below W.heap.size W w' := awakePlg_any W h.t
/-- Another block that turns alone. -/
theorem OneM.only {w0 W W' : World} {st : Mill.St} {g : Nat} (h : OneM w0 W st) (ho : Only W W' g) (hg : w0.heap.size + 2 ≤ g) : OneM w0 W' st := by
  have hv := Mv.of_only ho (s := [g]) (by simp)
  refine ⟨h.m.mv hv ?_ ?_ (fun b hb => by cases hb), hv.tabs h.t (fun x hx => ?_), hv.below h.b h.b.size (fun x hx => ?_), h.two, Nat.le_trans h.sz ho.size⟩
  · simp only [List.mem_cons, List.not_mem_nil, or_false]; omega
  · simp only [List.mem_cons, List.not_mem_nil, or_false]; omega
  · simp only [List.mem_cons, List.not_mem_nil, or_false] at hx; omega
  · simp only [List.mem_cons, List.not_mem_nil, or_false] at hx; omega
/-- A block beside the mill stays. -/
theorem OneM.beside {w0 W W' : World} {st : Mill.St} {t : TypeId} {cs : Array Value} {g : Nat} (h : OneM w0 W st) (hv : Mv W W' [w0.heap.size + 1, w0.heap.size]) (hg : w0.heap.size + 2 ≤ g) (hh : Has W g t cs) : Has W' g t cs :=
  hv.has hh (by simp only [List.mem_cons, List.not_mem_nil, or_false]; omega)
theorem sfields : Tryd.prog.underlying 38 = some (.struct (Tryd.prog.fieldsOf 38)) := by kernel_rfl
theorem sstood : Tryd.prog.stoodInHeld 38 = false := by kernel_rfl
theorem sguard : Tryd.prog.eqGuardType Tryd.prog.depth 38 = false := by kernel_rfl
/-- Two slips are one just where their fields are. -/
theorem run_sleq (n p c n' p' c' : List UInt8) (e e' : Bool) (W : World) : (binOp .eql 38 (.agg #[.string (S n), .string (S p), .string (S c), .bool e]) (.agg #[.string (S n'), .string (S p'), .string (S c'), .bool e'])).run Tryd.prog W = .ok (.bool (decide (n = n' ∧ p = p' ∧ c = c' ∧ e = e'))) W := by
  rw [run_eql_struct, run_equalIn_agg W 9999 _ _ _ sfields sstood]
  simp [go_sem, Tryd.underlying38, Tryd.underlying4, Tryd.underlying9]
  by_cases e1 : n = n' <;> by_cases e2 : p = p' <;> by_cases e3 : c = c' <;> by_cases e4 : e = e' <;> simp [e1, e2, e3, e4]
theorem run_slsame (n p c : List UInt8) (e : Bool) (W : World) : (binOp .eql 38 (.agg #[.string (S n), .string (S p), .string (S c), .bool e]) (.agg #[.string (S n), .string (S p), .string (S c), .bool e])).run Tryd.prog W = .ok (.bool true) W := by
  rw [run_sleq]; simp
theorem run_slguard (op : BinOp) (o1 o2 : Operand) (x y : Array Value) (W : World) : (eqGuard op 38 o1 o2 (.agg x) (.agg y)).run Tryd.prog W = .ok () W := run_eqGuard_agg W op _ o1 o2 _ _ sguard
end Go.Proofs.YtlbdpadifhgloaaDoor
