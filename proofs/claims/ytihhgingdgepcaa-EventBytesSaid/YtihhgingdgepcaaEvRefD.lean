/-
  The reference's Clean of the fourteenth layer; events that are handed back.
-/
import Derived.Test.YtihhgingdgepcaaEvRefC
namespace Go.Proofs.Ytihhgingdgepcaa
open Go.RowKit
set_option linter.unusedVariables false

theorem evtSize : (Try.prog.info? 29).map (·.size) = some 14 := by kernel_rfl
theorem entSize : (Try.prog.info? 25).map (·.size) = some 7 := by kernel_rfl
theorem ret_evt {fn : Func} {p : Tmp} {R : Ending → World → Prop} {a : Act} {w : World} (h : fn.results = #[.cell p 29]) (g : Nat) (cs : Array Value)
    (hp : a.tmps.getD p undef = .pointer (some ⟨g, 0, none⟩)) (hd : a.defers = []) (hh : Has w g 29 cs) (hcs : cs.size = 14) (hR : R (.returned (.agg cs)) w) : bodyPost Try.prog fn R .ret a w :=
  bodyPost_ret (v := .agg cs) (results_cell_row h _ _ g 29 cs (0, 0) _ hp hh Try.underlying29 rfl (by rw [hcs]; exact evtSize)) hd hR
theorem ret_ent {fn : Func} {p : Tmp} {R : Ending → World → Prop} {a : Act} {w : World} (h : fn.results = #[.cell p 25]) (g : Nat) (cs : Array Value)
    (hp : a.tmps.getD p undef = .pointer (some ⟨g, 0, none⟩)) (hd : a.defers = []) (hh : Has w g 25 cs) (hcs : cs.size = 7) (hR : R (.returned (.agg cs)) w) : bodyPost Try.prog fn R .ret a w :=
  bodyPost_ret (v := .agg cs) (results_cell_row h _ _ g 25 cs (0, 0) _ hp hh Try.underlying25 rfl (by rw [hcs]; exact entSize)) hd hR
/-- An event that is handed back. -/
def EvtPost (w : World) (x : Evt) (e : Ending) (w' : World) : Prop := ∃ (A B : Option Addr) (ca cb : Nat), e = .returned (x.val A ca B cb) ∧ EntIn w' [] x.ent A ca B cb ∧ Below w.heap.size w w'
theorem EntIn.zero (w : World) : EntIn w [] Ent.zero none 0 none 0 := ⟨RowC.nil _ _ _, RowC.nil _ _ _, Nat.le_refl _, Nat.zero_le _, Nat.le_refl _, Nat.zero_le _⟩
theorem evtNew (w : World) (o : Obj) (cs : Array Value) : Has ((w.alloc o).alloc (.cells cs 29)) (w.heap.size + 1) 29 cs := by
  have h := Has.made (w.alloc o) 29 cs
  rw [asize] at h
  exact h
theorem evtUp (w : World) (o p : Obj) : Below w.heap.size w ((w.alloc o).alloc p) := ((Below.refl _ w).alloc (Nat.le_refl _) o).alloc (by rw [asize]; omega) p
set_option maxRecDepth 100000 in
set_option maxHeartbeats 16000000 in
theorem ecleanV_any {w : World} {v : Evt} {A B : Option Addr} {ca cb : Nat} (hin : EntIn w [] v.ent A ca B cb) :
    Calls Try.prog 14 #[v.val A ca B cb] w (EvtPost w (Ev.clean v)) := by
  unfold Evt.val
  have k1 := Lib.hid (fun h => Ev.clean1 (v := v) h)
  have k2 := Lib.hid (fun h => Ev.clean2 (v := v) h)
  have k3 := Lib.hid (fun h => Ev.clean3 (v := v) h)
  have k4 := Lib.hid (fun h => Ev.clean4 (v := v) h)
  have k6 := Lib.hid (fun h => Ev.clean6 (v := v) h)
  have k7 := Lib.hid (fun h => Ev.clean7 (v := v) h)
  have k0 := Lib.hid (fun h => Ev.clean0 (v := v) h)
  have HIN := Lib.hid hin
  clear hin
  obtain ⟨kind, ⟨id, cls, born, slot, L, gone, H⟩, seq, idx, name, size, root, now⟩ := v
  dsimp only at *
  generalize hRR : Ev.clean ⟨kind, ⟨id, cls, born, slot, L, gone, H⟩, seq, idx, name, size, root, now⟩ = RR at *
  clear hRR
  by_cases c1 : kind = 1
  · have hr := Lib.hid (k1.out c1)
    subst c1
    clear k1 k2 k3 k4 k6 k7 k0 
    go_enter Try.func14, Try.ntmps14
    go_wp2_with fail
    refine ret_evt (p := 2) rfl (w.heap.size + 1) _ rfl rfl (evtNew _ _ _) rfl ?_
    rw [hr.out]
    exact ⟨A, B, ca, cb, rfl, HIN.out.below (evtUp _ _ _), evtUp _ _ _⟩
  have c1' : (kind == 1) = false := by rw [beq_eq_false_iff_ne]; exact c1
  by_cases c2 : kind = 2
  · have hr := Lib.hid (k2.out c2)
    subst c2
    clear k1 k2 k3 k4 k6 k7 k0  c1
    go_enter Try.func14, Try.ntmps14
    go_wp2_with fail
    refine ret_evt (p := 2) rfl (w.heap.size + 1) _ rfl rfl (evtNew _ _ _) rfl ?_
    rw [hr.out]
    exact ⟨none, none, 0, 0, rfl, EntIn.zero _, evtUp _ _ _⟩
  have c2' : (kind == 2) = false := by rw [beq_eq_false_iff_ne]; exact c2
  by_cases c3 : kind = 3
  · have hr := Lib.hid (k3.out c3)
    subst c3
    clear k1 k2 k3 k4 k6 k7 k0  c1 c2
    go_enter Try.func14, Try.ntmps14
    go_wp2_with fail
    refine ret_evt (p := 2) rfl (w.heap.size + 1) _ rfl rfl (evtNew _ _ _) rfl ?_
    rw [hr.out]
    exact ⟨none, none, 0, 0, rfl, EntIn.zero _, evtUp _ _ _⟩
  have c3' : (kind == 3) = false := by rw [beq_eq_false_iff_ne]; exact c3
  by_cases c4 : kind = 4 ∨ kind = 5
  · have hr := Lib.hid (k4.out c4)
    clear k1 k2 k3 k4 k6 k7 k0  c1 c2 c3
    rcases c4 with rfl | rfl
    all_goals
      go_enter Try.func14, Try.ntmps14
      go_wp2_with fail
      refine ret_evt (p := 2) rfl (w.heap.size + 1) _ rfl rfl (evtNew _ _ _) rfl ?_
      rw [hr.out]
      exact ⟨none, none, 0, 0, rfl, EntIn.zero _, evtUp _ _ _⟩
  have c4' : (kind == 4) = false := by rw [beq_eq_false_iff_ne]; exact fun e => c4 (Or.inl e)
  have c5' : (kind == 5) = false := by rw [beq_eq_false_iff_ne]; exact fun e => c4 (Or.inr e)
  by_cases c6 : kind = 6
  · have hr := Lib.hid (k6.out c6)
    subst c6
    clear k1 k2 k3 k4 k6 k7 k0  c1 c2 c3 c4
    go_enter Try.func14, Try.ntmps14
    go_wp2_with fail
    refine ret_evt (p := 2) rfl (w.heap.size + 1) _ rfl rfl (evtNew _ _ _) rfl ?_
    rw [hr.out]
    exact ⟨none, none, 0, 0, rfl, EntIn.zero _, evtUp _ _ _⟩
  have c6' : (kind == 6) = false := by rw [beq_eq_false_iff_ne]; exact c6
  by_cases c7 : kind = 7
  · have hr := Lib.hid (k7.out c7)
    subst c7
    clear k1 k2 k3 k4 k6 k7 k0  c1 c2 c3 c4 c6
    go_enter Try.func14, Try.ntmps14
    go_wp2_with fail
    refine ret_evt (p := 2) rfl (w.heap.size + 1) _ rfl rfl (evtNew _ _ _) rfl ?_
    rw [hr.out]
    exact ⟨none, none, 0, 0, rfl, EntIn.zero _, evtUp _ _ _⟩
  have c7' : (kind == 7) = false := by rw [beq_eq_false_iff_ne]; exact c7
  have hr := Lib.hid (k0.out (by omega))
  clear k1 k2 k3 k4 k6 k7 k0 c1 c2 c3 c4 c6 c7
  go_enter Try.func14, Try.ntmps14
  go_wp2_with fail
  refine ret_evt (p := 2) rfl (w.heap.size + 1) _ rfl rfl (evtNew _ _ _) rfl ?_
  rw [hr.out]
  exact ⟨none, none, 0, 0, rfl, EntIn.zero _, evtUp _ _ _⟩
end Go.Proofs.Ytihhgingdgepcaa
