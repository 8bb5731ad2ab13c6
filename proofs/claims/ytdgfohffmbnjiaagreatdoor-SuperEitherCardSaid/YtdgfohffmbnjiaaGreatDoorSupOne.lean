/-
  SupOne: the texts SupA, SupR, SupB in one.
-/
import Derived.Test.YtdgfohffmbnjiaaGreatDoorRdPures
import Derived.Test.YtdgfohffmbnjiaaGreatDoorMemOne
import Derived.Test.YtdgfohffmbnjiaaGreatDoorTake
import Derived.LoopN
import Derived.Test.YtdgfohffmbnjiaaGreatDoorNum
import Derived.Test.YtdgfohffmbnjiaaGreatDoorProg
import Derived.Deep.QuietTactic
import Derived.BigQuiet
import Derived.Test.YtdgfohffmbnjiaaGreatDoorWriteOne
namespace Go.Proofs.YtdgfohffmbnjiaaGreatDoor
open Go.RowKit
set_option linter.unusedVariables false

namespace Sup
def cells (s : Sup) : Array Value := #[.int .i64 s.gen, .int .i64 s.boot, .int .i64 s.side, .int .i64 s.seed]
def v (s : Sup) : Value := .agg s.cells
theorem v_eq (g b i e : Int) : v ⟨g, b, i, e⟩ = .agg #[.int .i64 g, .int .i64 b, .int .i64 i, .int .i64 e] := rfl
end Sup
theorem supSize : (Tryz.prog.info? 23).map (·.size) = some 4 := by kernel_rfl
theorem ret_sup {fn : Func} {p : Tmp} {R : Ending → World → Prop} {a : Act} {w : World} (h : fn.results = #[.cell p 23]) (g : Nat) (cs : Array Value)
    (hp : a.tmps.getD p undef = .pointer (some ⟨g, 0, none⟩)) (hd : a.defers = []) (hh : Has w g 23 cs) (hcs : cs.size = 4) (hR : R (.returned (.agg cs)) w) : bodyPost Tryz.prog fn R .ret a w :=
  bodyPost_ret (v := .agg cs) (results_cell_row h _ _ g 23 cs (0, 0) _ hp hh Tryz.underlying23 rfl (by rw [hcs]; exact supSize)) hd hR
/-- A superblock that lies in a block, loaded whole. -/
theorem supWhole {W : World} {g : Nat} {cs : Array Value} (h : Has W g 23 cs) (hcs : cs.size = 4) : (loadVar 23 ⟨g, 0, none⟩).run Tryz.prog W = .ok (.agg cs) W :=
  run_loadVar_row W g 23 23 cs (0, 0) _ h Tryz.underlying23 rfl (by rw [hcs]; exact supSize)
theorem supFields : Tryz.prog.underlying 23 = some (.struct (Tryz.prog.fieldsOf 23)) := by kernel_rfl
theorem supStood : Tryz.prog.stoodInHeld 23 = false := by kernel_rfl
theorem supGuard : Tryz.prog.eqGuardType Tryz.prog.depth 23 = false := by kernel_rfl
/-- Two superblocks are one just where their numbers are. -/
theorem run_supEq (x y : Sup) (W : World) : (binOp .eql 23 x.v y.v).run Tryz.prog W = .ok (.bool (decide (x = y))) W := by
  obtain ⟨k, f, i, b⟩ := x
  obtain ⟨k', f', i', b'⟩ := y
  rw [Sup.v_eq, Sup.v_eq, run_eql_struct, run_equalIn_agg W 9999 _ _ _ supFields supStood]
  simp [go_sem, Tryz.underlying23, Tryz.underlying3]
  by_cases e1 : k = k' <;> by_cases e2 : f = f' <;> by_cases e3 : i = i' <;> by_cases e4 : b = b' <;> simp [e1, e2, e3, e4]
theorem run_supGuard (op : BinOp) (o1 o2 : Operand) (x y : Sup) (W : World) : (eqGuard op 23 o1 o2 x.v y.v).run Tryz.prog W = .ok () W := run_eqGuard_agg W op _ o1 o2 _ _ supGuard
theorem numsSize : (Tryz.prog.info? 60).map (·.size) = some 4 := by kernel_rfl
theorem ret_nums {fn : Func} {p : Tmp} {R : Ending → World → Prop} {a : Act} {w : World} (h : fn.results = #[.cell p 60]) (g : Nat) (cs : Array Value)
    (hp : a.tmps.getD p undef = .pointer (some ⟨g, 0, none⟩)) (hd : a.defers = []) (hh : Has w g 60 cs) (hcs : cs.size = 4) (hR : R (.returned (.agg cs)) w) : bodyPost Tryz.prog fn R .ret a w :=
  bodyPost_ret (v := .agg cs) (results_cell_row h _ _ g 60 cs (0, 0) _ hp hh Tryz.underlying60 rfl (by rw [hcs]; exact numsSize)) hd hR

theorem supUp {w : World} (A B : Obj) : Below w.heap.size w ((w.alloc A).alloc B) := ((Below.refl _ w).alloc (Nat.le_refl _) A).alloc (by simp) B
theorem supNew (w : World) (A : Obj) (t : TypeId) (cs : Array Value) : Has ((w.alloc A).alloc (.cells cs t)) (w.heap.size + 1) t cs := by
  have h := Has.made (w.alloc A) t cs
  simpa using h
theorem bdrewN {B : Nat} {w w' : World} (h : Below B w w') (k : Nat) : Below B w (w'.drewN k) := h.trans ⟨rfl, rfl, rfl, Nat.le_refl _, fun _ _ => rfl⟩
/-- The places of a superblock's numbers. -/
def supNums (g : Nat) : Value := .agg #[.pointer (some ⟨g, 0, none⟩), .pointer (some ⟨g, 1, none⟩), .pointer (some ⟨g, 2, none⟩), .pointer (some ⟨g, 3, none⟩)]
set_option maxRecDepth 100000 in
theorem supNumbers_any (g : Nat) (w : World) :
    Calls Tryz.prog 25 #[.pointer (some ⟨g, 0, none⟩)] w fun e w' => e = .returned (supNums g) ∧ Below w.heap.size w w' := by
  go_enter Tryz.func25, Tryz.ntmps25
  go_wp2_with fail
  go_region
  go_wp2_with fail
  exact ret_nums (p := 2) rfl w.heap.size _ rfl rfl (Has.made w _ _) rfl ⟨rfl, ((Below.refl _ w).alloc (Nat.le_refl _) _).drew⟩

set_option maxRecDepth 100000 in
theorem supPlace_any (s : Sup) (hs : 0 ≤ s.gen) (w : World) :
    Calls Tryz.prog 26 #[s.v] w fun e w' => e = .returned (.int .i64 (s.gen % 2)) ∧ Below w.heap.size w w' := by
  obtain ⟨g, b, i, e⟩ := s
  rw [Sup.v_eq]
  have hm : Int.tmod g 2 = g % 2 := Int.tmod_eq_emod_of_nonneg hs
  dsimp only
  go_enter Tryz.func26, Tryz.ntmps26
  go_wp2_with fail
  go_ret
  exact ⟨rfl, (Below.refl _ w).alloc (Nat.le_refl _) _⟩
end Go.Proofs.YtdgfohffmbnjiaaGreatDoor

namespace Go.Proofs.YtdgfohffmbnjiaaGreatDoor
open Go.RowKit
set_option linter.unusedVariables false

theorem run_nums0 (g : Nat) (W : World) : (Instr.index 60 (.agg #[.pointer (some ⟨g, 0, none⟩), .pointer (some ⟨g, 1, none⟩), .pointer (some ⟨g, 2, none⟩), .pointer (some ⟨g, 3, none⟩)]) (.int .i64 0)).run Tryz.prog W = .ok (.pointer (some ⟨g, 0, none⟩)) W := by
  simp [Instr.index, run_underlying Tryz.underlying60, asIntOf, go_sem]
theorem run_nums1 (g : Nat) (W : World) : (Instr.index 60 (.agg #[.pointer (some ⟨g, 0, none⟩), .pointer (some ⟨g, 1, none⟩), .pointer (some ⟨g, 2, none⟩), .pointer (some ⟨g, 3, none⟩)]) (.int .i64 1)).run Tryz.prog W = .ok (.pointer (some ⟨g, 1, none⟩)) W := by
  simp [Instr.index, run_underlying Tryz.underlying60, asIntOf, go_sem]
theorem run_nums2 (g : Nat) (W : World) : (Instr.index 60 (.agg #[.pointer (some ⟨g, 0, none⟩), .pointer (some ⟨g, 1, none⟩), .pointer (some ⟨g, 2, none⟩), .pointer (some ⟨g, 3, none⟩)]) (.int .i64 2)).run Tryz.prog W = .ok (.pointer (some ⟨g, 2, none⟩)) W := by
  simp [Instr.index, run_underlying Tryz.underlying60, asIntOf, go_sem]
theorem run_nums3 (g : Nat) (W : World) : (Instr.index 60 (.agg #[.pointer (some ⟨g, 0, none⟩), .pointer (some ⟨g, 1, none⟩), .pointer (some ⟨g, 2, none⟩), .pointer (some ⟨g, 3, none⟩)]) (.int .i64 3)).run Tryz.prog W = .ok (.pointer (some ⟨g, 3, none⟩)) W := by
  simp [Instr.index, run_underlying Tryz.underlying60, asIntOf, go_sem]
/-- The three new blocks of a Right. -/
structure RightIn (w W : World) (g b i e : Int) : Prop where
  own : Has W w.heap.size 23 #[.int .i64 g, .int .i64 b, .int .i64 i, .int .i64 e]
  low : Has W (w.heap.size + 1) 58 #[.int .i64 1, .int .i64 1, .int .i64 0, .int .i64 1]
  top : Has W (w.heap.size + 1 + 1) 58 #[.int .i64 2147483647, .int .i64 2147483647, .int .i64 1, .int .i64 g]
  bel : Below w.heap.size w W
theorem RightIn.made {w W : World} {g b i e : Int} (hb : Below (((w.alloc (.cells #[.int .i64 g, .int .i64 b, .int .i64 i, .int .i64 e] 23)).alloc (.cells #[.int .i64 1, .int .i64 1, .int .i64 0, .int .i64 1] 58)).alloc (.cells #[.int .i64 2147483647, .int .i64 2147483647, .int .i64 1, .int .i64 g] 58)).heap.size
    (((w.alloc (.cells #[.int .i64 g, .int .i64 b, .int .i64 i, .int .i64 e] 23)).alloc (.cells #[.int .i64 1, .int .i64 1, .int .i64 0, .int .i64 1] 58)).alloc (.cells #[.int .i64 2147483647, .int .i64 2147483647, .int .i64 1, .int .i64 g] 58)) W) : RightIn w W g b i e := by
  have h1 := Has.made w 23 #[.int .i64 g, .int .i64 b, .int .i64 i, .int .i64 e]
  have h2 := Has.made (w.alloc (.cells #[.int .i64 g, .int .i64 b, .int .i64 i, .int .i64 e] 23)) 58 #[.int .i64 1, .int .i64 1, .int .i64 0, .int .i64 1]
  have h3 := Has.made ((w.alloc (.cells #[.int .i64 g, .int .i64 b, .int .i64 i, .int .i64 e] 23)).alloc (.cells #[.int .i64 1, .int .i64 1, .int .i64 0, .int .i64 1] 58)) 58 #[.int .i64 2147483647, .int .i64 2147483647, .int .i64 1, .int .i64 g]
  have hs := hb.size
  have b0 : Below w.heap.size w _ := ((((Below.refl _ w).alloc (Nat.le_refl _) (.cells #[.int .i64 g, .int .i64 b, .int .i64 i, .int .i64 e] 23)).alloc (by simp) (.cells #[.int .i64 1, .int .i64 1, .int .i64 0, .int .i64 1] 58)).alloc (by simp; omega) (.cells #[.int .i64 2147483647, .int .i64 2147483647, .int .i64 1, .int .i64 g] 58))
  simp only [asize] at h2 h3
  exact ⟨((h1.of_alloc _).of_alloc _).below hb (by simp only [asize]; omega), (h2.of_alloc _).below hb (by simp only [asize]; omega), h3.below hb (by simp only [asize]; omega), b0.trans (hb.mono b0.size)⟩
theorem RightIn.cs {w W : World} {g b i e : Int} (h : RightIn w W g b i e) :
    (W.cell? ⟨w.heap.size, 0, none⟩ = some (.int .i64 g) ∧ W.cell? ⟨w.heap.size, 1, none⟩ = some (.int .i64 b) ∧ W.cell? ⟨w.heap.size, 2, none⟩ = some (.int .i64 i) ∧ W.cell? ⟨w.heap.size, 3, none⟩ = some (.int .i64 e)) ∧
    (W.cell? ⟨w.heap.size + 1, 0, none⟩ = some (.int .i64 1) ∧ W.cell? ⟨w.heap.size + 1, 1, none⟩ = some (.int .i64 1) ∧ W.cell? ⟨w.heap.size + 1, 2, none⟩ = some (.int .i64 0) ∧ W.cell? ⟨w.heap.size + 1, 3, none⟩ = some (.int .i64 1)) ∧
    W.cell? ⟨w.heap.size + 1 + 1, 0, none⟩ = some (.int .i64 2147483647) ∧ W.cell? ⟨w.heap.size + 1 + 1, 1, none⟩ = some (.int .i64 2147483647) ∧ W.cell? ⟨w.heap.size + 1 + 1, 2, none⟩ = some (.int .i64 1) ∧ W.cell? ⟨w.heap.size + 1 + 1, 3, none⟩ = some (.int .i64 g) :=
  ⟨⟨h.own.cell 0, h.own.cell 1, h.own.cell 2, h.own.cell 3⟩, ⟨h.low.cell 0, h.low.cell 1, h.low.cell 2, h.low.cell 3⟩, h.top.cell 0, h.top.cell 1, h.top.cell 2, h.top.cell 3⟩

set_option maxRecDepth 100000 in
set_option maxHeartbeats 4000000 in
theorem supRight_any (s : Sup) (w : World) :
    Calls Tryz.prog 7 #[s.v] w fun e w' => e = .returned (.bool (Sup.right s)) ∧ Below w.heap.size w w' := by
  obtain ⟨g, b, i, e⟩ := s
  rw [Sup.v_eq]
  have HN : Hid _ := fun (gg : Nat) (W : World) => supNumbers_any gg W
  unfold supNums at HN
  have hr : Sup.right ⟨g, b, i, e⟩ = true ↔ _ := Sup.right_iff
  dsimp only at hr
  have r0 := fun W => run_nums0 w.heap.size W
  have r1 := fun W => run_nums1 w.heap.size W
  have r2 := fun W => run_nums2 w.heap.size W
  have r3 := fun W => run_nums3 w.heap.size W
  by_cases d00 : g < 1
  · have hf : Sup.right ⟨g, b, i, e⟩ = false := by
      rw [Bool.eq_false_iff, ne_eq, hr]
      omega
    rw [hf]
    clear hr hf
    have d00' : decide (g < 1) = true := by simpa using d00
    go_enter Tryz.func7, Tryz.ntmps7
    go_wp2_with fail
    refine (HN.out _ _).mono ?_
    rintro r w1 ⟨rfl, hb⟩
    have H := Lib.hid (RightIn.made hb)
    clear hb
    obtain ⟨⟨a0, a1, a2, a3⟩, ⟨l0, l1, l2, l3⟩, m0, m1, m2, m3⟩ := H.out.cs
    go_wp2_with fail
    refine wp_loop_rounds 1 ?_
    rw [rounds_succ]
    go_wp2_with fail
    go_quiet (fail)
    go_wp2_with fail
    go_ret
    exact ⟨rfl, by first | exact bdrewN H.out.bel _ | exact bdrewN (bdrewN H.out.bel _) _⟩
  have d00' : decide (g < 1) = false := by simpa using d00
  by_cases d01 : 2147483647 < g
  · have hf : Sup.right ⟨g, b, i, e⟩ = false := by
      rw [Bool.eq_false_iff, ne_eq, hr]
      omega
    rw [hf]
    clear hr hf
    have d01' : decide (2147483647 < g) = true := by simpa using d01
    go_enter Tryz.func7, Tryz.ntmps7
    go_wp2_with fail
    refine (HN.out _ _).mono ?_
    rintro r w1 ⟨rfl, hb⟩
    have H := Lib.hid (RightIn.made hb)
    clear hb
    obtain ⟨⟨a0, a1, a2, a3⟩, ⟨l0, l1, l2, l3⟩, m0, m1, m2, m3⟩ := H.out.cs
    go_wp2_with fail
    refine wp_loop_rounds 1 ?_
    rw [rounds_succ]
    go_wp2_with fail
    go_quiet (fail)
    go_wp2_with fail
    go_ret
    exact ⟨rfl, by first | exact bdrewN H.out.bel _ | exact bdrewN (bdrewN H.out.bel _) _⟩
  have d01' : decide (2147483647 < g) = false := by simpa using d01
  by_cases d10 : b < 1
  · have hf : Sup.right ⟨g, b, i, e⟩ = false := by
      rw [Bool.eq_false_iff, ne_eq, hr]
      omega
    rw [hf]
    clear hr hf
    have d10' : decide (b < 1) = true := by simpa using d10
    go_enter Tryz.func7, Tryz.ntmps7
    go_wp2_with fail
    refine (HN.out _ _).mono ?_
    rintro r w1 ⟨rfl, hb⟩
    have H := Lib.hid (RightIn.made hb)
    clear hb
    obtain ⟨⟨a0, a1, a2, a3⟩, ⟨l0, l1, l2, l3⟩, m0, m1, m2, m3⟩ := H.out.cs
    go_wp2_with fail
    refine wp_loop_rounds 2 ?_
    rw [rounds_succ]
    go_wp2_with fail
    go_quiet (fail)
    go_wp2_with fail
    rw [rounds_succ]
    go_wp2_with fail
    go_quiet (fail)
    go_wp2_with fail
    go_ret
    exact ⟨rfl, by first | exact bdrewN H.out.bel _ | exact bdrewN (bdrewN H.out.bel _) _⟩
  have d10' : decide (b < 1) = false := by simpa using d10
  by_cases d11 : 2147483647 < b
  · have hf : Sup.right ⟨g, b, i, e⟩ = false := by
      rw [Bool.eq_false_iff, ne_eq, hr]
      omega
    rw [hf]
    clear hr hf
    have d11' : decide (2147483647 < b) = true := by simpa using d11
    go_enter Tryz.func7, Tryz.ntmps7
    go_wp2_with fail
    refine (HN.out _ _).mono ?_
    rintro r w1 ⟨rfl, hb⟩
    have H := Lib.hid (RightIn.made hb)
    clear hb
    obtain ⟨⟨a0, a1, a2, a3⟩, ⟨l0, l1, l2, l3⟩, m0, m1, m2, m3⟩ := H.out.cs
    go_wp2_with fail
    refine wp_loop_rounds 2 ?_
    rw [rounds_succ]
    go_wp2_with fail
    go_quiet (fail)
    go_wp2_with fail
    rw [rounds_succ]
    go_wp2_with fail
    go_quiet (fail)
    go_wp2_with fail
    go_ret
    exact ⟨rfl, by first | exact bdrewN H.out.bel _ | exact bdrewN (bdrewN H.out.bel _) _⟩
  have d11' : decide (2147483647 < b) = false := by simpa using d11
  by_cases d20 : i < 0
  · have hf : Sup.right ⟨g, b, i, e⟩ = false := by
      rw [Bool.eq_false_iff, ne_eq, hr]
      omega
    rw [hf]
    clear hr hf
    have d20' : decide (i < 0) = true := by simpa using d20
    go_enter Tryz.func7, Tryz.ntmps7
    go_wp2_with fail
    refine (HN.out _ _).mono ?_
    rintro r w1 ⟨rfl, hb⟩
    have H := Lib.hid (RightIn.made hb)
    clear hb
    obtain ⟨⟨a0, a1, a2, a3⟩, ⟨l0, l1, l2, l3⟩, m0, m1, m2, m3⟩ := H.out.cs
    go_wp2_with fail
    refine wp_loop_rounds 3 ?_
    rw [rounds_succ]
    go_wp2_with fail
    go_quiet (fail)
    go_wp2_with fail
    rw [rounds_succ]
    go_wp2_with fail
    go_quiet (fail)
    go_wp2_with fail
    rw [rounds_succ]
    go_wp2_with fail
    go_quiet (fail)
    go_wp2_with fail
    go_ret
    exact ⟨rfl, by first | exact bdrewN H.out.bel _ | exact bdrewN (bdrewN H.out.bel _) _⟩
  have d20' : decide (i < 0) = false := by simpa using d20
  by_cases d21 : 1 < i
  · have hf : Sup.right ⟨g, b, i, e⟩ = false := by
      rw [Bool.eq_false_iff, ne_eq, hr]
      omega
    rw [hf]
    clear hr hf
    have d21' : decide (1 < i) = true := by simpa using d21
    go_enter Tryz.func7, Tryz.ntmps7
    go_wp2_with fail
    refine (HN.out _ _).mono ?_
    rintro r w1 ⟨rfl, hb⟩
    have H := Lib.hid (RightIn.made hb)
    clear hb
    obtain ⟨⟨a0, a1, a2, a3⟩, ⟨l0, l1, l2, l3⟩, m0, m1, m2, m3⟩ := H.out.cs
    go_wp2_with fail
    refine wp_loop_rounds 3 ?_
    rw [rounds_succ]
    go_wp2_with fail
    go_quiet (fail)
    go_wp2_with fail
    rw [rounds_succ]
    go_wp2_with fail
    go_quiet (fail)
    go_wp2_with fail
    rw [rounds_succ]
    go_wp2_with fail
    go_quiet (fail)
    go_wp2_with fail
    go_ret
    exact ⟨rfl, by first | exact bdrewN H.out.bel _ | exact bdrewN (bdrewN H.out.bel _) _⟩
  have d21' : decide (1 < i) = false := by simpa using d21
  by_cases d30 : e < 1
  · have hf : Sup.right ⟨g, b, i, e⟩ = false := by
      rw [Bool.eq_false_iff, ne_eq, hr]
      omega
    rw [hf]
    clear hr hf
    have d30' : decide (e < 1) = true := by simpa using d30
    go_enter Tryz.func7, Tryz.ntmps7
    go_wp2_with fail
    refine (HN.out _ _).mono ?_
    rintro r w1 ⟨rfl, hb⟩
    have H := Lib.hid (RightIn.made hb)
    clear hb
    obtain ⟨⟨a0, a1, a2, a3⟩, ⟨l0, l1, l2, l3⟩, m0, m1, m2, m3⟩ := H.out.cs
    go_wp2_with fail
    refine wp_loop_rounds 4 ?_
    rw [rounds_succ]
    go_wp2_with fail
    go_quiet (fail)
    go_wp2_with fail
    rw [rounds_succ]
    go_wp2_with fail
    go_quiet (fail)
    go_wp2_with fail
    rw [rounds_succ]
    go_wp2_with fail
    go_quiet (fail)
    go_wp2_with fail
    rw [rounds_succ]
    go_wp2_with fail
    go_quiet (fail)
    go_wp2_with fail
    go_ret
    exact ⟨rfl, by first | exact bdrewN H.out.bel _ | exact bdrewN (bdrewN H.out.bel _) _⟩
  have d30' : decide (e < 1) = false := by simpa using d30
  by_cases d31 : g < e
  · have hf : Sup.right ⟨g, b, i, e⟩ = false := by
      rw [Bool.eq_false_iff, ne_eq, hr]
      omega
    rw [hf]
    clear hr hf
    have d31' : decide (g < e) = true := by simpa using d31
    go_enter Tryz.func7, Tryz.ntmps7
    go_wp2_with fail
    refine (HN.out _ _).mono ?_
    rintro r w1 ⟨rfl, hb⟩
    have H := Lib.hid (RightIn.made hb)
    clear hb
    obtain ⟨⟨a0, a1, a2, a3⟩, ⟨l0, l1, l2, l3⟩, m0, m1, m2, m3⟩ := H.out.cs
    go_wp2_with fail
    refine wp_loop_rounds 4 ?_
    rw [rounds_succ]
    go_wp2_with fail
    go_quiet (fail)
    go_wp2_with fail
    rw [rounds_succ]
    go_wp2_with fail
    go_quiet (fail)
    go_wp2_with fail
    rw [rounds_succ]
    go_wp2_with fail
    go_quiet (fail)
    go_wp2_with fail
    rw [rounds_succ]
    go_wp2_with fail
    go_quiet (fail)
    go_wp2_with fail
    go_ret
    exact ⟨rfl, by first | exact bdrewN H.out.bel _ | exact bdrewN (bdrewN H.out.bel _) _⟩
  have d31' : decide (g < e) = false := by simpa using d31
  have ht : Sup.right ⟨g, b, i, e⟩ = true := hr.2 (by omega)
  rw [ht]
  clear hr ht
  go_enter Tryz.func7, Tryz.ntmps7
  go_wp2_with fail
  refine (HN.out _ _).mono ?_
  rintro r w1 ⟨rfl, hb⟩
  have H := Lib.hid (RightIn.made hb)
  clear hb
  obtain ⟨⟨a0, a1, a2, a3⟩, ⟨l0, l1, l2, l3⟩, m0, m1, m2, m3⟩ := H.out.cs
  go_wp2_with fail
  refine wp_loop_rounds 5 ?_
  rw [rounds_succ]
  go_wp2_with fail
  go_quiet (fail)
  go_wp2_with fail
  rw [rounds_succ]
  go_wp2_with fail
  go_quiet (fail)
  go_wp2_with fail
  rw [rounds_succ]
  go_wp2_with fail
  go_quiet (fail)
  go_wp2_with fail
  rw [rounds_succ]
  go_wp2_with fail
  go_quiet (fail)
  go_wp2_with fail
  rw [rounds_succ]
  go_wp2_with fail
  go_ret
  exact ⟨rfl, by first | exact bdrewN H.out.bel _ | exact bdrewN (bdrewN H.out.bel _) _⟩
end Go.Proofs.YtdgfohffmbnjiaaGreatDoor

namespace Go.Proofs.YtdgfohffmbnjiaaGreatDoor
open Go.RowKit
set_option linter.unusedVariables false

namespace Sup
def st0 : Wt.St := ([], false)
def st1 : Wt.St := Wt.text sign st0
def st2 (s : Sup) : Wt.St := Wt.num s.gen st1
def st3 (s : Sup) : Wt.St := Wt.num s.boot (st2 s)
def st4 (s : Sup) : Wt.St := Wt.num s.side (st3 s)
def st5 (s : Sup) : Wt.St := Wt.num s.seed (st4 s)
theorem flat1 : Wt.flat st1 = M.encL 6 ++ sign := by
  unfold st1
  rw [Wt.flat_text]
  rfl
theorem flat5 (s : Sup) : Wt.flat (st5 s) = enc s := by
  unfold st5 st4 st3 st2 enc
  rw [Wt.flat_num, Wt.flat_num, Wt.flat_num, Wt.flat_num, flat1]
  simp only [List.append_assoc, List.append_nil]
theorem flat1_len : (Wt.flat st1).length ≤ 100 := by rw [flat1]; decide
theorem flat2_len (s : Sup) : (Wt.flat (st2 s)).length ≤ 200 := by
  have := flat1_len
  have := M.encL_len s.gen
  unfold st2
  rw [Wt.flat_num, List.length_append]
  omega
theorem flat3_len (s : Sup) : (Wt.flat (st3 s)).length ≤ 300 := by
  have := flat2_len s
  have := M.encL_len s.boot
  unfold st3
  rw [Wt.flat_num, List.length_append]
  omega
theorem flat4_len (s : Sup) : (Wt.flat (st4 s)).length ≤ 400 := by
  have := flat3_len s
  have := M.encL_len s.side
  unfold st4
  rw [Wt.flat_num, List.length_append]
  omega
theorem good_num {n : Int} (h0 : 0 ≤ n) (h : n < 72057594037927936) (st : Wt.St) : (Wt.num n st).2 = st.2 := by
  rw [Wt.bad_num]
  have : M.encL n ≠ [] := by
    unfold M.encL
    rw [if_pos ⟨h0, by omega⟩]
    simp
  simp [this]
theorem good5 {s : Sup} (h : right s = true) : (st5 s).2 = false := by
  obtain ⟨h1, h2, h3, h4, h5, h6, h7⟩ := right_iff.1 h
  unfold st5 st4 st3 st2 st1
  rw [good_num (by omega) (by omega), good_num (by omega) (by omega), good_num (by omega) (by omega), good_num (by omega) (by omega)]
  unfold Wt.text
  rw [Wt.bad_raw, good_num (by decide) (by decide)]
  rfl
end Sup

/-- What a superblock's bytes are made in: its own block, a writer. -/
structure BytesIn (w W : World) (s : Sup) (st : Wt.St) : Prop where
  own : Has W w.heap.size 23 s.cells
  wr : Wr W (w.heap.size + 1) st
  bel : Below w.heap.size w W
theorem BytesIn.made (w : World) (s : Sup) : BytesIn w ((w.alloc (.cells s.cells 23)).alloc (.cells #[.pointer none, .int .i64 0, .bool false] 100)) s Sup.st0 := by
  have h1 := Has.made w 23 s.cells
  have h2 := Has.made (w.alloc (.cells s.cells 23)) 100 #[.pointer none, .int .i64 0, .bool false]
  rw [asize] at h2
  exact ⟨h1.of_alloc _, ⟨none, h2, rfl⟩, ((Below.refl _ w).alloc (Nat.le_refl _) _).alloc (by simp) _⟩
theorem BytesIn.only {w W W' : World} {s : Sup} {st st' : Wt.St} (h : BytesIn w W s st) (hw : Wr W' (w.heap.size + 1) st') (ho : Only W W' (w.heap.size + 1)) : BytesIn w W' s st' :=
  ⟨ho.has h.own (by omega), hw, ho.below h.bel h.bel.size (by omega)⟩
theorem BytesIn.below {w W W' : World} {s : Sup} {st : Wt.St} (h : BytesIn w W s st) (hb : Below W.heap.size W W') : BytesIn w W' s st :=
  ⟨h.own.below hb h.own.lt, h.wr.below hb (Nat.le_refl _), h.bel.trans (hb.mono h.bel.size)⟩
theorem BytesIn.cs {w W : World} {s : Sup} {st : Wt.St} (h : BytesIn w W s st) :
    W.cell? ⟨w.heap.size, 0, none⟩ = some (.int .i64 s.gen) ∧ W.cell? ⟨w.heap.size, 1, none⟩ = some (.int .i64 s.boot) ∧ W.cell? ⟨w.heap.size, 2, none⟩ = some (.int .i64 s.side) ∧ W.cell? ⟨w.heap.size, 3, none⟩ = some (.int .i64 s.seed) :=
  ⟨h.own.cell 0, h.own.cell 1, h.own.cell 2, h.own.cell 3⟩

set_option maxRecDepth 100000 in
set_option maxHeartbeats 4000000 in
theorem sbytes_any (s : Sup) (hs : Sup.right s = true) (w : World) :
    Calls Tryz.prog 27 #[s.v] w fun e w' => e = .returned (.string (S (Sup.enc s))) ∧ Below w.heap.size w w' := by
  have HN : Hid _ := fun (gg : Nat) (W : World) => supNumbers_any gg W
  unfold supNums at HN
  have H1 : Hid (∀ W, BytesIn w W s Sup.st0 → Calls Tryz.prog 49 #[.pointer (some ⟨w.heap.size + 1, 0, none⟩), .string ⟨#[67, 72, 65, 82, 84, 49]⟩] W fun r w' => r = .returned (.tuple #[]) ∧ BytesIn w w' s Sup.st1) :=
    Lib.hid (fun W h => (wtext_wr Sup.sign _ Sup.st0 W h.wr (by decide)).mono (fun r w' hp => ⟨hp.1, h.only hp.2.1 hp.2.2⟩))
  have H2 : Hid (∀ W, BytesIn w W s Sup.st1 → Calls Tryz.prog 50 #[.pointer (some ⟨w.heap.size + 1, 0, none⟩), .int .i64 s.gen] W fun r w' => r = .returned (.tuple #[]) ∧ BytesIn w w' s s.st2) :=
    Lib.hid (fun W h => (wnum_wr s.gen _ Sup.st1 W h.wr (by have := Sup.flat1_len; omega)).mono (fun r w' hp => ⟨hp.1, h.only hp.2.1 hp.2.2⟩))
  have H3 : Hid (∀ W, BytesIn w W s s.st2 → Calls Tryz.prog 50 #[.pointer (some ⟨w.heap.size + 1, 0, none⟩), .int .i64 s.boot] W fun r w' => r = .returned (.tuple #[]) ∧ BytesIn w w' s s.st3) :=
    Lib.hid (fun W h => (wnum_wr s.boot _ s.st2 W h.wr (by have := Sup.flat2_len s; omega)).mono (fun r w' hp => ⟨hp.1, h.only hp.2.1 hp.2.2⟩))
  have H4 : Hid (∀ W, BytesIn w W s s.st3 → Calls Tryz.prog 50 #[.pointer (some ⟨w.heap.size + 1, 0, none⟩), .int .i64 s.side] W fun r w' => r = .returned (.tuple #[]) ∧ BytesIn w w' s s.st4) :=
    Lib.hid (fun W h => (wnum_wr s.side _ s.st3 W h.wr (by have := Sup.flat3_len s; omega)).mono (fun r w' hp => ⟨hp.1, h.only hp.2.1 hp.2.2⟩))
  have H5 : Hid (∀ W, BytesIn w W s s.st4 → Calls Tryz.prog 50 #[.pointer (some ⟨w.heap.size + 1, 0, none⟩), .int .i64 s.seed] W fun r w' => r = .returned (.tuple #[]) ∧ BytesIn w w' s s.st5) :=
    Lib.hid (fun W h => (wnum_wr s.seed _ s.st4 W h.wr (by have := Sup.flat4_len s; omega)).mono (fun r w' hp => ⟨hp.1, h.only hp.2.1 hp.2.2⟩))
  have H6 : Hid (∀ W, BytesIn w W s s.st5 → Calls Tryz.prog 51 #[.pointer (some ⟨w.heap.size + 1, 0, none⟩)] W fun r w' => r = .returned (.tuple #[.string (S (Sup.enc s)), .bool true]) ∧ BytesIn w w' s s.st5) :=
    Lib.hid (fun W h => by
      have ha := all_good _ s.st5 W h.wr (Sup.good5 hs) (by rw [Sup.flat5]; have := Sup.enc_len hs; omega)
      rw [Sup.flat5] at ha
      exact ha.mono (fun r w' hp => ⟨hp.1, h.below hp.2⟩))
  have HM := Lib.hid (BytesIn.made w s)
  have r0 := fun W => run_nums0 w.heap.size W
  have r1 := fun W => run_nums1 w.heap.size W
  have r2 := fun W => run_nums2 w.heap.size W
  have r3 := fun W => run_nums3 w.heap.size W
  generalize Sup.enc s = x at H6 ⊢
  generalize s.st5 = t5 at H5 H6
  generalize s.st4 = t4 at H4 H5
  generalize s.st3 = t3 at H3 H4
  generalize s.st2 = t2 at H2 H3
  generalize Sup.st1 = t1 at H1 H2
  clear hs
  obtain ⟨g, b, i, e⟩ := s
  rw [Sup.v_eq]
  have HC : Hid (∀ W t, BytesIn w W ⟨g, b, i, e⟩ t → W.cell? ⟨w.heap.size, 0, none⟩ = some (.int .i64 g) ∧ W.cell? ⟨w.heap.size, 1, none⟩ = some (.int .i64 b) ∧ W.cell? ⟨w.heap.size, 2, none⟩ = some (.int .i64 i) ∧ W.cell? ⟨w.heap.size, 3, none⟩ = some (.int .i64 e)) := Lib.hid (fun W t h => h.cs)
  dsimp only at H2 H3 H4 H5
  go_enter Tryz.func27, Tryz.ntmps27
  go_wp2_with fail
  refine (H1.out _ HM.out).mono ?_
  clear HM H1
  rintro r w1 ⟨rfl, h⟩
  have H := Lib.hid h
  clear h
  go_wp2_with fail
  refine (HN.out _ _).mono ?_
  rintro r w2 ⟨rfl, hb⟩
  replace H := Lib.hid (H.out.below hb)
  clear hb
  obtain ⟨c0, c1, c2, c3⟩ := HC.out _ _ H.out
  go_wp2_with fail
  refine wp_loop_rounds 5 ?_
  rw [rounds_succ]
  go_wp2_with fail
  refine (H2.out _ H.out).mono ?_
  rintro r w3 ⟨rfl, h⟩
  replace H := Lib.hid h
  clear h c0 c1 c2 c3
  obtain ⟨c0, c1, c2, c3⟩ := HC.out _ _ H.out
  go_wp2_with fail
  rw [rounds_succ]
  go_wp2_with fail
  refine (H3.out _ H.out).mono ?_
  rintro r w4 ⟨rfl, h⟩
  replace H := Lib.hid h
  clear h c0 c1 c2 c3
  obtain ⟨c0, c1, c2, c3⟩ := HC.out _ _ H.out
  go_wp2_with fail
  rw [rounds_succ]
  go_wp2_with fail
  refine (H4.out _ H.out).mono ?_
  rintro r w5 ⟨rfl, h⟩
  replace H := Lib.hid h
  clear h c0 c1 c2 c3
  obtain ⟨c0, c1, c2, c3⟩ := HC.out _ _ H.out
  go_wp2_with fail
  rw [rounds_succ]
  go_wp2_with fail
  refine (H5.out _ H.out).mono ?_
  rintro r w6 ⟨rfl, h⟩
  replace H := Lib.hid h
  clear h c0 c1 c2 c3
  obtain ⟨c0, c1, c2, c3⟩ := HC.out _ _ H.out
  go_wp2_with fail
  rw [rounds_succ]
  go_wp2_with fail
  refine (H6.out _ H.out).mono ?_
  rintro r w7 ⟨rfl, h⟩
  go_wp2_with fail
  go_ret
  exact ⟨rfl, h.bel⟩
end Go.Proofs.YtdgfohffmbnjiaaGreatDoor
