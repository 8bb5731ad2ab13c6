/-
  The contracts of value's Right, and of the statements' own right.
-/
import Derived.Test.YtfcmkbeilpclmaaValB
import Derived.Deep.QuietTactic
import Derived.BigQuiet
import Derived.Deep.RegionHeld3
import Derived.Deep.RegionLaw
import Derived.Deep.Cut
namespace Go.Proofs.Ytfcmkbeilpclmaa
open Go.RowKit
set_option linter.unusedVariables false

/-- A value that lies in a block, loaded whole. -/
theorem whole {W : World} {g : Nat} {cs : Array Value} (h : Has W g 35 cs) (hcs : cs.size = 5) : (loadVar 35 ⟨g, 0, none⟩).run Try.prog W = .ok (.agg cs) W :=
  run_loadVar_row W g 35 35 cs (0, 0) _ h Try.underlying35 rfl (by rw [hcs]; exact valSize)

theorem vfields : Try.prog.underlying 35 = some (.struct (Try.prog.fieldsOf 35)) := by kernel_rfl
theorem vstood : Try.prog.stoodInHeld 35 = false := by kernel_rfl
theorem vguard : Try.prog.eqGuardType Try.prog.depth 35 = false := by kernel_rfl
/-- Two values are one just where their fields are. -/
theorem run_veq (x y : Val) (W : World) : (binOp .eql 35 x.v y.v).run Try.prog W = .ok (.bool (decide (x = y))) W := by
  obtain ⟨k, f, i, b, t⟩ := x
  obtain ⟨k', f', i', b', t'⟩ := y
  rw [Val.v_eq, Val.v_eq, run_eql_struct, run_equalIn_agg W 9999 _ _ _ vfields vstood]
  have h1 : ((b : Int) == (b' : Int)) = (b == b') := by
    rw [Bool.eq_iff_iff]; simp only [beq_iff_eq]; omega
  have h2 : ((S t).toList == (S t').toList) = (t == t') := by rw [S_toList, S_toList]
  simp [go_sem, Try.underlying35, Try.underlying3, Try.underlying4, Try.underlying2, Try.underlying33, Try.underlying9, h1]
  by_cases e1 : k = k' <;> by_cases e2 : f = f' <;> by_cases e3 : i = i' <;> by_cases e4 : b = b' <;> by_cases e5 : t = t' <;> simp [e1, e2, e3, e4, e5]
theorem run_vguard (op : BinOp) (o1 o2 : Operand) (x y : Val) (W : World) : (eqGuard op 35 o1 o2 x.v y.v).run Try.prog W = .ok () W := run_eqGuard_agg W op _ o1 o2 _ _ vguard

/-- What is read of a value's block. -/
abbrev Lies (g : Nat) (k : Int) (f : Bool) (i : Int) (b : Nat) (t : List UInt8) (W : World) : Prop :=
  W.cell? ⟨g, 0, none⟩ = some (.int .i64 k) ∧ W.cell? ⟨g, 1, none⟩ = some (.bool f) ∧ W.cell? ⟨g, 2, none⟩ = some (.int .i64 i) ∧ W.cell? ⟨g, 3, none⟩ = some (.int .u64 (b : Int)) ∧ W.cell? ⟨g, 4, none⟩ = some (.string (S t))
/-- A value's cells. -/
abbrev vcs (k : Int) (f : Bool) (i : Int) (b : Nat) (t : List UInt8) : Array Value := #[.int .i64 k, .bool f, .int .i64 i, .int .u64 (b : Int), .string (S t)]
theorem lies {W : World} {g : Nat} {k : Int} {f : Bool} {i : Int} {b : Nat} {t : List UInt8} (h : Has W g 35 (vcs k f i b t)) : Lies g k f i b t W :=
  ⟨h.cell 0, h.cell 1, h.cell 2, h.cell 3, h.cell 4⟩

set_option maxHeartbeats 2000000 in
theorem right_any (x : Val) (hx : x.ok) (w : World) :
    Calls Try.prog 28 #[x.v] w fun r w' => r = .returned (.bool x.right) ∧ Below w.heap.size w w' := by
  have hN := fun W => clean_any x hx W
  have hR : x.right = decide (0 ≤ x.kind ∧ x.kind ≤ 4 ∧ x.text.length ≤ 200 ∧ x = x.clean) := rfl
  obtain ⟨k, f, i, b, t⟩ := x
  generalize Val.right _ = rr at hR
  have hE : ∀ W', (binOp .eql 35 (.agg (vcs k f i b t)) (Val.clean ⟨k, f, i, b, t⟩).v).run Try.prog W' = .ok (.bool (decide (Val.mk k f i b t = Val.clean ⟨k, f, i, b, t⟩))) W' := fun W' => run_veq ⟨k, f, i, b, t⟩ _ W'
  have hG : ∀ op o1 o2 W', (eqGuard op 35 o1 o2 (.agg (vcs k f i b t)) (Val.clean ⟨k, f, i, b, t⟩).v).run Try.prog W' = .ok () W' := fun op o1 o2 W' => run_vguard op o1 o2 ⟨k, f, i, b, t⟩ _ W'
  have hall : (¬ 0 ≤ k ∧ rr = false) ∨ (0 ≤ k ∧ ¬ k ≤ 4 ∧ rr = false) ∨ (0 ≤ k ∧ k ≤ 4 ∧ ¬ (t.length : Int) ≤ 200 ∧ rr = false) ∨ (0 ≤ k ∧ k ≤ 4 ∧ (t.length : Int) ≤ 200 ∧ decide (Val.mk k f i b t = Val.clean ⟨k, f, i, b, t⟩) = rr) := by
    by_cases h0 : 0 ≤ k
    · by_cases h4 : k ≤ 4
      · by_cases ht : (t.length : Int) ≤ 200
        · refine Or.inr (Or.inr (Or.inr ⟨h0, h4, ht, ?_⟩))
          rw [hR, decide_eq_decide]
          exact ⟨fun h => ⟨h0, h4, (by simp only []; omega), h⟩, fun h => h.2.2.2⟩
        · refine Or.inr (Or.inr (Or.inl ⟨h0, h4, ht, ?_⟩))
          rw [hR, decide_eq_false_iff_not]
          exact fun h => ht (by have := h.2.2.1; simp only [] at this; omega)
      · refine Or.inr (Or.inl ⟨h0, h4, ?_⟩)
        rw [hR, decide_eq_false_iff_not]
        exact fun h => h4 h.2.1
    · refine Or.inl ⟨h0, ?_⟩
      rw [hR, decide_eq_false_iff_not]
      exact fun h => h0 h.1
  clear hR
  generalize decide (Val.mk k f i b t = Val.clean ⟨k, f, i, b, t⟩) = d at hE hall
  generalize Val.clean ⟨k, f, i, b, t⟩ = y at hN hE hG
  rw [Val.v_eq k f i b t] at hN ⊢
  have HN := Lib.hid hN; clear hN
  rcases hall with ⟨h0, rfl⟩ | ⟨h0, h4, rfl⟩ | ⟨h0, h4, ht, rfl⟩ | ⟨h0, h4, ht, rfl⟩
  iterate 3
    · clear hE hG
      go_enter Try.func28, Try.ntmps28
      go_upto_region 1 with (fail)
      have HB := Has.made w 35 (vcs k f i b t)
      have hb0 := up1 (w := w) (.cells (vcs k f i b t) 35)
      generalize w.alloc (.cells (vcs k f i b t) 35) = W at HB hb0 ⊢
      have hx := lies HB
      have HGB := Lib.hid (And.intro HB hb0); clear HB hb0
      go_quiet (fail)
      go_wp2_with fail
      go_ret
      exact ⟨rfl, below_drewN HGB.out.2 _⟩
  go_enter Try.func28, Try.ntmps28
  go_upto_region 1 with (fail)
  have HB := Has.made w 35 (vcs k f i b t)
  have hb0 := up1 (w := w) (.cells (vcs k f i b t) 35)
  generalize w.alloc (.cells (vcs k f i b t) 35) = W at HB hb0 ⊢
  replace HB : Has W.drew w.heap.size 35 (vcs k f i b t) := HB
  replace hb0 := hb0.drew
  have hx := lies HB
  have HGB := Lib.hid (And.intro HB hb0); clear HB hb0
  go_region_held3 (Lies w.heap.size k f i b t)
    (first | exact hx | go_keep)
    (first | (go_at_call 26; refine (HN.out _).mono ?_; rintro r w1 ⟨rfl, hb1⟩; have HGB1 := HGB.out; have HB := HGB1.1.below hb1 HGB1.1.lt; have hb0 := HGB1.2.trans (hb1.mono HGB1.2.size); have hx := lies HB; clear HB HGB1 hb1))
  go_wp2_with fail
  go_ret
  exact ⟨rfl, hb0⟩
end Go.Proofs.Ytfcmkbeilpclmaa
