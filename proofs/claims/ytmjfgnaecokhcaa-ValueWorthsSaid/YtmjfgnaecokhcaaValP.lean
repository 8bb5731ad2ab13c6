/-
  The contract of value's Whole.
-/
import Derived.Test.YtmjfgnaecokhcaaValO
namespace Go.Proofs.Ytmjfgnaecokhcaa
open Go.RowKit
set_option linter.unusedVariables false

/-- The whole number that a value is. -/
def Val.whole (x : Val) : Int × Bool :=
  if x.right = true then (if x.kind = 2 then (x.int, true) else if x.kind = 3 then Flt.wh x.bits else (0, false)) else (0, false)

theorem right_cbits {x : Val} (h : x.right = true) (hk : x.kind = 3) : Val.cbits x.bits = x.bits := by
  obtain ⟨-, -, -, h4⟩ := Val.right_le h
  obtain ⟨k, f, i, b, t⟩ := x
  simp only [] at hk
  subst hk
  have h5 : Val.mk 3 f i b t = ⟨3, false, 0, Val.cbits b, []⟩ := h4
  injection h5 with _ _ _ h6 _
  exact h6.symm

set_option maxRecDepth 100000 in
set_option maxHeartbeats 400000 in
theorem whole_any (x : Val) (hx : x.ok) (w : World) :
    Calls Try.prog 26 #[x.v] w fun e w' => e = .returned (.tuple #[.int .i64 (Val.whole x).1, .bool (Val.whole x).2]) ∧ Below w.heap.size w w' := by
  have hR := fun W => right_any x hx W
  have hF := fun W => float_any x hx W
  have hW : Val.whole x = if x.right = true then (if x.kind = 2 then (x.int, true) else if x.kind = 3 then Flt.wh x.bits else (0, false)) else (0, false) := rfl
  have hcb := right_cbits (x := x)
  have hb := hx.1
  obtain ⟨k, f, i, b, t⟩ := x
  generalize Val.whole _ = out at hW ⊢
  generalize Val.right _ = rr at hR hF hW hcb
  rw [Val.v_eq] at hR hF ⊢
  simp only [] at hW hcb hb hF
  have HR := Lib.hid hR; clear hR hx
  by_cases hk : k = 2
  · subst hk
    rw [if_neg (by rintro ⟨_, h⟩; omega)] at hF
    have HF := Lib.hid hF; clear hF hcb
    cases rr
    · rw [if_neg (by decide)] at hW
      subst hW
      go_enter Try.func26, Try.ntmps26
      go_wp2_with fail
      refine (HR.out _).mono ?_
      rintro r w1 ⟨rfl, hb1⟩
      have HB : Has w1 w.heap.size 24 (vcs 2 f i b t) := (Has.made w _ _).below hb1 (by simp)
      have hb0 : Below w.heap.size w w1 := (up1 _).trans (hb1.mono (by simp))
      have hx := lies HB
      clear hb1 HB
      go_wp2_with fail
      refine (HF.out _).mono ?_
      rintro r w2 ⟨rfl, hb2⟩
      go_wp2_with fail
      go_ret2
      exact ⟨rfl, hb0.trans (hb2.mono hb0.size)⟩
    · rw [if_pos rfl, if_pos rfl] at hW
      subst hW
      go_enter Try.func26, Try.ntmps26
      go_wp2_with fail
      refine (HR.out _).mono ?_
      rintro r w1 ⟨rfl, hb1⟩
      have HB : Has w1 w.heap.size 24 (vcs 2 f i b t) := (Has.made w _ _).below hb1 (by simp)
      have hb0 : Below w.heap.size w w1 := (up1 _).trans (hb1.mono (by simp))
      have hx := lies HB
      clear hb1 HB
      go_wp2_with fail
      go_ret2
      exact ⟨rfl, hb0⟩
  have hkb : (k == 2) = false := by simpa using hk
  by_cases hf : rr = true ∧ k = 3
  · obtain ⟨rfl, rfl⟩ := hf
    rw [if_pos ⟨rfl, rfl⟩] at hF
    rw [if_pos rfl, if_neg hk, if_pos rfl] at hW
    have hc := hcb rfl rfl
    have HF := Lib.hid hF; clear hF hcb HR
    have HT := Lib.hid (fun W => trunc_any b hb hc W)
    have hn := Flt.wh_none b hb hc
    have hs := Flt.wh_some b hb hc
    rw [← hW] at hn hs
    clear hW hc
    have g1 : (FloatKind.f64.format.order b (Flt.cutB b) != some .eq) = (Flt.D.order b (Flt.cutB b) != some .eq) := rfl
    have g2 : (FloatKind.f64.format.order b 14114281232179134464 == some .lt) = (Flt.D.order b 14114281232179134464 == some .lt) := rfl
    have g3 : (FloatKind.f64.format.order b 4890909195324358656 == some .gt || FloatKind.f64.format.order b 4890909195324358656 == some .eq) = (Flt.D.order b 4890909195324358656 == some .gt || Flt.D.order b 4890909195324358656 == some .eq) := rfl
    generalize Flt.cutB b = c at hn hs HT g1
    generalize (Flt.D.order b c != some .eq) = z1 at g1 hn hs
    generalize (Flt.D.order b 14114281232179134464 == some .lt) = z2 at g2 hn hs
    generalize (Flt.D.order b 4890909195324358656 == some .gt || Flt.D.order b 4890909195324358656 == some .eq) = z3 at g3 hn hs
    have hcase : (z1 = true ∧ out = (0, false)) ∨ (z1 = false ∧ z2 = true ∧ out = (0, false)) ∨ (z1 = false ∧ z2 = false ∧ z3 = true ∧ out = (0, false)) ∨ (z1 = false ∧ z2 = false ∧ z3 = false ∧ ∃ n, floatToIntVal .f64 b .i64 = some n ∧ out = (n, true)) := by
      cases z1
      · cases z2
        · cases z3
          · exact Or.inr (Or.inr (Or.inr ⟨rfl, rfl, rfl, hs rfl rfl rfl⟩))
          · exact Or.inr (Or.inr (Or.inl ⟨rfl, rfl, rfl, hn (Or.inr (Or.inr rfl))⟩))
        · exact Or.inr (Or.inl ⟨rfl, rfl, hn (Or.inr (Or.inl rfl))⟩)
      · exact Or.inl ⟨rfl, hn (Or.inl rfl)⟩
    clear hn hs
    rcases hcase with ⟨rfl, rfl⟩ | ⟨rfl, rfl, rfl⟩ | ⟨rfl, rfl, rfl, rfl⟩ | ⟨rfl, rfl, rfl, n, hfi, rfl⟩
    rotate_right
    · have hcv := fun W => run_convert_float_int (P := Try.prog) W 29 2 .f64 .i64 b n (by rw [Try.underlying29]; rfl) Try.underlying2 hfi
      clear hfi
      go_enter Try.func26, Try.ntmps26
      go_wp2_with fail
      refine (HF.out _).mono ?_
      rintro r w1 ⟨rfl, hb1⟩
      have hb0 : Below w.heap.size w w1 := (up1 _).trans (hb1.mono (by simp))
      clear hb1
      go_wp2_with fail
      refine (HT.out _).mono ?_
      rintro r w2 ⟨rfl, rfl⟩
      go_wp2_with fail
      go_ret2
      exact ⟨rfl, hb0⟩
    all_goals
      go_enter Try.func26, Try.ntmps26
      go_wp2_with fail
      refine (HF.out _).mono ?_
      rintro r w1 ⟨rfl, hb1⟩
      have hb0 : Below w.heap.size w w1 := (up1 _).trans (hb1.mono (by simp))
      clear hb1
      go_wp2_with fail
      refine (HT.out _).mono ?_
      rintro r w2 ⟨rfl, rfl⟩
      go_wp2_with fail
      go_ret2
      exact ⟨rfl, hb0⟩
  · rw [if_neg hf] at hF
    have ho : out = (0, false) := by
      rw [hW]
      by_cases hr : rr = true
      · rw [if_pos hr, if_neg hk, if_neg (fun h => hf ⟨hr, h⟩)]
      · rw [if_neg hr]
    subst ho
    have HF := Lib.hid hF; clear hF hcb hW hf hk
    go_enter Try.func26, Try.ntmps26
    go_wp2_with fail
    refine (HF.out _).mono ?_
    rintro r w1 ⟨rfl, hb1⟩
    have hb0 : Below w.heap.size w w1 := (up1 _).trans (hb1.mono (by simp))
    clear hb1
    go_wp2_with fail
    go_ret2
    exact ⟨rfl, hb0⟩
end Go.Proofs.Ytmjfgnaecokhcaa
