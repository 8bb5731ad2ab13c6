/-
  The contracts of value's Worth and Whole, and of the statements' own worth.
-/
import Derived.Test.YtfcmkbeilpclmaaValH
import Derived.Test.YtfcmkbeilpclmaaFltM
import Derived.WalkLawsBesides
namespace Go.Proofs.Ytfcmkbeilpclmaa
open Go.RowKit
set_option linter.unusedVariables false
open Ieee (Datum)

theorem archTrunc_num (b : Nat) (W : World) : (callFunc 63 #[.float .f64 b]).run Try.prog W = ((Extern.MathFloor.toIntegral "math.archTrunc" .zero #[.float .f64 b]).run Try.prog W).andThen fun v w' => .ok (.value v) w' :=
  run_callFunc_extern (e := Extern.MathFloor.toIntegral "math.archTrunc" .zero) Try.func63 (by kernel_rfl) (by kernel_rfl) (by kernel_rfl) (by kernel_rfl) _ W
theorem integ_num {b : Nat} {s : Bool} {m : Nat} {i : Int} (h : FloatKind.f64.decode b = .number s m i) : Extern.MathFloor.toIntegral "math.archTrunc" .zero #[.float .f64 b] = pure (.float .f64 (FloatKind.f64.encode ((FloatKind.f64.decode b).integral .zero))) := by
  change (match FloatKind.f64.decode b with | .nan s t => _ | d => (pure (Value.float .f64 (FloatKind.f64.encode (d.integral .zero))) : Sem Value)) = _
  rw [h]
theorem integ_inf {b : Nat} {s : Bool} (h : FloatKind.f64.decode b = .infinity s) : Extern.MathFloor.toIntegral "math.archTrunc" .zero #[.float .f64 b] = pure (.float .f64 (FloatKind.f64.encode ((FloatKind.f64.decode b).integral .zero))) := by
  change (match FloatKind.f64.decode b with | .nan s t => _ | d => (pure (Value.float .f64 (FloatKind.f64.encode (d.integral .zero))) : Sem Value)) = _
  rw [h]
theorem integ_nan : Extern.MathFloor.toIntegral "math.archTrunc" .zero #[.float .f64 9221120237041090561] = pure (.float .f64 9221120237041090561) := by
  kernel_rfl
theorem archTrunc_any (b : Nat) (hb : b < 18446744073709551616) (hc : Val.cbits b = b) (W : World) : (callFunc 63 #[.float .f64 b]).run Try.prog W = .ok (.value (.float .f64 (Flt.cutB b))) W := by
  rw [archTrunc_num]
  cases hn : Val.nan b
  · have hcut : Flt.cutB b = FloatKind.f64.encode ((FloatKind.f64.decode b).integral .zero) := by
      unfold Flt.cutB; rw [hn, if_neg (by decide)]; rfl
    rw [hcut]
    by_cases hi : b % 9223372036854775808 = 9218868437227405312
    · rw [integ_inf (Flt.read_inf b hi)]; rfl
    · rw [integ_num (Flt.read_fin b (Flt.ex_lt hn hi))]; rfl
  · have hbb := Flt.nan_bits hc hn
    subst hbb
    have hcut : Flt.cutB 9221120237041090561 = 9221120237041090561 := by
      unfold Flt.cutB; rw [hn, if_pos rfl]
    rw [hcut, integ_nan]
    rfl
theorem trunc_any (b : Nat) (hb : b < 18446744073709551616) (hc : Val.cbits b = b) (w : World) :
    Calls Try.prog 47 #[.float .f64 b] w fun e w' => e = .returned (.float .f64 (Flt.cutB b)) ∧ w = w' := by
  have hA := fun W => archTrunc_any b hb hc W
  generalize Flt.cutB b = t at hA ⊢
  go_enter Try.func47, Try.ntmps47
  go_wp2
  go_ret
  exact ⟨rfl, rfl⟩

/-- Equal as numbers. -/
def Val.worth (x y : Val) : Bool := x.right && decide (x.kind = 3) && (y.right && decide (y.kind = 3)) && (Flt.D.order x.bits y.bits == some .eq)

set_option maxRecDepth 100000 in
set_option maxHeartbeats 400000 in
theorem worth_any (x y : Val) (hx : x.ok) (hy : y.ok) (w : World) :
    Calls Try.prog 43 #[x.v, y.v] w fun e w' => e = .returned (.bool (Val.worth x y)) ∧ Below w.heap.size w w' := by
  have h1 := fun W => float_any x hx W
  have h2 := fun W => float_any y hy W
  have hW : Val.worth x y = (x.right && decide (x.kind = 3) && (y.right && decide (y.kind = 3)) && (Flt.D.order x.bits y.bits == some .eq)) := rfl
  generalize Val.worth x y = d at hW ⊢
  obtain ⟨k, f, i, b, t⟩ := x
  obtain ⟨k', f', i', b', t'⟩ := y
  simp only [] at hW
  rw [Val.v_eq k f i b t] at h1 ⊢
  rw [Val.v_eq k' f' i' b' t'] at h2 ⊢
  by_cases q1 : (Val.mk k f i b t).right = true ∧ k = 3
  · rw [if_pos q1] at h1
    by_cases q2 : (Val.mk k' f' i' b' t').right = true ∧ k' = 3
    · rw [if_pos q2] at h2
      rw [q1.1, q1.2, q2.1, q2.2] at hW
      simp only [decide_true, Bool.and_self, Bool.true_and] at hW
      have hO : (FloatKind.f64.format.order b b' == some .eq) = d := hW.symm
      clear q1 q2 hW hx hy
      have H1 := Lib.hid h1; clear h1
      have H2 := Lib.hid h2; clear h2
      go_enter Try.func43, Try.ntmps43
      go_wp2_with fail
      refine (H1.out _).mono ?_
      rintro r w1 ⟨rfl, hb1⟩
      have HB := (Has.made ((w.alloc (.cells (vcs k f i b t) 35))) 35 (vcs k' f' i' b' t')).below hb1 (by simp)
      have hb0 := (up2 (w := w) (.cells (vcs k f i b t) 35) (.cells (vcs k' f' i' b' t') 35)).trans (hb1.mono (by simp; omega))
      simp only [World.size_alloc] at HB
      have hx := lies HB
      clear hb1
      go_wp2_with fail
      refine (H2.out _).mono ?_
      rintro r w2 ⟨rfl, hb2⟩
      go_wp2_with fail
      go_ret
      exact ⟨rfl, hb0.trans (hb2.mono hb0.size)⟩
    · have hd : d = false := by
        rw [hW]
        have : (decide (k' = 3) && (Val.mk k' f' i' b' t').right) = false := by
          rw [Bool.eq_false_iff]; intro h; rw [Bool.and_eq_true, decide_eq_true_iff] at h; exact q2 ⟨h.2, h.1⟩
        cases hr : (Val.mk k' f' i' b' t').right <;> cases hk : decide (k' = 3) <;> simp [hr, hk] at this ⊢
      subst hd
      rw [if_neg q2] at h2
      clear q1 q2 hW hx hy
      have H1 := Lib.hid h1; clear h1
      have H2 := Lib.hid h2; clear h2
      go_enter Try.func43, Try.ntmps43
      go_wp2_with fail
      refine (H1.out _).mono ?_
      rintro r w1 ⟨rfl, hb1⟩
      have HB := (Has.made ((w.alloc (.cells (vcs k f i b t) 35))) 35 (vcs k' f' i' b' t')).below hb1 (by simp)
      have hb0 := (up2 (w := w) (.cells (vcs k f i b t) 35) (.cells (vcs k' f' i' b' t') 35)).trans (hb1.mono (by simp; omega))
      simp only [World.size_alloc] at HB
      have hx := lies HB
      clear hb1
      go_wp2_with fail
      refine (H2.out _).mono ?_
      rintro r w2 ⟨rfl, hb2⟩
      go_wp2_with fail
      go_ret
      exact ⟨rfl, hb0.trans (hb2.mono hb0.size)⟩
  · have hd : d = false := by
      rw [hW]
      cases hr : (Val.mk k f i b t).right
      · simp
      · have : decide (k = 3) = false := decide_eq_false fun e => q1 ⟨hr, e⟩
        rw [this]; simp
    subst hd
    rw [if_neg q1] at h1
    have h2' : ∀ W, ∃ v1 v2, Calls Try.prog 46 #[.agg (vcs k' f' i' b' t')] W fun r w' => r = .returned (.tuple #[.float .f64 v1, .bool v2]) ∧ Below W.heap.size W w' := fun W => by
      by_cases q2 : (Val.mk k' f' i' b' t').right = true ∧ k' = 3
      · exact ⟨_, _, by have := h2 W; rw [if_pos q2] at this; exact this⟩
      · exact ⟨_, _, by have := h2 W; rw [if_neg q2] at this; exact this⟩
    clear q1 hW hx hy h2
    have H1 := Lib.hid h1; clear h1
    have H2 := Lib.hid h2'; clear h2'
    go_enter Try.func43, Try.ntmps43
    go_wp2_with fail
    refine (H1.out _).mono ?_
    rintro r w1 ⟨rfl, hb1⟩
    have HB := (Has.made ((w.alloc (.cells (vcs k f i b t) 35))) 35 (vcs k' f' i' b' t')).below hb1 (by simp)
    have hb0 := (up2 (w := w) (.cells (vcs k f i b t) 35) (.cells (vcs k' f' i' b' t') 35)).trans (hb1.mono (by simp; omega))
    simp only [World.size_alloc] at HB
    have hx := lies HB
    clear hb1
    go_wp2_with fail
    obtain ⟨v1, v2, h2⟩ := H2.out w1
    refine h2.mono ?_
    rintro r w2 ⟨rfl, hb2⟩
    go_wp2_with fail
    go_ret
    exact ⟨rfl, hb0.trans (hb2.mono hb0.size)⟩

theorem and_2047 (x : Nat) (hx : x < 18446744073709551616) : bits .and .u64 (x : Int) 2047 = ((x % 2048 : Nat) : Int) := by
  have e1 : (BitVec.ofInt 64 (x : Int)).toNat = x := by
    rw [BitVec.ofInt_natCast, BitVec.toNat_ofNat]; exact Nat.mod_eq_of_lt (by omega)
  have e2 : (BitVec.ofInt 64 2047).toNat = 2 ^ 11 - 1 := by decide
  show IntKind.u64.wrap ((BitVec.ofInt 64 (x : Int) &&& BitVec.ofInt 64 2047).toNat : Int) = _
  rw [BitVec.toNat_and, e1, e2, Nat.and_two_pow_sub_one_eq_mod]
  show ((x % 2 ^ 11 : Nat) : Int) % 18446744073709551616 = _
  omega
theorem and_frac (x : Nat) (hx : x < 18446744073709551616) : bits .and .u64 (x : Int) 4503599627370495 = ((x % 4503599627370496 : Nat) : Int) := by
  have e1 : (BitVec.ofInt 64 (x : Int)).toNat = x := by
    rw [BitVec.ofInt_natCast, BitVec.toNat_ofNat]; exact Nat.mod_eq_of_lt (by omega)
  have e2 : (BitVec.ofInt 64 4503599627370495).toNat = 2 ^ 52 - 1 := by decide
  show IntKind.u64.wrap ((BitVec.ofInt 64 (x : Int) &&& BitVec.ofInt 64 4503599627370495).toNat : Int) = _
  rw [BitVec.toNat_and, e1, e2, Nat.and_two_pow_sub_one_eq_mod]
  show ((x % 2 ^ 52 : Nat) : Int) % 18446744073709551616 = _
  omega
theorem or_one (f : Nat) (hf : f < 4503599627370496) : bits .or .u64 (f : Int) 4503599627370496 = ((4503599627370496 + f : Nat) : Int) := by
  have e1 : (BitVec.ofInt 64 (f : Int)).toNat = f := by
    rw [BitVec.ofInt_natCast, BitVec.toNat_ofNat]; exact Nat.mod_eq_of_lt (by omega)
  have e2 : (BitVec.ofInt 64 4503599627370496).toNat = 2 ^ 52 := by decide
  have e3 : f ||| 2 ^ 52 = 2 ^ 52 + f := by
    have h := Nat.two_pow_add_eq_or_of_lt (i := 52) (b := f) (by simpa using hf) 1
    rw [Nat.mul_one] at h
    rw [Nat.or_comm, ← h]
  show IntKind.u64.wrap ((BitVec.ofInt 64 (f : Int) ||| BitVec.ofInt 64 4503599627370496).toNat : Int) = _
  rw [BitVec.toNat_or, e1, e2, e3]
  show ((2 ^ 52 + f : Nat) : Int) % 18446744073709551616 = _
  omega

end Go.Proofs.Ytfcmkbeilpclmaa
