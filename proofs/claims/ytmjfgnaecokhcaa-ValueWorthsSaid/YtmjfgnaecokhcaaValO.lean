/-
  The contract of the statements' own worth.
-/
import Derived.Test.YtmjfgnaecokhcaaValN
namespace Go.Proofs.Ytmjfgnaecokhcaa
open Go.RowKit
set_option linter.unusedVariables false

theorem wrap_of {q : Nat} (h : q < 9223372036854775808) : wrap64 (q : Int) = (q : Int) := by unfold wrap64; omega
theorem wrap_neg_of {q : Nat} (h : q < 9223372036854775808) : wrap64 (-(q : Int)) = -(q : Int) := by unfold wrap64; omega
theorem wrap_sub {E k : Nat} (h : k = 1075 - E) (hE : E < 1075) : wrap64 (1075 - (E : Int)) = (k : Int) := by unfold wrap64; omega
theorem wrap_sub' {E j : Nat} (h : j = E - 1075) (hE : ¬ E < 1075) (h2 : E < 2048) : wrap64 ((E : Int) - 1075) = (j : Int) := by unfold wrap64; omega
theorem shl_of {m j q : Nat} (h : q = m * 2 ^ j) (hq : q < 9223372036854775808) : IntKind.u64.wrap ((m : Int) * 2 ^ j) = (q : Int) := by
  rw [IntKind.wrap_u64]
  have e : (m : Int) * 2 ^ j = ((m * 2 ^ j : Nat) : Int) := by simp
  rw [e, ← h]; omega
theorem shr_of (m k : Nat) : (m : Int) / 2 ^ k = ((m / 2 ^ k : Nat) : Int) := by simp
theorem shrl_of {m k q l : Nat} (hm : m < 9007199254740992) (hq : q = m / 2 ^ k) (hl : l = q * 2 ^ k) : IntKind.u64.wrap ((q : Int) * 2 ^ k) = (l : Int) := by
  rw [IntKind.wrap_u64]
  have hle := Nat.div_mul_le_self m (2 ^ k)
  have e : (q : Int) * 2 ^ k = ((q * 2 ^ k : Nat) : Int) := by simp
  rw [e, ← hl]
  rw [← hq, ← hl] at hle
  omega
theorem low_eq {m k q l : Nat} (hq : q = m / 2 ^ k) (hl : l = q * 2 ^ k) (h : m % 2 ^ k = 0) : ((l : Int) == (m : Int)) = true := by
  have hdm := Nat.div_add_mod m (2 ^ k)
  rw [h, Nat.mul_comm, ← hq, ← hl] at hdm
  rw [beq_iff_eq]; omega
theorem low_ne {m k q l : Nat} (hq : q = m / 2 ^ k) (hl : l = q * 2 ^ k) (h : m % 2 ^ k ≠ 0) : ((l : Int) == (m : Int)) = false := by
  have hdm := Nat.div_add_mod m (2 ^ k)
  rw [Nat.mul_comm, ← hq, ← hl] at hdm
  rw [beq_eq_false_iff_ne]; omega

set_option maxRecDepth 100000 in
set_option maxHeartbeats 200000 in
theorem lworth_any (b : Nat) (hb : b < 18446744073709551616) (w : World) :
    Calls Try.prog 27 #[.int .u64 (b : Int)] w fun e w' => e = .returned (.tuple #[.int .i64 (Flt.wh b).1, .bool (Flt.wh b).2]) ∧ w = w' := by
  have hW : Flt.wh b = if b % 9223372036854775808 = 0 then (0, true)
  else if b = 14114281232179134464 then (-9223372036854775808, true)
  else if Flt.ex b < 1023 ∨ 1085 < Flt.ex b then (0, false)
  else if Flt.ex b < 1075 ∧ Flt.mag b % 2 ^ (1075 - Flt.ex b) ≠ 0 then (0, false)
  else (if Flt.neg b then -(Flt.whole b : Int) else (Flt.whole b : Int), true) := rfl
  have hWW : Flt.whole b = if Flt.ex b < 1075 then Flt.mag b / 2 ^ (1075 - Flt.ex b) else Flt.mag b * 2 ^ (Flt.ex b - 1075) := rfl
  have hwl := Flt.whole_lt b
  have hsh : (IntKind.u64.wrap ((b : Int) * 2) == 0) = decide (b % 9223372036854775808 = 0) := by
    rw [IntKind.wrap_u64, Bool.eq_iff_iff, beq_iff_eq, decide_eq_true_iff]; omega
  have he : bits .and .u64 ((b : Int) / 4503599627370496) 2047 = (Flt.ex b : Int) := by
    have h := and_2047 (b / 4503599627370496) (by omega)
    have e1 : ((b / 4503599627370496 : Nat) : Int) = (b : Int) / 4503599627370496 := by omega
    have e2 : b / 4503599627370496 % 2048 = Flt.ex b := by unfold Flt.ex; omega
    rw [e1, e2] at h
    exact h
  have hm : bits .or .u64 (bits .and .u64 (b : Int) 4503599627370495) 4503599627370496 = (Flt.mag b : Int) := by
    rw [and_frac b hb]
    exact or_one _ (Flt.fr_lt b)
  have hfl := Flt.fr_lt b
  have hml : Flt.mag b < 9007199254740992 := by unfold Flt.mag; omega
  have hexl : Flt.ex b < 2048 := by unfold Flt.ex; omega
  have hng : (Flt.neg b = true ∧ (b : Int) / 9223372036854775808 = 1) ∨ (Flt.neg b = false ∧ (b : Int) / 9223372036854775808 = 0) := by
    unfold Flt.neg
    by_cases h : 9223372036854775808 ≤ b
    · left; exact ⟨by rw [beq_iff_eq]; omega, by omega⟩
    · right; exact ⟨by rw [beq_eq_false_iff_ne]; omega, by omega⟩
  generalize Flt.wh b = out at hW ⊢
  generalize Flt.whole b = wl at hW hWW hwl
  generalize Flt.ex b = E at *
  generalize Flt.mag b = m at *
  generalize Flt.neg b = ng at *
  clear hfl
  have hwr : wrap64 (E : Int) = (E : Int) := wrap_of (by omega)
  have HF := Lib.hid (And.intro he (And.intro hm (And.intro hsh hwr))); clear he hm hsh hwr
  have HN := Lib.hid hng; clear hng
  have HL := Lib.hid (And.intro hwl hWW); clear hwl hWW
  by_cases h0 : b % 9223372036854775808 = 0
  · rw [if_pos h0] at hW
    subst hW
    have hsh := HF.out.2.2.1
    rw [decide_eq_true h0] at hsh
    go_enter Try.func27, Try.ntmps27
    go_wp2_with fail
    go_ret2
    exact ⟨rfl, rfl⟩
  rw [if_neg h0] at hW
  by_cases hl : b = 14114281232179134464
  · rw [if_pos hl] at hW
    subst hW
    have hlb : ((b : Int) == 14114281232179134464) = true := by rw [beq_iff_eq]; omega
    have hsh := HF.out.2.2.1
    rw [decide_eq_false h0] at hsh
    have he := HF.out.1
    have hwr := HF.out.2.2.2
    go_enter Try.func27, Try.ntmps27
    go_wp2_with fail
    go_ret2
    exact ⟨rfl, rfl⟩
  rw [if_neg hl] at hW
  have hlb : ((b : Int) == 14114281232179134464) = false := by rw [beq_eq_false_iff_ne]; omega
  have hb0 : ((b : Int) * 2 == 0) = false := by rw [beq_eq_false_iff_ne]; omega
  by_cases h1 : E < 1023 ∨ 1085 < E
  · rw [if_pos h1] at hW
    subst hW
    rcases h1 with h1 | h1
    · have g1 : (E : Int) < 1023 := by omega
      have hsh := HF.out.2.2.1
      rw [decide_eq_false h0] at hsh
      have he := HF.out.1
      have hm := HF.out.2.1
      have hwr := HF.out.2.2.2
      go_enter Try.func27, Try.ntmps27
      go_wp2_with fail
      go_ret2
      exact ⟨rfl, rfl⟩
    · have g1 : ¬ (E : Int) < 1023 := by omega
      have g2 : (1085 : Int) < (E : Int) := by omega
      have hsh := HF.out.2.2.1
      rw [decide_eq_false h0] at hsh
      have he := HF.out.1
      have hm := HF.out.2.1
      have hwr := HF.out.2.2.2
      go_enter Try.func27, Try.ntmps27
      go_wp2_with fail
      go_ret2
      exact ⟨rfl, rfl⟩
  rw [if_neg h1] at hW
  have g1 : ¬ (E : Int) < 1023 := by omega
  have g2 : ¬ (1085 : Int) < (E : Int) := by omega
  have hwl2 := HL.out.1 (by omega)
  by_cases h2 : E < 1075
  · have g3 : (E : Int) < 1075 := by omega
    obtain ⟨k, hk⟩ : ∃ k, k = 1075 - E := ⟨_, rfl⟩
    have hki : (1075 : Int) - (E : Int) = (k : Int) := by omega
    have hk0 : (0 : Int) ≤ (k : Int) := by omega
    have hk1 : (k : Int) ≤ 64 := by omega
    have hWW := HL.out.2
    rw [if_pos h2, ← hk] at hWW
    rw [← hk] at hW
    obtain ⟨l, hll⟩ : ∃ l, l = wl * 2 ^ k := ⟨_, rfl⟩
    have hs1 := shr_of m k
    rw [← hWW] at hs1
    have hs2 := shrl_of hml hWW hll
    have hwk := wrap_sub hk h2
    have hwq := wrap_of hwl2
    have hwn := wrap_neg_of hwl2
    have hsh := HF.out.2.2.1
    rw [decide_eq_false h0] at hsh
    have he := HF.out.1
    have hm := HF.out.2.1
    have hwr := HF.out.2.2.2
    have HS := Lib.hid (And.intro hs1 (And.intro hs2 (And.intro hwk (And.intro hwq hwn))))
    clear hs1 hs2 hwk hwq hwn
    by_cases hr0 : m % 2 ^ k = 0
    · have HLM := Lib.hid (low_eq hWW hll hr0)
      rw [if_neg (fun h => h.2 hr0)] at hW
      have HW := Lib.hid hW
      clear hW hr0 hll hWW hk h1 h2 h0 hl
      rcases HN.out with ⟨rfl, hs⟩ | ⟨rfl, hs⟩
      all_goals
        clear HN
        go_enter Try.func27, Try.ntmps27
        go_upto_region 10 with (fail)
        clear he hm hsh hb0 hwr hlb g1 g2 g3
        go_upto_region 11 with (fail)
        rw [HS.out.1, HS.out.2.1]
        have hlm := HLM.out
        go_upto_region 13 with (fail)
        clear hlm
        go_upto_region 15 with (fail)
        rw [HS.out.1]
        clear hki
        go_wp2_with fail
        go_ret2
        refine ⟨?_, rfl⟩
        rw [HW.out]
        first | rfl | (simp only [if_true, Bool.false_eq_true, if_false]; first | rfl | (show Ending.returned (.tuple #[.int .i64 (wrap64 _), .bool true]) = _; rw [HS.out.2.2.2.1]))
    · have HLM := Lib.hid (low_ne hWW hll hr0)
      rw [if_pos ⟨h2, hr0⟩] at hW
      have HW := Lib.hid hW
      clear hW hr0 hll hWW hk h1 h2 h0 hl HN
      go_enter Try.func27, Try.ntmps27
      go_upto_region 10 with (fail)
      clear he hm hsh hb0 hwr hlb g1 g2 g3
      go_upto_region 11 with (fail)
      rw [HS.out.1, HS.out.2.1]
      have hlm := HLM.out
      clear hki
      go_wp2_with fail
      go_ret2
      exact ⟨by rw [HW.out]; rfl, rfl⟩
  · have g3 : ¬ (E : Int) < 1075 := by omega
    obtain ⟨j, hj⟩ : ∃ j, j = E - 1075 := ⟨_, rfl⟩
    have hji : (E : Int) - 1075 = (j : Int) := by omega
    have hj0 : (0 : Int) ≤ (j : Int) := by omega
    have hj1 : (j : Int) ≤ 64 := by omega
    have hWW := HL.out.2
    rw [if_neg h2, ← hj] at hWW
    rw [if_neg (fun h => h2 h.1)] at hW
    have HS := Lib.hid (And.intro (shl_of hWW hwl2) (And.intro (wrap_of hwl2) (wrap_neg_of hwl2)))
    have hsh := HF.out.2.2.1
    rw [decide_eq_false h0] at hsh
    have he := HF.out.1
    have hm := HF.out.2.1
    have hwr := HF.out.2.2.2
    have HW := Lib.hid hW
    clear hW hWW hj h1 h2 h0 hl
    rcases HN.out with ⟨rfl, hs⟩ | ⟨rfl, hs⟩
    all_goals
      clear HN
      go_enter Try.func27, Try.ntmps27
      go_upto_region 15 with (fail)
      rw [HS.out.1]
      clear he hm hsh hb0 hwr hlb g1 g2 g3 hji
      go_wp2_with fail
      go_ret2
      refine ⟨?_, rfl⟩
      rw [HW.out]
      first | rfl | (simp only [if_true, Bool.false_eq_true, if_false]; first | rfl | (show Ending.returned (.tuple #[.int .i64 (wrap64 _), .bool true]) = _; rw [HS.out.2.1]))
end Go.Proofs.Ytmjfgnaecokhcaa
