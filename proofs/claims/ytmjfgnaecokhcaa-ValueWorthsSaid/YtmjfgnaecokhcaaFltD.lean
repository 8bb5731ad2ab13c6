/-
  Which whole number a float is: as the program asks, and by its bits. No program stands here.
-/
import Derived.Test.YtmjfgnaecokhcaaFltC
namespace Go.Proofs.Ytmjfgnaecokhcaa
set_option linter.unusedVariables false
open Ieee

namespace Flt
/-- Cut towards zero, as bits. -/
def cutB (b : Nat) : Nat := if Val.nan b = true then b else D.write ((D.read b).integral .zero)
/-- The whole number that a float is. -/
def wh (b : Nat) : Int × Bool :=
  if b % 9223372036854775808 = 0 then (0, true)
  else if b = 14114281232179134464 then (-9223372036854775808, true)
  else if ex b < 1023 ∨ 1085 < ex b then (0, false)
  else if ex b < 1075 ∧ mag b % 2 ^ (1075 - ex b) ≠ 0 then (0, false)
  else (if neg b then -(whole b : Int) else (whole b : Int), true)

theorem wh_none (b : Nat) (hb : b < 18446744073709551616) (hc : Val.cbits b = b) (h : (D.order b (cutB b) != some .eq) = true ∨ (D.order b 14114281232179134464 == some .lt) = true ∨ (D.order b 4890909195324358656 == some .gt || D.order b 4890909195324358656 == some .eq) = true) :
    wh b = (0, false) := by
  unfold wh
  by_cases h0 : b % 9223372036854775808 = 0
  · exfalso
    have hbb : b = 0 ∨ b = 9223372036854775808 := by omega
    rcases hbb with rfl | rfl
    · revert h; decide
    · revert h; decide
  rw [if_neg h0]
  by_cases hl : b = 14114281232179134464
  · exfalso
    subst hl
    revert h; decide
  rw [if_neg hl]
  by_cases h1 : ex b < 1023 ∨ 1085 < ex b
  · rw [if_pos h1]
  rw [if_neg h1]
  by_cases h2 : ex b < 1075 ∧ mag b % 2 ^ (1075 - ex b) ≠ 0
  · rw [if_pos h2]
  exfalso
  have hn : Val.nan b = false := by
    refine Bool.eq_false_iff.2 fun hn => ?_
    rw [nan_bits hc hn] at h1
    revert h1; decide
  have ht : cutB b = b := by
    unfold cutB
    rw [hn, if_neg (by decide)]
    exact trunc_exact b hb (by omega) (by omega) (fun hlt => Decidable.byContradiction fun hne => h2 ⟨hlt, hne⟩)
  have ho := order_self b (by omega)
  have hlo := order_low b (by omega) (by omega)
  have hhi := order_high b (by omega) (by omega)
  have e1 : lowB = 14114281232179134464 := rfl
  have e2 : highB = 4890909195324358656 := rfl
  rw [e1] at hlo
  rw [e2] at hhi
  rw [ht, ho, hhi] at h
  rcases h with h | h | h
  · exact absurd h (by decide)
  · exact hlo (by simpa using h)
  · exact absurd h (by decide)

theorem wh_some (b : Nat) (hb : b < 18446744073709551616) (hc : Val.cbits b = b) (h1 : (D.order b (cutB b) != some .eq) = false) (h2 : (D.order b 14114281232179134464 == some .lt) = false)
    (h3 : (D.order b 4890909195324358656 == some .gt || D.order b 4890909195324358656 == some .eq) = false) : ∃ n, floatToIntVal .f64 b .i64 = some n ∧ wh b = (n, true) := by
  unfold wh
  by_cases h0 : b % 9223372036854775808 = 0
  · rw [if_pos h0]
    have hbb : b = 0 ∨ b = 9223372036854775808 := by omega
    rcases hbb with rfl | rfl
    · exact ⟨0, by decide, rfl⟩
    · exact ⟨0, by decide, rfl⟩
  rw [if_neg h0]
  by_cases hl : b = 14114281232179134464
  · rw [if_pos hl]
    subst hl
    exact ⟨_, by decide, rfl⟩
  rw [if_neg hl]
  have hn : Val.nan b = false := by
    refine Bool.eq_false_iff.2 fun hn => ?_
    rw [nan_bits hc hn] at h1
    revert h1; decide
  have hcut : cutB b = D.write ((D.read b).integral .zero) := by
    unfold cutB; rw [hn, if_neg (by decide)]
  by_cases hi : b % 9223372036854775808 = 9218868437227405312
  · exfalso
    have hbb : b = 9218868437227405312 ∨ b = 18442240474082181120 := by omega
    rcases hbb with rfl | rfl
    · revert h3; decide
    · revert h2; decide
  have hex := ex_lt hn hi
  by_cases g1 : ex b < 1023 ∨ 1085 < ex b
  · exfalso
    rcases g1 with g1 | g1
    · have := trunc_small b g1 h0
      rw [← hcut] at this
      revert h1
      simpa using this
    · rcases order_out b hb (by omega) hex hl with g | g | g
      · rw [show lowB = 14114281232179134464 from rfl] at g
        rw [g] at h2; exact absurd h2 (by decide)
      · rw [show highB = 4890909195324358656 from rfl] at g
        rw [g] at h3; exact absurd h3 (by decide)
      · rw [show highB = 4890909195324358656 from rfl] at g
        rw [g] at h3; exact absurd h3 (by decide)
  rw [if_neg g1]
  by_cases g2 : ex b < 1075 ∧ mag b % 2 ^ (1075 - ex b) ≠ 0
  · exfalso
    have := trunc_inexact b (by omega) g2.1 g2.2
    rw [← hcut] at this
    revert h1
    simpa using this
  rw [if_neg g2]
  exact ⟨_, to_int b (by omega) (by omega), rfl⟩
end Flt
end Go.Proofs.Ytmjfgnaecokhcaa
