/-
  Words, plain. No program stands here.
-/
import Derived.Test.YtfcmkbeilpclmaaMem
namespace Go.Proofs.Ytfcmkbeilpclmaa
set_option linter.unusedVariables false

namespace Pap
/-- A sign of a word. -/
def wch (c : UInt8) : Bool := decide ((97 ≤ c.toNat ∧ c.toNat ≤ 122) ∨ (65 ≤ c.toNat ∧ c.toNat ≤ 90) ∨ (48 ≤ c.toNat ∧ c.toNat ≤ 57) ∨ c.toNat = 45 ∨ c.toNat = 95 ∨ c.toNat = 46)
def word (most : Nat) (s : List UInt8) : Bool := decide (0 < s.length ∧ s.length ≤ most) && s.all wch
theorem word_len {most : Nat} {s : List UInt8} (h : word most s = true) : 0 < s.length ∧ s.length ≤ most := by
  unfold word at h
  rw [Bool.and_eq_true] at h
  exact of_decide_eq_true h.1
end Pap
end Go.Proofs.Ytfcmkbeilpclmaa
