/-
  The contract of value's Bytes.
-/
import Derived.Test.YtfcmkbeilpclmaaValF
import Derived.Test.YtfcmkbeilpclmaaWriteAll
namespace Go.Proofs.Ytfcmkbeilpclmaa
open Go.RowKit
set_option linter.unusedVariables false

/-- An integer as a word. -/
def w64 (i : Int) : Nat := (i % 18446744073709551616).toNat
/-- What follows a value's kind. -/
def Val.body (x : Val) : List UInt8 :=
  if x.kind = 1 then [if x.flag then 1 else 0]
  else if x.kind = 2 then oct 8 (w64 x.int)
  else if x.kind = 3 then oct 8 x.bits
  else if x.kind = 4 then M.encL x.text.length ++ x.text
  else []
/-- A value's bytes. -/
def Val.enc (x : Val) : List UInt8 := M.encL x.kind ++ x.body

theorem Val.right_le {x : Val} (h : x.right = true) : 0 ≤ x.kind ∧ x.kind ≤ 4 ∧ x.text.length ≤ 200 ∧ x = x.clean := by
  unfold Val.right at h
  exact of_decide_eq_true h

theorem encL_ne {k : Int} (h0 : 0 ≤ k) (h4 : k ≤ 4) : M.encL k ≠ [] := by
  unfold M.encL
  rw [if_pos ⟨h0, by omega⟩]
  simp
theorem encL_nat {n : Nat} (h : n ≤ 200) : ¬ M.encL (n : Int) = [] := by
  unfold M.encL
  rw [if_pos ⟨by omega, by omega⟩]
  simp
theorem num_good {k : Int} (h0 : 0 ≤ k) (h4 : k ≤ 4) : (Wt.num k ([], false)).2 = false := by
  rw [Wt.bad_num]; simp [encL_ne h0 h4]
theorem flat_num0 (k : Int) : Wt.flat (Wt.num k ([], false)) = M.encL k := by
  rw [Wt.flat_num]; rfl

end Go.Proofs.Ytfcmkbeilpclmaa
