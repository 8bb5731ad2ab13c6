/-
  The contracts of value's word, and of the statements' own number and eight.
-/
import Derived.Test.YtfcmkbeilpclmaaValE
namespace Go.Proofs.Ytfcmkbeilpclmaa
open Go.RowKit
set_option linter.unusedVariables false

/-- The last k of a word's eight bytes. -/
def oct : Nat → Nat → List UInt8
  | 0, _ => []
  | k + 1, n => UInt8.ofNat (n / 256 ^ k % 256) :: oct k n
theorem oct_len (k n : Nat) : (oct k n).length = k := by
  induction k with
  | zero => rfl
  | succ k ih => simp [oct, ih]

theorem bcells_set (k : Nat) (hk : k < 8) (c : UInt8) (l : List UInt8) (h : l.length = k) :
    (bcells (List.replicate (8 - k) 0 ++ l)).set (7 - k) (.int .u8 (c.toNat : Int)) = bcells (List.replicate (8 - (k + 1)) 0 ++ c :: l) := by
  have e : 8 - k = (8 - (k + 1)) + 1 := by omega
  have e2 : 7 - k = 8 - (k + 1) := by omega
  rw [e, e2, List.replicate_succ']
  simp only [bcells, List.map_append, List.append_assoc]
  rw [List.set_append_right _ _ (by simp)]
  simp

end Go.Proofs.Ytfcmkbeilpclmaa
