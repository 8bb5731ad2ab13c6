/-
  The contracts of octet's writer.
-/
import Derived.Test.YtfcmkbeilpclmaaWriteSpec
import Derived.Test.YtfcmkbeilpclmaaNum
namespace Go.Proofs.Ytfcmkbeilpclmaa
open Go.RowKit
set_option linter.unusedVariables false

theorem flat_take_le (l : List (List UInt8)) (k : Nat) (st : Wt.St) : (Wt.flat ((l.take k).foldl (fun st s => Wt.text s st) st)).length ≤ (Wt.flat st).length + (l.map fun s => s.length + 8).sum := by
  have key : ∀ (l : List (List UInt8)) (st : Wt.St), (Wt.flat (l.foldl (fun st s => Wt.text s st) st)).length ≤ (Wt.flat st).length + (l.map fun s => s.length + 8).sum := by
    intro l
    induction l with
    | nil => intro st; simp
    | cons s l ih =>
      intro st
      have h1 := ih (Wt.text s st)
      have h2 := M.encL_len s.length
      rw [Wt.flat_text, List.length_append, List.length_append] at h1
      rw [List.foldl_cons, List.map_cons, List.sum_cons]
      omega
  have h1 := key (l.take k) st
  have h2 : ((l.take k).map fun s => s.length + 8).sum ≤ (l.map fun s => s.length + 8).sum := by
    conv => rhs; rw [← List.take_append_drop k l]
    rw [List.map_append, List.sum_append]; omega
  omega

end Go.Proofs.Ytfcmkbeilpclmaa
