/-
  A paper, plain: its words, its fields, its order, its bytes. No program stands here.
-/
import Derived.Test.YtfppobnfajkmmaaValSpec
import Derived.Test.YtfppobnfajkmmaaStab
namespace Go.Proofs.Ytfppobnfajkmmaa
open Go.RowKit
set_option linter.unusedVariables false

/-- A field: its name, its value. -/
structure Fld where
  name : List UInt8
  val : Val
deriving DecidableEq
instance : Inhabited Fld := ⟨⟨[], ⟨0, false, 0, 0, []⟩⟩⟩

namespace Fld
def ok (x : Fld) : Prop := x.val.ok
def cs (x : Fld) : List Value := [.string (S x.name), .int .i64 x.val.kind, .bool x.val.flag, .int .i64 x.val.int, .int .u64 (x.val.bits : Int), .string (S x.val.text)]
def v (x : Fld) : Value := .agg x.cs.toArray
def clean (x : Fld) : Fld := ⟨x.name, x.val.clean⟩
theorem cs_len (x : Fld) : x.cs.length = 6 := rfl
theorem cs_one (x : Fld) : ∀ u ∈ x.cs, u.oneCell' = true := by
  intro u hu
  simp only [cs, List.mem_cons, List.not_mem_nil, or_false] at hu
  rcases hu with rfl | rfl | rfl | rfl | rfl | rfl <;> rfl
end Fld

namespace Pap
/-- A sign of a word. -/
def wch (c : UInt8) : Bool := decide ((97 ≤ c.toNat ∧ c.toNat ≤ 122) ∨ (65 ≤ c.toNat ∧ c.toNat ≤ 90) ∨ (48 ≤ c.toNat ∧ c.toNat ≤ 57) ∨ c.toNat = 45 ∨ c.toNat = 95 ∨ c.toNat = 46)
def word (most : Nat) (s : List UInt8) : Bool := decide (0 < s.length ∧ s.length ≤ most) && s.all wch
theorem word_len {most : Nat} {s : List UInt8} (h : word most s = true) : 0 < s.length ∧ s.length ≤ most := by
  unfold word at h
  rw [Bool.and_eq_true] at h
  exact of_decide_eq_true h.1
end Pap
end Go.Proofs.Ytfppobnfajkmmaa
