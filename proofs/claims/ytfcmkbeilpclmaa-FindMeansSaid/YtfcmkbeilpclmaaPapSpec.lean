/-
  A paper, plain: its words, its fields, its order, its bytes. No program stands here.
-/
import Derived.Test.YtfcmkbeilpclmaaPapWord
import Derived.Test.YtfcmkbeilpclmaaValSpec
import Derived.Test.YtfcmkbeilpclmaaStab
namespace Go.Proofs.Ytfcmkbeilpclmaa
open Go.RowKit
set_option linter.unusedVariables false

/-- A field: its name, its value. -/
structure Fld where
  name : List UInt8
  val : Val
deriving DecidableEq
instance : Inhabited Fld := ⟨⟨[], ⟨0, false, 0, 0, []⟩⟩⟩

namespace Fld
def ok (x : Fld) : Prop := x.val.ok
def cs (x : Fld) : List Value := [.string (S x.name), .int .i64 x.val.kind, .bool x.val.flag, .int .i64 x.val.int, .int .u64 (x.val.bits : Int), .string (S x.val.text)]
def v (x : Fld) : Value := .agg x.cs.toArray
def clean (x : Fld) : Fld := ⟨x.name, x.val.clean⟩
theorem cs_len (x : Fld) : x.cs.length = 6 := rfl
theorem cs_one (x : Fld) : ∀ u ∈ x.cs, u.oneCell' = true := by
  intro u hu
  simp only [cs, List.mem_cons, List.not_mem_nil, or_false] at hu
  rcases hu with rfl | rfl | rfl | rfl | rfl | rfl <;> rfl
end Fld

end Go.Proofs.Ytfcmkbeilpclmaa
