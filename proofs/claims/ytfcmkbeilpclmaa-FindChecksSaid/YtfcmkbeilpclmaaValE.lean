/-
  The contracts of value's Of and Float; the bits of floats.
-/
import Derived.Test.YtfcmkbeilpclmaaValD
import Derived.Laws.Externs
namespace Go.Proofs.Ytfcmkbeilpclmaa
open Go.RowKit
set_option linter.unusedVariables false

/-- A value stored into a value's block. -/
def stored (w : World) (g : Nat) (k : Int) (f : Bool) (i : Int) (b : Nat) (t : List UInt8) : World :=
  ((((w.setCell ⟨g, 0, none⟩ (.int .i64 k)).setCell ⟨g, 1, none⟩ (.bool f)).setCell ⟨g, 2, none⟩ (.int .i64 i)).setCell ⟨g, 3, none⟩ (.int .u64 (b : Int))).setCell ⟨g, 4, none⟩ (.string (S t))
theorem Has.stored {w : World} {g : Nat} {k : Int} {f : Bool} {i : Int} {b : Nat} {t : List UInt8} (h : Has w g 35 (vcs k f i b t)) (k' : Int) (f' : Bool) (i' : Int) (b' : Nat) (t' : List UInt8) :
    Has (stored w g k' f' i' b' t') g 35 (vcs k' f' i' b' t') := by
  have := ((((h.set 0 (.int .i64 k')).set 1 (.bool f')).set 2 (.int .i64 i')).set 3 (.int .u64 (b' : Int))).set 4 (.string (S t'))
  simp at this
  exact this
theorem stored_only (w : World) (g : Nat) (k : Int) (f : Bool) (i : Int) (b : Nat) (t : List UInt8) : Only w (stored w g k f i b t) g :=
  ((((Only.set _ g 0 _).trans (Only.set _ g 1 _)).trans (Only.set _ g 2 _)).trans (Only.set _ g 3 _)).trans (Only.set _ g 4 _)

/-- A float's value. -/
def Val.of (b : Nat) : Val := ⟨3, false, 0, Val.cbits b, []⟩

theorem okw {b : Nat} (hb : b < 18446744073709551616) : (⟨3, false, 0, b, []⟩ : Val).ok := ⟨hb, by simp, by simp⟩

end Go.Proofs.Ytfcmkbeilpclmaa
