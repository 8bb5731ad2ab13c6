/-
  A round of the reference's block, on words kept in ints: plain. No program stands here.
-/
import Derived.Test.YtbfomeifhmkpeaaDoorRefWordsSpec
namespace Go.Proofs.YtbfomeifhmkpeaaDoor
open Go.RowKit
set_option linter.unusedVariables false
theorem v_x (x : UInt32) (i j k : Nat) : bits .xor .i64 (bits .xor .i64 ((rotr x i).toNat : Int) ((rotr x j).toNat : Int)) ((rotr x k).toNat : Int) = ((rotr x i ^^^ rotr x j ^^^ rotr x k).toNat : Int) := by
  rw [v_xor, v_xor]
theorem v_f (e f g : UInt32) : bits .xor .i64 (bits .and .i64 (e.toNat : Int) (f.toNat : Int)) (bits .and .i64 (4294967295 - (e.toNat : Int)) (g.toNat : Int)) = ((e &&& f ^^^ ~~~ e &&& g).toNat : Int) := by
  rw [v_not, v_and, v_and, v_xor]
theorem v_g (a b c : UInt32) : bits .xor .i64 (bits .xor .i64 (bits .and .i64 (a.toNat : Int) (b.toNat : Int)) (bits .and .i64 (a.toNat : Int) (c.toNat : Int))) (bits .and .i64 (b.toNat : Int) (c.toNat : Int)) = ((a &&& b ^^^ a &&& c ^^^ b &&& c).toNat : Int) := by
  rw [v_and, v_and, v_and, v_xor, v_xor]
/-- The new first word, and the new fifth. -/
theorem v_first (h x f k w y g : UInt32) : ((h.toNat : Int) + (x.toNat : Int) + (f.toNat : Int) + (k.toNat : Int) + (w.toNat : Int) + (y.toNat : Int) + (g.toNat : Int)) % 4294967296 = ((h + x + f + k + w + (y + g)).toNat : Int) := by
  simp only [UInt32.toNat_add]
  omega
theorem v_fifth (d h x f k w : UInt32) : ((d.toNat : Int) + ((h.toNat : Int) + (x.toNat : Int) + (f.toNat : Int) + (k.toNat : Int) + (w.toNat : Int))) % 4294967296 = ((d + (h + x + f + k + w)).toNat : Int) := by
  simp only [UInt32.toNat_add]
  omega
theorem v_sum (a b : UInt32) : ((a.toNat : Int) + (b.toNat : Int)) % 4294967296 = ((a + b).toNat : Int) := by
  simp only [UInt32.toNat_add]
  omega
end Go.Proofs.YtbfomeifhmkpeaaDoor
