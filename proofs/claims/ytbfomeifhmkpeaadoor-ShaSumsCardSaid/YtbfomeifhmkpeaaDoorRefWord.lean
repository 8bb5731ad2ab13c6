/-
  Words of 32 bits kept in ints: what the model's operations make of them. No program stands here.
-/
import Derived.Test.YtbfomeifhmkpeaaDoorMixSpec
namespace Go.Proofs.YtbfomeifhmkpeaaDoor
open Go.RowKit
set_option linter.unusedVariables false

theorem ofInt64 (a : Nat) (h : a < 9223372036854775808) : (BitVec.ofInt 64 (a : Int)).toNat = a := by
  rw [BitVec.ofInt_natCast, BitVec.toNat_ofNat]; exact Nat.mod_eq_of_lt (by omega)
theorem i64_and (a b : Nat) (ha : a < 9223372036854775808) (hb : b < 9223372036854775808) : bits .and .i64 (a : Int) (b : Int) = ((a &&& b : Nat) : Int) := by
  have hx : a &&& b < 2 ^ 63 := Nat.and_lt_two_pow _ (by omega)
  show IntKind.i64.wrap ((BitVec.ofInt 64 (a : Int) &&& BitVec.ofInt 64 (b : Int)).toNat : Int) = _
  rw [BitVec.toNat_and, ofInt64 a ha, ofInt64 b hb, IntKind.wrap_i64]
  omega
theorem i64_or (a b : Nat) (ha : a < 9223372036854775808) (hb : b < 9223372036854775808) : bits .or .i64 (a : Int) (b : Int) = ((a ||| b : Nat) : Int) := by
  have hx : a ||| b < 2 ^ 63 := Nat.or_lt_two_pow (by omega) (by omega)
  show IntKind.i64.wrap ((BitVec.ofInt 64 (a : Int) ||| BitVec.ofInt 64 (b : Int)).toNat : Int) = _
  rw [BitVec.toNat_or, ofInt64 a ha, ofInt64 b hb, IntKind.wrap_i64]
  omega
theorem i64_xor (a b : Nat) (ha : a < 9223372036854775808) (hb : b < 9223372036854775808) : bits .xor .i64 (a : Int) (b : Int) = ((a ^^^ b : Nat) : Int) := by
  have hx : a ^^^ b < 2 ^ 63 := Nat.xor_lt_two_pow (by omega) (by omega)
  show IntKind.i64.wrap ((BitVec.ofInt 64 (a : Int) ^^^ BitVec.ofInt 64 (b : Int)).toNat : Int) = _
  rw [BitVec.toNat_xor, ofInt64 a ha, ofInt64 b hb, IntKind.wrap_i64]
  omega
theorem w63 (x : UInt32) : x.toNat < 9223372036854775808 := Nat.lt_of_lt_of_le (w_lt x) (by decide)
theorem v_and (x y : UInt32) : bits .and .i64 (x.toNat : Int) (y.toNat : Int) = ((x &&& y).toNat : Int) := by
  rw [i64_and _ _ (w63 x) (w63 y), UInt32.toNat_and]
theorem v_xor (x y : UInt32) : bits .xor .i64 (x.toNat : Int) (y.toNat : Int) = ((x ^^^ y).toNat : Int) := by
  rw [i64_xor _ _ (w63 x) (w63 y), UInt32.toNat_xor]
theorem v_not (x : UInt32) : (4294967295 : Int) - (x.toNat : Int) = ((~~~ x).toNat : Int) := by
  rw [UInt32.toNat_not]
  have h := w_lt x
  have e : UInt32.size - 1 - x.toNat = 4294967295 - x.toNat := rfl
  rw [e]
  omega
/-- The reference's turn. -/
theorem v_turn (x : UInt32) (n : Nat) (h1 : 2 ≤ n) (h2 : n ≤ 32) : bits .and .i64 (bits .or .i64 ((x.toNat : Int) / 2 ^ n) ((x.toNat : Int) * 2 ^ (32 - n))) 4294967295 = ((rotr x n).toNat : Int) := by
  have hx := w_lt x
  have e1 : ((x.toNat : Int) / 2 ^ n) = ((x.toNat / 2 ^ n : Nat) : Int) := by simp
  have e2 : ((x.toNat : Int) * 2 ^ (32 - n)) = ((x.toNat * 2 ^ (32 - n) : Nat) : Int) := by simp
  have b1 : x.toNat / 2 ^ n < 4294967296 := Nat.lt_of_le_of_lt (Nat.div_le_self _ _) hx
  have b2 : x.toNat * 2 ^ (32 - n) < 9223372036854775808 := by
    have : 2 ^ (32 - n) ≤ 2 ^ 30 := Nat.pow_le_pow_right (by omega) (by omega)
    have h3 : x.toNat * 2 ^ (32 - n) ≤ x.toNat * 2 ^ 30 := Nat.mul_le_mul_left _ this
    omega
  have b3 : x.toNat / 2 ^ n ||| x.toNat * 2 ^ (32 - n) < 9223372036854775808 := Nat.or_lt_two_pow (n := 63) (by omega) b2
  rw [e1, e2, i64_or _ _ (by omega) b2, show (4294967295 : Int) = ((4294967295 : Nat) : Int) from rfl, i64_and _ _ b3 (by decide)]
  have e3 : (x.toNat / 2 ^ n ||| x.toNat * 2 ^ (32 - n)) &&& 4294967295 = x.toNat / 2 ^ n ||| x.toNat * 2 ^ (32 - n) % 4294967296 := by
    rw [Nat.and_or_distrib_right]
    have m1 : x.toNat / 2 ^ n &&& 4294967295 = x.toNat / 2 ^ n := by
      rw [Nat.and_two_pow_sub_one_eq_mod _ 32]; exact Nat.mod_eq_of_lt b1
    have m2 : x.toNat * 2 ^ (32 - n) &&& 4294967295 = x.toNat * 2 ^ (32 - n) % 4294967296 := Nat.and_two_pow_sub_one_eq_mod _ 32
    rw [m1, m2]
  rw [e3, rotr, w_ofNat]
  exact Nat.or_lt_two_pow (n := 32) b1 (Nat.mod_lt _ (by decide))
end Go.Proofs.YtbfomeifhmkpeaaDoor
