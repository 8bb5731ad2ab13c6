/-
  A value, plain: what it is made clean to, and which may be. No program stands here.
-/
import Derived.Test.YtfcmkbeilpclmaaBytes
namespace Go.Proofs.Ytfcmkbeilpclmaa
open Go.RowKit
set_option linter.unusedVariables false

/-- A value's five fields. -/
structure Val where
  kind : Int
  flag : Bool
  int : Int
  bits : Nat
  text : List UInt8
deriving DecidableEq

namespace Val
/-- Its bits are a word's. -/
def ok (x : Val) : Prop := x.bits < 18446744073709551616 ∧ (-9223372036854775808 ≤ x.int ∧ x.int < 9223372036854775808) ∧ (-9223372036854775808 ≤ x.kind ∧ x.kind < 9223372036854775808)
def v (x : Val) : Value := .agg #[.int .i64 x.kind, .bool x.flag, .int .i64 x.int, .int .u64 (x.bits : Int), .string (S x.text)]
def nan (b : Nat) : Bool := decide (9218868437227405312 < b % 9223372036854775808)
def cbits (b : Nat) : Nat := if nan b = true then 9221120237041090561 else b
def clean (x : Val) : Val :=
  if x.kind = 1 then ⟨1, x.flag, 0, 0, []⟩
  else if x.kind = 2 then ⟨2, false, x.int, 0, []⟩
  else if x.kind = 3 then ⟨3, false, 0, cbits x.bits, []⟩
  else if x.kind = 4 then ⟨4, false, 0, 0, x.text⟩
  else ⟨x.kind, false, 0, 0, []⟩
def right (x : Val) : Bool := decide (0 ≤ x.kind ∧ x.kind ≤ 4 ∧ x.text.length ≤ 200 ∧ x = clean x)

theorem v_inj {x y : Val} (h : x.v = y.v) : x = y := by
  obtain ⟨k, f, i, b, t⟩ := x
  obtain ⟨k', f', i', b', t'⟩ := y
  simp [v] at h
  obtain ⟨rfl, rfl, rfl, hb, ht⟩ := h
  have := S_inj ht
  subst this
  have : b = b' := by omega
  subst this
  rfl
end Val

theorem andnot_sign (b : Nat) (hb : b < 18446744073709551616) : bits .andNot .u64 (b : Int) 9223372036854775808 = ((b % 9223372036854775808 : Nat) : Int) := by
  have e1 : (BitVec.ofInt 64 (b : Int)).toNat = b := by
    rw [BitVec.ofInt_natCast, BitVec.toNat_ofNat]; exact Nat.mod_eq_of_lt (by omega)
  show IntKind.u64.wrap ((BitVec.ofInt 64 (b : Int) &&& ~~~ BitVec.ofInt 64 9223372036854775808).toNat : Int) = _
  have e2 : (~~~ BitVec.ofInt 64 9223372036854775808).toNat = 2 ^ 63 - 1 := by decide
  rw [BitVec.toNat_and, e1, e2, Nat.and_two_pow_sub_one_eq_mod]
  show ((b % 2 ^ 63 : Nat) : Int) % 18446744073709551616 = _
  omega
theorem or_sign (b : Nat) (hb : b < 9223372036854775808) : bits .or .u64 (b : Int) 9223372036854775808 = ((b + 9223372036854775808 : Nat) : Int) := by
  have e1 : (BitVec.ofInt 64 (b : Int)).toNat = b := by
    rw [BitVec.ofInt_natCast, BitVec.toNat_ofNat]; exact Nat.mod_eq_of_lt (by omega)
  show IntKind.u64.wrap ((BitVec.ofInt 64 (b : Int) ||| BitVec.ofInt 64 9223372036854775808).toNat : Int) = _
  have e2 : (BitVec.ofInt 64 9223372036854775808).toNat = 2 ^ 63 := by decide
  have e3 : b ||| 2 ^ 63 = b + 2 ^ 63 := by
    have h := Nat.two_pow_add_eq_or_of_lt (i := 63) (b := b) (by simpa using hb) 1
    rw [Nat.mul_one] at h
    rw [Nat.or_comm, ← h]; exact Nat.add_comm _ _
  rw [BitVec.toNat_or, e1, e2, e3]
  show ((b + 2 ^ 63 : Nat) : Int) % 18446744073709551616 = _
  omega
end Go.Proofs.Ytfcmkbeilpclmaa
