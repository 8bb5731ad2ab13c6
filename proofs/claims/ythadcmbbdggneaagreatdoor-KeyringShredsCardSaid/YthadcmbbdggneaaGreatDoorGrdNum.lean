/-
  Numbers as eight bytes, and bytes as a number, as the program's integers have them. No program stands here.
-/
import Derived.Test.YthadcmbbdggneaaGreatDoorGrdSpec
namespace Go.Proofs.YthadcmbbdggneaaGreatDoor
open Go.RowKit
set_option linter.unusedVariables false

namespace Grd
/-- A number modulo 2^64, as a signed one. -/
def W (n : Nat) : Int := IntKind.i64.wrap (n : Int)
/-- The last eight bytes of any integer. -/
def eightI (n : Int) : T := eight (n % 18446744073709551616).toNat
/-- The number that bytes make: only the last eight count. -/
def numI (l : T) : Int := W (num8 l)

theorem W_or (n c : Nat) (hc : c < 256) : bits .or .i64 (IntKind.i64.wrap (W n * 256)) (c : Int) = W (n * 256 + c) := by
  have e1 : (BitVec.ofInt 64 (IntKind.i64.wrap (W n * 256))).toNat = n % 72057594037927936 * 256 := by
    rw [BitVec.toNat_ofInt]
    unfold W
    rw [IntKind.wrap_i64, IntKind.wrap_i64]
    omega
  have e2 : (BitVec.ofInt 64 (c : Int)).toNat = c := by
    rw [BitVec.ofInt_natCast, BitVec.toNat_ofNat]; exact Nat.mod_eq_of_lt (by omega)
  show IntKind.i64.wrap ((BitVec.ofInt 64 (IntKind.i64.wrap (W n * 256)) ||| BitVec.ofInt 64 (c : Int)).toNat : Int) = _
  rw [BitVec.toNat_or, e1, e2]
  have e3 : n % 72057594037927936 * 256 ||| c = n % 72057594037927936 * 256 + c := by
    have := Nat.two_pow_add_eq_or_of_lt (i := 8) (b := c) (by omega) (n % 72057594037927936)
    rw [show n % 72057594037927936 * 256 = 2 ^ 8 * (n % 72057594037927936) by omega]; exact this.symm
  rw [e3]
  unfold W
  rw [IntKind.wrap_i64, IntKind.wrap_i64]
  omega
theorem num8_snoc (l : T) (c : UInt8) : num8 (l ++ [c]) = num8 l * 256 + c.toNat := by
  unfold num8
  rw [List.foldl_append]
  rfl
theorem fold_acc (b : T) : ∀ acc, b.foldl (fun a c => a * 256 + c.toNat) acc = acc * 256 ^ b.length + num8 b := by
  induction b with
  | nil => intro acc; simp [num8]
  | cons c r ih =>
    intro acc
    have h0 : num8 (c :: r) = (0 * 256 + c.toNat) * 256 ^ r.length + num8 r := ih (0 * 256 + c.toNat)
    rw [List.foldl_cons, ih, h0, List.length_cons, Nat.pow_succ, Nat.add_mul, Nat.zero_mul, Nat.zero_add, Nat.mul_assoc acc, Nat.mul_comm 256 (256 ^ r.length), Nat.add_assoc]
theorem num8_app (a b : T) : num8 (a ++ b) = num8 a * 256 ^ b.length + num8 b := by
  unfold num8
  rw [List.foldl_append]
  exact fold_acc b _
theorem W_zero : W 0 = 0 := rfl
theorem W_step (l : T) (c : UInt8) : bits .or .i64 (IntKind.i64.wrap (W (num8 l) * 256)) (c.toNat : Int) = W (num8 (l ++ [c])) := by
  rw [W_or _ _ (by have := c.toNat_lt; omega), num8_snoc]
/-- Only the last eight bytes count. -/
theorem numI_last (l : T) (k : Nat) (hk : k + 8 ≤ l.length) : numI (l.drop k) = numI l ∨ l.length - k ≠ 8 := by
  by_cases h : l.length - k = 8
  · left
    have e : num8 l = num8 (l.take k) * 256 ^ 8 + num8 (l.drop k) := by
      have h1 := num8_app (l.take k) (l.drop k)
      rw [List.take_append_drop, List.length_drop, h] at h1
      exact h1
    unfold numI W
    rw [e, IntKind.wrap_i64, IntKind.wrap_i64]
    omega
  · exact Or.inr h
theorem numI_nat {l : T} (h : num8 l < 9223372036854775808) : numI l = (num8 l : Int) := by
  unfold numI W
  rw [IntKind.wrap_i64]
  omega
theorem numI_eight (n : Int) (h1 : -9223372036854775808 ≤ n) (h2 : n < 9223372036854775808) : numI (eightI n) = n := by
  unfold numI W eightI
  rw [num8_eight _ (by omega), IntKind.wrap_i64]
  omega
theorem eightI_nat (n : Nat) (h : n < 18446744073709551616) : eightI (n : Int) = eight n := by
  unfold eightI
  congr 1
  omega
theorem eightI_len (n : Int) : (eightI n).length = 8 := rfl
theorem u8I (n : Int) : ((UInt8.ofNat (n % 18446744073709551616).toNat).toNat : Int) = n % 256 := by
  rw [u8_toNat]
  omega
/-- Byte i of the eight: n shifted to the right. -/
theorem eightI_at (n : Int) (i : Nat) (h : i < 8) : ((eightI n)[i]'(by rw [eightI_len]; exact h)).toNat = (n / 2 ^ (8 * (7 - i))) % 256 := by
  unfold eightI eight
  match i, h with
  | 0, _ => simp only [List.getElem_cons_zero, u8_toNat]; omega
  | 1, _ => simp only [List.getElem_cons_succ, List.getElem_cons_zero, u8_toNat]; omega
  | 2, _ => simp only [List.getElem_cons_succ, List.getElem_cons_zero, u8_toNat]; omega
  | 3, _ => simp only [List.getElem_cons_succ, List.getElem_cons_zero, u8_toNat]; omega
  | 4, _ => simp only [List.getElem_cons_succ, List.getElem_cons_zero, u8_toNat]; omega
  | 5, _ => simp only [List.getElem_cons_succ, List.getElem_cons_zero, u8_toNat]; omega
  | 6, _ => simp only [List.getElem_cons_succ, List.getElem_cons_zero, u8_toNat]; omega
  | 7, _ => simp only [List.getElem_cons_succ, List.getElem_cons_zero, u8_toNat]; omega
/-- The law's own: byte by byte from the last one. -/
theorem eightI_back (n : Int) (k : Nat) (h : k < 8) : UInt8.ofNat ((n / 2 ^ (8 * k)) % 256).toNat :: (eightI n).drop (8 - k) = (eightI n).drop (7 - k) := by
  unfold eightI eight
  match k, h with
  | 0, _ => simp only [List.drop_succ_cons, List.drop_zero]; congr 1; apply UInt8.toNat_inj.1; rw [u8_toNat, u8_toNat]; omega
  | 1, _ => simp only [List.drop_succ_cons, List.drop_zero]; congr 1; apply UInt8.toNat_inj.1; rw [u8_toNat, u8_toNat]; omega
  | 2, _ => simp only [List.drop_succ_cons, List.drop_zero]; congr 1; apply UInt8.toNat_inj.1; rw [u8_toNat, u8_toNat]; omega
  | 3, _ => simp only [List.drop_succ_cons, List.drop_zero]; congr 1; apply UInt8.toNat_inj.1; rw [u8_toNat, u8_toNat]; omega
  | 4, _ => simp only [List.drop_succ_cons, List.drop_zero]; congr 1; apply UInt8.toNat_inj.1; rw [u8_toNat, u8_toNat]; omega
  | 5, _ => simp only [List.drop_succ_cons, List.drop_zero]; congr 1; apply UInt8.toNat_inj.1; rw [u8_toNat, u8_toNat]; omega
  | 6, _ => simp only [List.drop_succ_cons, List.drop_zero]; congr 1; apply UInt8.toNat_inj.1; rw [u8_toNat, u8_toNat]; omega
  | 7, _ => simp only [List.drop_succ_cons, List.drop_zero]; congr 1; apply UInt8.toNat_inj.1; rw [u8_toNat, u8_toNat]; omega
end Grd
/-- All bytes are 0. -/
def isZ (l : List UInt8) : Bool := decide (l = List.replicate l.length 0)
end Go.Proofs.YthadcmbbdggneaaGreatDoor
