/-
  The reference's words of a block are the schedule's: plain.
-/
import Derived.Test.YtbfomeifhmkpeaaDoorRefVals
namespace Go.Proofs.YtbfomeifhmkpeaaDoor
open Go.RowKit
set_option linter.unusedVariables false
/-- Four bytes as a word. -/
def w4 (b : List UInt8) (i : Nat) : UInt32 := sh8 (sh8 (sh8 (sh8 0 (b.getD (4 * i) 0)) (b.getD (4 * i + 1) 0)) (b.getD (4 * i + 2) 0)) (b.getD (4 * i + 3) 0)
theorem getD_set_eq (l : List UInt32) (i : Nat) (x : UInt32) (h : i < l.length) : (l.set i x).getD i 0 = x := by
  simp [List.getD, h]
theorem getD_set_ne (l : List UInt32) (i j : Nat) (x : UInt32) (h : i ≠ j) : (l.set i x).getD j 0 = l.getD j 0 := by
  simp [List.getD, List.getElem?_set_ne h]
theorem sch1_four (b : List UInt8) (i : Nat) (h : i < 16) (hz : (sch1 b (4 * i)).getD i 0 = 0) : sch1 b (4 * (i + 1)) = (sch1 b (4 * i)).set i (w4 b i) := by
  have hl := sch1_len b (4 * i)
  have e : 4 * (i + 1) = 4 * i + 1 + 1 + 1 + 1 := by omega
  have d0 : (4 * i) / 4 = i := by omega
  have d1 : (4 * i + 1) / 4 = i := by omega
  have d2 : (4 * i + 1 + 1) / 4 = i := by omega
  have d3 : (4 * i + 1 + 1 + 1) / 4 = i := by omega
  rw [e]
  simp only [sch1, d0, d1, d2, d3, hz]
  generalize sch1 b (4 * i) = l at hl
  have hi : i < l.length := by omega
  have hk : ∀ a : UInt32, (l.set i a).getD i 0 = a := fun a => getD_set_eq l i a hi
  simp only [List.set_set, hk]
  rfl
theorem sch1_zero (b : List UInt8) : ∀ i, i ≤ 16 → ∀ j, i ≤ j → (sch1 b (4 * i)).getD j 0 = 0
  | 0, _, j, _ => by
    simp only [Nat.mul_zero, sch1, List.getD_eq_getElem?_getD, List.getElem?_replicate]
    split <;> rfl
  | i + 1, hi, j, hj => by
    rw [sch1_four b i (by omega) (sch1_zero b i (by omega) i (Nat.le_refl _)), getD_set_ne _ _ _ _ (by omega)]
    exact sch1_zero b i (by omega) j (by omega)
theorem take_set_next (l : List UInt32) (i : Nat) (x : UInt32) (h : i < l.length) : (l.set i x).take (i + 1) = l.take i ++ [x] := by
  rw [List.take_succ_eq_append_getElem (by simpa using h), List.take_set_of_le (Nat.le_refl _), List.getElem_set_self]
/-- The words behind the first loop's i rounds. -/
theorem first_next (b : List UInt8) (i : Nat) (h : i < 16) : (sch1 b (4 * (i + 1))).take (i + 1) = (sch1 b (4 * i)).take i ++ [w4 b i] := by
  rw [sch1_four b i h (sch1_zero b i (by omega) i (Nat.le_refl _)), take_set_next _ _ _ (by rw [sch1_len]; omega)]
theorem then_next (b : List UInt8) (m : Nat) (h : m < 48) : (sch2 b (m + 1)).take (m + 16 + 1) = (sch2 b m).take (m + 16) ++ [nextw (sch2 b m) m] := by
  show ((sch2 b m).set (m + 16) (nextw (sch2 b m) m)).take (m + 16 + 1) = _
  rw [take_set_next _ _ _ (by rw [sch2_len]; omega)]
theorem or_add (a b i : Nat) (h : b < 2 ^ i) : 2 ^ i * a ||| b = 2 ^ i * a + b := (Nat.two_pow_add_eq_or_of_lt h a).symm
theorem sh8_add (x : UInt32) (c : UInt8) (h : x.toNat < 16777216) : (sh8 x c).toNat = 256 * x.toNat + c.toNat := by
  have hc := c.toNat_lt
  have e : x.toNat * 256 % 4294967296 = 2 ^ 8 * x.toNat := by rw [Nat.mod_eq_of_lt (by omega)]; omega
  rw [sh8, e, or_add _ _ _ (by simpa using hc), w_ofNat (by omega)]
theorem v_w4 (c0 c1 c2 c3 : UInt8) : bits .or .i64 (bits .or .i64 (bits .or .i64 ((c0.toNat : Int) * 16777216) ((c1.toNat : Int) * 65536)) ((c2.toNat : Int) * 256)) (c3.toNat : Int) = ((sh8 (sh8 (sh8 (sh8 0 c0) c1) c2) c3).toNat : Int) := by
  have h0 := c0.toNat_lt
  have h1 := c1.toNat_lt
  have h2 := c2.toNat_lt
  have h3 := c3.toNat_lt
  have s0 : (sh8 0 c0).toNat = c0.toNat := by rw [sh8_add _ _ (by decide)]; simp
  have s1 : (sh8 (sh8 0 c0) c1).toNat = 256 * c0.toNat + c1.toNat := by rw [sh8_add _ _ (by omega), s0]
  have s2 : (sh8 (sh8 (sh8 0 c0) c1) c2).toNat = 256 * (256 * c0.toNat + c1.toNat) + c2.toNat := by rw [sh8_add _ _ (by omega), s1]
  have s3 : (sh8 (sh8 (sh8 (sh8 0 c0) c1) c2) c3).toNat = 256 * (256 * (256 * c0.toNat + c1.toNat) + c2.toNat) + c3.toNat := by rw [sh8_add _ _ (by omega), s2]
  have e0 : (c0.toNat : Int) * 16777216 = ((2 ^ 24 * c0.toNat : Nat) : Int) := by omega
  have e1 : (c1.toNat : Int) * 65536 = ((c1.toNat * 65536 : Nat) : Int) := by omega
  have e2 : (c2.toNat : Int) * 256 = ((c2.toNat * 256 : Nat) : Int) := by omega
  rw [s3, e0, e1, e2, i64_or _ _ (by omega) (by omega), or_add _ _ _ (by omega)]
  have f1 : 2 ^ 24 * c0.toNat + c1.toNat * 65536 = 2 ^ 16 * (256 * c0.toNat + c1.toNat) := by omega
  rw [f1, i64_or _ _ (by omega) (by omega), or_add _ _ _ (by omega)]
  have f2 : 2 ^ 16 * (256 * c0.toNat + c1.toNat) + c2.toNat * 256 = 2 ^ 8 * (256 * (256 * c0.toNat + c1.toNat) + c2.toNat) := by omega
  rw [f2, i64_or _ _ (by omega) (by omega), or_add _ _ _ (by omega)]
def wnats (l : List UInt32) : List Nat := l.map UInt32.toNat
theorem wnats_len (l : List UInt32) : (wnats l).length = l.length := by simp [wnats]
theorem v_next (x0 x1 x9 x14 : UInt32) : ((x0.toNat : Int) + bits .xor .i64 (bits .xor .i64 ((rotr x1 7).toNat : Int) ((rotr x1 18).toNat : Int)) ((x1.toNat : Int) / 8) + (x9.toNat : Int) + bits .xor .i64 (bits .xor .i64 ((rotr x14 17).toNat : Int) ((rotr x14 19).toNat : Int)) ((x14.toNat : Int) / 1024)) % 4294967296 =
    ((x0 + (rotr x1 7 ^^^ rotr x1 18 ^^^ shr x1 3) + x9 + (rotr x14 17 ^^^ rotr x14 19 ^^^ shr x14 10)).toNat : Int) := by
  rw [v_xor, w_shr x1 3 8 rfl, w_shr x14 10 1024 rfl, v_xor, v_xor, v_xor]
  simp only [UInt32.toNat_add]
  omega
end Go.Proofs.YtbfomeifhmkpeaaDoor
