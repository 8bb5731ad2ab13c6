/-
  The contract of octet.Num.
-/
import Derived.Test.YtfcmkbeilpclmaaChecked
import Derived.Test.YtfcmkbeilpclmaaMath
import Derived.Test.YtfcmkbeilpclmaaMem
namespace Go.Proofs.Ytfcmkbeilpclmaa
open Go.RowKit
set_option linter.unusedVariables false

def cellsOf (z : Nat) (l : List UInt8) : Array Value := (List.replicate z (Value.int .u8 0) ++ bcells l).toArray

theorem cellsOf_set (z : Nat) (c : UInt8) (l : List UInt8) : (cellsOf (z + 1) l).setIfInBounds z (.int .u8 c.toNat) = cellsOf z (c :: l) := by
  unfold cellsOf bcells
  simp [List.replicate_succ']

theorem cellsOf_at (z : Nat) (l : List UInt8) (i : Nat) : (cellsOf z l)[z + i]? = (bcells l)[i]? := by
  unfold cellsOf
  rw [List.getElem?_toArray, List.getElem?_append_right (by simp)]
  simp

theorem num_rel {n m z : Nat} {l : List UInt8} {w wr : World} {B t : Nat} (h0 : 0 < m) (h1 : n < 72057594037927936) (hz : l.length = 7 - z) (hz7 : z ≤ 7) (hl : l.length ≤ 6) (hm : m < 256 ^ (7 - l.length)) (hd : M.dig n = M.dig m ++ l)
    (hh : Has wr B t (cellsOf (z + 1) l)) (hb : Below B w wr) :
    ∃ (m' : Nat) (l' : List UInt8), l'.length ≤ 7 ∧ m' < 256 ^ (7 - l'.length) ∧ M.dig n = M.dig m' ++ l' ∧ Value.int .i64 (z : Nat) = .int .i64 ((8 - l'.length : Nat) : Int) ∧ Value.int .i64 ((m : Int) / 256) = .int .i64 (m' : Nat) ∧
      Has (wr.setCell ⟨B, z, none⟩ (.int .u8 ((m : Int) % 256))) B t (cellsOf (8 - l'.length) l') ∧ Below B w (wr.setCell ⟨B, z, none⟩ (.int .u8 ((m : Int) % 256))) := by
  have e : (m : Int) % 256 = ((UInt8.ofNat (m % 256)).toNat : Int) := by simp
  have hm56 : m < 72057594037927936 := by
    have h7 : 256 ^ (7 - l.length) ≤ 256 ^ 7 := Nat.pow_le_pow_right (by omega) (by omega)
    have h8 : (256 : Nat) ^ 7 = 72057594037927936 := by decide
    omega
  refine ⟨m / 256, UInt8.ofNat (m % 256) :: l, by simp; omega, ?_, ?_, ?_, by simp, ?_, hb.setCell (Nat.le_refl _) _⟩
  · rw [List.length_cons]
    refine Nat.div_lt_of_lt_mul ?_
    have h9 : 256 * 256 ^ (7 - (l.length + 1)) = 256 ^ (7 - l.length) := by
      rw [Nat.mul_comm, ← Nat.pow_succ]; congr 1; omega
    rw [h9]; exact hm
  · rw [hd, M.dig_step m h0 hm56]; simp
  · rw [List.length_cons]; congr 1; omega
  · rw [e, List.length_cons, show 8 - (l.length + 1) = z by omega, ← cellsOf_set]
    exact hh.set z _

end Go.Proofs.Ytfcmkbeilpclmaa
