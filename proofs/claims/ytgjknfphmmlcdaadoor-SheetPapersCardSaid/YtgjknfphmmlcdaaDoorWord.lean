/-
  Words of 32 bits: what the model's operations make of them. No program stands here.
-/
import Derived.Test.YtgjknfphmmlcdaaDoorMem
import Derived.Laws.BitsAllLaws
namespace Go.Proofs.YtgjknfphmmlcdaaDoor
open Go.RowKit
set_option linter.unusedVariables false

/-- x turned to the right. -/
def rotr (x : UInt32) (n : Nat) : UInt32 := UInt32.ofNat (x.toNat / 2 ^ n ||| x.toNat * 2 ^ (32 - n) % 4294967296)
/-- x shifted to the right. -/
def shr (x : UInt32) (n : Nat) : UInt32 := UInt32.ofNat (x.toNat / 2 ^ n)

theorem w_lt (x : UInt32) : x.toNat < 4294967296 := x.toNat_lt
theorem w_ofNat {n : Nat} (h : n < 4294967296) : (UInt32.ofNat n).toNat = n := by simp; omega
theorem w_xor (a b : UInt32) : bits .xor .u32 (a.toNat : Int) (b.toNat : Int) = ((a ^^^ b).toNat : Int) := by
  rw [u32_xor_nat _ _ (w_lt a) (w_lt b), UInt32.toNat_xor]
theorem w_and (a b : UInt32) : bits .and .u32 (a.toNat : Int) (b.toNat : Int) = ((a &&& b).toNat : Int) := by
  rw [u32_and_nat _ _ (w_lt a) (w_lt b), UInt32.toNat_and]
theorem w_or (a b : UInt32) : bits .or .u32 (a.toNat : Int) (b.toNat : Int) = ((a ||| b).toNat : Int) := by
  rw [u32_or_nat _ _ (w_lt a) (w_lt b), UInt32.toNat_or]
theorem w_add (a b : UInt32) : ((a.toNat : Int) + (b.toNat : Int)) % 4294967296 = ((a + b).toNat : Int) := by
  rw [UInt32.toNat_add]; omega
theorem w_rotr (x : UInt32) (n : Nat) (h : n ≤ 32) : bits .or .u32 ((x.toNat : Int) / 2 ^ n) ((x.toNat : Int) * 2 ^ (32 - n) % 4294967296) = ((rotr x n).toNat : Int) := by
  have h1 : ((x.toNat : Int) / 2 ^ n) = ((x.toNat / 2 ^ n : Nat) : Int) := by simp
  have h2 : ((x.toNat : Int) * 2 ^ (32 - n) % 4294967296) = ((x.toNat * 2 ^ (32 - n) % 4294967296 : Nat) : Int) := by simp
  have b1 : x.toNat / 2 ^ n < 4294967296 := Nat.lt_of_le_of_lt (Nat.div_le_self _ _) (w_lt x)
  have b2 : x.toNat * 2 ^ (32 - n) % 4294967296 < 4294967296 := Nat.mod_lt _ (by decide)
  rw [h1, h2, u32_or_nat _ _ b1 b2, rotr, w_ofNat]
  exact Nat.or_lt_two_pow (n := 32) b1 b2
theorem w_shr (x : UInt32) (n : Nat) (k : Int) (hk : k = ((2 ^ n : Nat) : Int)) : (x.toNat : Int) / k = ((shr x n).toNat : Int) := by
  rw [hk, shr, w_ofNat (Nat.lt_of_le_of_lt (Nat.div_le_self _ _) (w_lt x))]
  simp
theorem set_other (w : World) (g i m : Nat) (u : Value) (h : i ≠ m) : (w.setCell ⟨g, i, none⟩ u).cell? ⟨g, m, none⟩ = w.cell? ⟨g, m, none⟩ := by
  simp only [World.cell?, World.setCell, Array.getElem?_modify, if_true]
  cases w.heap[g]? with
  | none => rfl
  | some o => cases o <;> simp [h]
theorem w_add' (a b : UInt32) : IntKind.u32.wrap ((a.toNat : Int) + (b.toNat : Int)) = ((a + b).toNat : Int) := by
  rw [IntKind.wrap_u32', w_add]
end Go.Proofs.YtgjknfphmmlcdaaDoor
