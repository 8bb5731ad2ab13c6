/-
  Numbers as limbs of 16 bits, and the reference's roots: plain. No program stands here.
-/
import Derived.Test.YtbfomeifhmkpeaaDoorMixSpec
namespace Go.Proofs.YtbfomeifhmkpeaaDoor
open Go.RowKit
set_option linter.unusedVariables false
/-- A number out of its limbs, the lowest first. -/
def val : List Nat → Nat
  | [] => 0
  | a :: l => a + 65536 * val l
theorem val_split : ∀ (l : List Nat) (k : Nat), k ≤ l.length → val l = val (l.take k) + 65536 ^ k * val (l.drop k)
  | l, 0, _ => by simp [val]
  | [], k + 1, h => by simp at h
  | a :: l, k + 1, h => by
    have e := val_split l k (by simpa using h)
    simp only [List.take_succ_cons, List.drop_succ_cons, val]
    rw [e, Nat.pow_succ, Nat.mul_add, Nat.mul_comm (65536 ^ k) 65536, Nat.mul_assoc, Nat.add_assoc]
theorem val_cut (l : List Nat) (k : Nat) (h : k < l.length) : val l = val (l.take k) + 65536 ^ k * (l[k]'h + 65536 * val (l.drop (k + 1))) := by
  rw [val_split l k (by omega), List.drop_eq_getElem_cons h]; rfl
theorem val_snoc (l : List Nat) (k : Nat) (h : k < l.length) : val (l.take (k + 1)) = val (l.take k) + 65536 ^ k * (l[k]'h) := by
  have h1 : k < (l.take (k + 1)).length := by rw [List.length_take]; omega
  rw [val_cut (l.take (k + 1)) k h1, List.take_take, List.getElem_take, List.drop_eq_nil_of_le (by rw [List.length_take]; omega), Nat.min_eq_left (by omega)]
  simp [val]
theorem val_set (l : List Nat) (k : Nat) (h : k < l.length) (x : Nat) : val (l.set k x) + 65536 ^ k * (l[k]'h) = val l + 65536 ^ k * x := by
  have h1 : k < (l.set k x).length := by simpa using h
  rw [val_cut (l.set k x) k h1, val_cut l k h, List.take_set_of_le (Nat.le_refl _), List.getElem_set_self, List.drop_set_of_lt (by omega)]
  rw [Nat.mul_add, Nat.mul_add]
  omega
theorem val_lt : ∀ (l : List Nat), (∀ a ∈ l, a < 65536) → val l < 65536 ^ l.length
  | [], _ => by simp [val]
  | a :: l, h => by
    have h1 := val_lt l fun b hb => h b (by simp [hb])
    have h2 := h a (by simp)
    simp only [val, List.length_cons, Nat.pow_succ]
    omega
theorem val_take_le (l : List Nat) (k : Nat) (h : k ≤ l.length) : val (l.take k) ≤ val l := by
  rw [val_split l k h]; exact Nat.le_add_right _ _
theorem val_take_eq (l : List Nat) (k : Nat) (h : k ≤ l.length) (hs : val l < 65536 ^ k) : val (l.take k) = val l := by
  have e := val_split l k h
  rcases Nat.eq_zero_or_pos (val (l.drop k)) with h0 | h0
  · rw [h0] at e; omega
  · have : 65536 ^ k * 1 ≤ 65536 ^ k * val (l.drop k) := Nat.mul_le_mul_left _ h0
    omega
/-- The first limb from above that differs tells. -/
theorem val_less (a b : List Nat) (ha : ∀ x ∈ a, x < 65536) (k : Nat) (h1 : k < a.length) (h2 : k < b.length) (hd : a.drop (k + 1) = b.drop (k + 1)) (hl : (a[k]'h1) < (b[k]'h2)) : val a < val b := by
  rw [val_cut a k h1, val_cut b k h2, hd]
  have ht := val_lt (a.take k) fun x hx => ha x (List.mem_of_mem_take hx)
  rw [List.length_take, Nat.min_eq_left (by omega)] at ht
  have hm : 65536 ^ k * ((a[k]'h1) + 65536 * val (b.drop (k + 1)) + 1) ≤ 65536 ^ k * ((b[k]'h2) + 65536 * val (b.drop (k + 1))) := Nat.mul_le_mul_left _ (by omega)
  rw [Nat.mul_add _ _ 1] at hm
  omega
theorem digit (x i : Nat) : x % 65536 ^ (i + 1) = x % 65536 ^ i + (x / 65536 ^ i % 65536) * 65536 ^ i := by
  rw [Nat.mod_pow_succ, Nat.mul_comm]
/-- One limb of the product. -/
theorem limb_step (b : List Nat) (k : Nat) (h : k < b.length) (v aj d carry : Nat) (hv : (b[k]'h) + aj * d + carry = v) : val (b.set k (v % 65536)) + v / 65536 * 65536 ^ (k + 1) = val b + carry * 65536 ^ k + aj * d * 65536 ^ k := by
  have hs := val_set b k h (v % 65536)
  have e : 65536 ^ k * (v % 65536) + v / 65536 * 65536 ^ (k + 1) = 65536 ^ k * v := by
    rw [Nat.pow_succ]
    have h1 : v = v % 65536 + 65536 * (v / 65536) := by omega
    conv => rhs; rw [h1, Nat.mul_add]
    congr 1
    rw [Nat.mul_comm (v / 65536), Nat.mul_assoc]
  have e2 : 65536 ^ k * v = 65536 ^ k * (b[k]'h) + aj * d * 65536 ^ k + carry * 65536 ^ k := by
    rw [← hv, Nat.mul_add, Nat.mul_add, Nat.mul_comm _ (aj * d), Nat.mul_comm _ carry]
  omega
theorem mul_step (la lb lc : List Nat) (i j m d carry aj v : Nat) (hm : i + j = m) (hj : j < la.length) (haj : (la[j]'hj) = aj) (hl : m < lc.length) (hv : (lc[m]'hl) + aj * d + carry = v)
    (h : val lc + carry * 65536 ^ m = val lb + d * val (la.take j) * 65536 ^ i) : val (lc.set m (v % 65536)) + v / 65536 * 65536 ^ (m + 1) = val lb + d * val (la.take (j + 1)) * 65536 ^ i := by
  rw [limb_step lc m hl v aj d carry hv, h, val_snoc la j hj, haj, ← hm, Nat.pow_add, Nat.mul_add, Nat.add_mul, Nat.add_assoc]
  congr 2
  ac_rfl
theorem mul_end (la lb lc : List Nat) (x i carry : Nat) (hi : i ≤ 2) (hla : la.length = 10) (h8 : val la < 65536 ^ 8) (hx : x * val la < 65536 ^ 10) (hb : val lb = x % 65536 ^ i * val la)
    (h : val lc + carry * 65536 ^ 10 = val lb + x / 65536 ^ i % 65536 * val (la.take (10 - i)) * 65536 ^ i) : val lc = x % 65536 ^ (i + 1) * val la := by
  have h1 : val la < 65536 ^ (10 - i) := Nat.lt_of_lt_of_le h8 (Nat.pow_le_pow_right (by decide) (by omega))
  rw [val_take_eq la (10 - i) (by omega) h1, hb] at h
  have e : x % 65536 ^ i * val la + x / 65536 ^ i % 65536 * val la * 65536 ^ i = x % 65536 ^ (i + 1) * val la := by
    rw [digit, Nat.add_mul]; congr 1; ac_rfl
  rw [e] at h
  have hle : x % 65536 ^ (i + 1) * val la ≤ x * val la := Nat.mul_le_mul_right _ (Nat.mod_le _ _)
  rcases Nat.eq_zero_or_pos carry with h0 | h0
  · subst h0; omega
  · have : 1 * 65536 ^ 10 ≤ carry * 65536 ^ 10 := Nat.mul_le_mul_right _ h0
    omega
theorem pow_small (x k : Nat) (hx : x < 2 ^ 38) (hk : k ≤ 2) : x ^ k < 65536 ^ 8 ∧ x * x ^ k < 65536 ^ 10 := by
  have h1 : x ^ k ≤ (2 ^ 38) ^ k := Nat.pow_le_pow_left (by omega) k
  have h2 : (2 ^ 38) ^ k ≤ (2 ^ 38) ^ 2 := Nat.pow_le_pow_right (by decide) hk
  have h3 : x * x ^ k ≤ 2 ^ 38 * (2 ^ 38) ^ 2 := Nat.mul_le_mul (by omega) (by omega)
  have e1 : (2 ^ 38) ^ 2 < 65536 ^ 8 := by decide
  have e2 : 2 ^ 38 * (2 ^ 38) ^ 2 < 65536 ^ 10 := by decide
  omega
theorem limbs_set (l : List Nat) (h : ∀ z ∈ l, z < 65536) (k v : Nat) (hv : v < 65536) : ∀ z ∈ l.set k v, z < 65536 := fun z hz => by
  rcases List.mem_or_eq_of_mem_set hz with h1 | h1
  · exact h z h1
  · omega
theorem limb_small (b aj d carry : Nat) (h1 : b < 65536) (h2 : aj < 65536) (h3 : d < 65536) (h4 : carry < 65536) : b + aj * d + carry < 4294967296 := by
  have : aj * d ≤ 65535 * 65535 := Nat.mul_le_mul (by omega) (by omega)
  omega
/-- The reference's root, by definition. -/
def over (x power p : Nat) : Bool := decide (p * 65536 ^ (2 * power) < x ^ power)
def rt (power p : Nat) : Nat → Nat → Nat
  | 0, x => x
  | k + 1, x => rt power p k (if over (x + 2 ^ k) power p = true then x else x + 2 ^ k)
end Go.Proofs.YtbfomeifhmkpeaaDoor
