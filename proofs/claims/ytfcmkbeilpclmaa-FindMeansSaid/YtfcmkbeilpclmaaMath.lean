/-
  Plain facts on numbers as bytes: the digits of a number to the base 256, and its encoding. No program stands here.
-/
import Derived.WalkKit
namespace Go.Proofs.Ytfcmkbeilpclmaa
namespace M

/-- The digits of a number, the highest first, at most k of them. -/
def digF : Nat → Nat → List UInt8
  | 0, _ => []
  | k + 1, n => if n = 0 then [] else digF k (n / 256) ++ [UInt8.ofNat (n % 256)]

def dig (n : Nat) : List UInt8 := digF 8 n

/-- The encoding of a number, as bytes; empty where it has none. -/
def encL (n : Int) : List UInt8 := if 0 ≤ n ∧ n < 72057594037927936 then UInt8.ofNat (dig n.toNat).length :: dig n.toNat else []

theorem digF_zero (k : Nat) : digF k 0 = [] := by cases k <;> simp [digF]

theorem digF_len : ∀ (k n : Nat), (digF k n).length ≤ k := by
  intro k
  induction k with
  | zero => intro n; simp [digF]
  | succ k ih =>
    intro n
    unfold digF
    split
    · simp
    · have := ih (n / 256); simp; omega

/-- More room changes nothing where there is room enough. -/
theorem digF_more : ∀ (k j n : Nat), n < 256 ^ k → digF (k + j) n = digF k n := by
  intro k
  induction k with
  | zero => intro j n h; have : n = 0 := by simpa using h
            subst this; rw [digF_zero, digF_zero]
  | succ k ih =>
    intro j n h
    have e : k + 1 + j = (k + j) + 1 := by omega
    rw [e]
    unfold digF
    split
    · rfl
    · rw [ih j (n / 256) (by rw [Nat.pow_succ] at h; exact Nat.div_lt_of_lt_mul (by omega))]

theorem dig_zero : dig 0 = [] := digF_zero 8

theorem dig_step (n : Nat) (h0 : 0 < n) (h : n < 72057594037927936) : dig n = dig (n / 256) ++ [UInt8.ofNat (n % 256)] := by
  unfold dig
  rw [show digF 8 n = digF 7 (n / 256) ++ [UInt8.ofNat (n % 256)] by rw [digF, if_neg (by omega)]]
  rw [show (8 : Nat) = 7 + 1 from rfl, digF_more 7 1 (n / 256) (by have : (256 : Nat) ^ 7 = 72057594037927936 := by decide
                                                                   omega)]

theorem dig_len (n : Nat) (h : n < 72057594037927936) : (dig n).length ≤ 7 := by
  unfold dig
  rw [show (8 : Nat) = 7 + 1 from rfl, digF_more 7 1 n (by have : (256 : Nat) ^ 7 = 72057594037927936 := by decide
                                                           omega)]
  exact digF_len 7 n

theorem encL_len (n : Int) : (encL n).length ≤ 8 := by
  unfold encL
  split
  · have := dig_len n.toNat (by omega)
    simp; omega
  · simp

end M
end Go.Proofs.Ytfcmkbeilpclmaa
