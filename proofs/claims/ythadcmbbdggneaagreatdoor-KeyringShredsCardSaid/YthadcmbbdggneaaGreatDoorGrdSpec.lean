/-
  Guarded sectors, purely: their bytes, what is read of any bytes, and that a torn one is told. No program stands here.
-/
import Derived.Test.YthadcmbbdggneaaGreatDoorDskSpec
namespace Go.Proofs.YthadcmbbdggneaaGreatDoor
set_option linter.unusedVariables false

namespace Grd
abbrev T := List UInt8
/-- A number's last eight bytes, most significant first. -/
def eight (n : Nat) : T := [UInt8.ofNat (n / 72057594037927936), UInt8.ofNat (n / 281474976710656), UInt8.ofNat (n / 1099511627776), UInt8.ofNat (n / 4294967296), UInt8.ofNat (n / 16777216), UInt8.ofNat (n / 65536), UInt8.ofNat (n / 256), UInt8.ofNat n]
def num8 (l : T) : Nat := l.foldl (fun a c => a * 256 + c.toNat) 0
def zeros (n : Nat) : T := List.replicate n 0
def noughts : T := zeros 64
/-- The bytes of a sector into which s is put with the stamp a. -/
def grd (a : Nat) (s : T) : T := eight a ++ (UInt8.ofNat s.length :: (s ++ zeros (47 - s.length))) ++ eight a
/-- Is it a guarded sector? -/
def isG (b : T) : Bool := decide (b.length = 64) && decide (b.take 8 = b.drop 56) && decide ((b.getD 8 0).toNat ≤ 47) && decide ((b.drop (9 + (b.getD 8 0).toNat)).take (47 - (b.getD 8 0).toNat) = zeros (47 - (b.getD 8 0).toNat)) && decide (4294967296 ≤ num8 (b.take 8)) && decide (num8 (b.take 8) < 9223372036854775808)
/-- What is read of a sector's bytes: data, stamp, code. -/
def rd (b : T) : T × Nat × Int := if b = noughts then ([], 0, 7) else if isG b = true then ((b.drop 9).take (b.getD 8 0).toNat, num8 (b.take 8), 0) else ([], 0, 17)
/-- A stamp that may be. -/
def Stm (a : Nat) : Prop := 4294967296 ≤ a ∧ a < 9223372036854775808

theorem eight_len (n : Nat) : (eight n).length = 8 := rfl
theorem zeros_len (n : Nat) : (zeros n).length = n := List.length_replicate
theorem grd_len {a : Nat} {s : T} (h : s.length ≤ 47) : (grd a s).length = 64 := by
  unfold grd
  simp [eight_len, zeros_len]
  omega
theorem u8_toNat (n : Nat) : (UInt8.ofNat n).toNat = n % 256 := by rw [UInt8.toNat_ofNat']
theorem num8_eight (n : Nat) (h : n < 18446744073709551616) : num8 (eight n) = n := by
  unfold num8 eight
  simp only [List.foldl_cons, List.foldl_nil, u8_toNat]
  omega
theorem eight_inj {a b : Nat} (ha : a < 18446744073709551616) (hb : b < 18446744073709551616) (h : eight a = eight b) : a = b := by
  rw [← num8_eight a ha, ← num8_eight b hb, h]
theorem num8_zeros : num8 (zeros 8) = 0 := by decide
theorem grd_take8 (a : Nat) (s : T) : (grd a s).take 8 = eight a := by
  unfold grd
  rw [List.append_assoc, List.take_append_of_le_length (by rw [eight_len]; decide), List.take_of_length_le (by rw [eight_len]; decide)]
theorem grd_drop56 {a : Nat} {s : T} (h : s.length ≤ 47) : (grd a s).drop 56 = eight a := by
  unfold grd
  rw [List.drop_append_of_le_length (by simp [eight_len, zeros_len]; omega)]
  rw [List.drop_eq_nil_of_le (by simp [eight_len, zeros_len]; omega), List.nil_append]
theorem noughts_take8 : noughts.take 8 = zeros 8 := by decide
theorem noughts_drop56 : noughts.drop 56 = zeros 8 := by decide
theorem noughts_len : noughts.length = 64 := zeros_len 64
theorem eight_ne {a : Nat} (h : Stm a) : eight a ≠ zeros 8 := fun e => by
  have h1 := num8_eight a (by have := h.2; omega)
  rw [e, num8_zeros] at h1
  have := h.1
  omega
/-- What a sector may hold: noughts, or something that was put there. -/
def Cont (P : T) : Prop := P = noughts ∨ ∃ a s, P = grd a s ∧ s.length ≤ 47 ∧ Stm a
theorem Cont.len {P : T} (h : Cont P) : P.length = 64 := by
  rcases h with rfl | ⟨a, s, rfl, hs, _⟩
  · exact noughts_len
  · exact grd_len hs
/-- Two contents have unlike stamps. -/
def Apart (P Q : T) : Prop := ∀ a s b t, P = grd a s → Q = grd b t → Stm a → Stm b → a ≠ b
theorem isG_ends {b : T} (h : isG b = true) : b.length = 64 ∧ b.take 8 = b.drop 56 ∧ Stm (num8 (b.take 8)) := by
  unfold isG at h
  simp only [Bool.and_eq_true, decide_eq_true_eq] at h
  exact ⟨h.1.1.1.1.1, h.1.1.1.1.2, h.1.2, h.2⟩
theorem split8 {b c : T} (h1 : b.take 8 = c.take 8) (h2 : b.drop 8 = c.drop 8) : b = c := by
  rw [← List.take_append_drop 8 b, ← List.take_append_drop 8 c, h1, h2]
theorem split56 {b c : T} (h1 : b.take 56 = c.take 56) (h2 : b.drop 56 = c.drop 56) : b = c := by
  rw [← List.take_append_drop 56 b, ← List.take_append_drop 56 c, h1, h2]
theorem mix_drop {P Q : T} {c m : Nat} (hP : P.length = 64) (hc : c ≤ m) (hm : m ≤ 64) : (P.take c ++ Q.drop c).drop m = Q.drop m := by
  rw [List.drop_append, List.length_take]
  rw [List.drop_eq_nil_of_le (by rw [List.length_take]; omega), List.nil_append, List.drop_drop]
  congr 1
  omega
theorem mix_take {P Q : T} {c m : Nat} (hP : P.length = 64) (hc : m ≤ c) (h64 : c ≤ 64) : (P.take c ++ Q.drop c).take m = P.take m := by
  rw [List.take_append_of_le_length (by rw [List.length_take]; omega), List.take_take, Nat.min_eq_left hc]
/-- The stamps at both ends of a content. -/
theorem Cont.ends {P : T} (h : Cont P) : (P = noughts ∧ P.take 8 = zeros 8 ∧ P.drop 56 = zeros 8) ∨ (∃ a s, P = grd a s ∧ Stm a ∧ P.take 8 = eight a ∧ P.drop 56 = eight a) := by
  rcases h with rfl | ⟨a, s, rfl, hs, ha⟩
  · exact Or.inl ⟨rfl, noughts_take8, noughts_drop56⟩
  · exact Or.inr ⟨a, s, rfl, ha, grd_take8 a s, grd_drop56 hs⟩
theorem rd_torn {b : T} (h1 : b ≠ noughts) (h2 : isG b = false) : (rd b).2.2 = 17 := by
  unfold rd
  rw [if_neg h1, if_neg (by rw [h2]; decide)]
/-- **A TORN SECTOR IS ONE OF BOTH, WHOLE, OR IT IS TOLD.** -/
theorem mix {P Q : T} (hP : Cont P) (hQ : Cont Q) (hA : Apart P Q) (c : Nat) (hc : c < 64) : P.take c ++ Q.drop c = P ∨ P.take c ++ Q.drop c = Q ∨ (rd (P.take c ++ Q.drop c)).2.2 = 17 := by
  have lP := hP.len
  have lQ := hQ.len
  by_cases h8 : c ≤ 8
  · -- the end is Q's
    have e1 : (P.take c ++ Q.drop c).drop 56 = Q.drop 56 := mix_drop lP (by omega) (by decide)
    have e2 : (P.take c ++ Q.drop c).drop 8 = Q.drop 8 := mix_drop lP h8 (by decide)
    generalize hM : P.take c ++ Q.drop c = M at e1 e2
    by_cases hg : isG M = true
    · obtain ⟨_, g1, g2⟩ := isG_ends hg
      refine Or.inr (Or.inl (split8 ?_ e2))
      rw [g1, e1]
      rcases hQ.ends with ⟨_, q1, q2⟩ | ⟨b, t, _, _, q1, q2⟩
      · exfalso
        rw [g1, e1, q2, num8_zeros] at g2
        have := g2.1
        omega
      · rw [q1, q2]
    · by_cases hn : M = noughts
      · rcases hQ.ends with ⟨q0, _, _⟩ | ⟨b, t, _, hb, q1, q2⟩
        · exact Or.inr (Or.inl (hn.trans q0.symm))
        · exfalso
          rw [q2, hn, noughts_drop56] at e1
          exact eight_ne hb e1.symm
      · exact Or.inr (Or.inr (rd_torn hn (by simpa using hg)))
  · by_cases h56 : c ≤ 56
    · have e1 : (P.take c ++ Q.drop c).drop 56 = Q.drop 56 := mix_drop lP h56 (by decide)
      have e2 : (P.take c ++ Q.drop c).take 8 = P.take 8 := mix_take lP (by omega) (by omega)
      generalize hM : P.take c ++ Q.drop c = M at e1 e2
      by_cases hg : isG M = true
      · exfalso
        obtain ⟨_, g1, g2⟩ := isG_ends hg
        rw [e2, e1] at g1
        rw [e2] at g2
        rcases hP.ends with ⟨_, p1, p2⟩ | ⟨a, s, pe, ha, p1, p2⟩
        · rw [p1, num8_zeros] at g2
          have := g2.1
          omega
        · rcases hQ.ends with ⟨_, q1, q2⟩ | ⟨b, t, qe, hb, q1, q2⟩
          · rw [p1, q2] at g1
            exact eight_ne ha g1
          · rw [p1, q2] at g1
            exact hA a s b t pe qe ha hb (eight_inj (by have := ha.2; omega) (by have := hb.2; omega) g1)
      · by_cases hn : M = noughts
        · rcases hP.ends with ⟨p0, _, _⟩ | ⟨a, s, _, ha, p1, p2⟩
          · exact Or.inl (hn.trans p0.symm)
          · exfalso
            rw [p1, hn, noughts_take8] at e2
            exact eight_ne ha e2.symm
        · exact Or.inr (Or.inr (rd_torn hn (by simpa using hg)))
    · -- the beginning is P's
      have e1 : (P.take c ++ Q.drop c).take 56 = P.take 56 := mix_take lP (by omega) (by omega)
      have e2 : (P.take c ++ Q.drop c).take 8 = P.take 8 := mix_take lP (by omega) (by omega)
      generalize hM : P.take c ++ Q.drop c = M at e1 e2
      by_cases hg : isG M = true
      · obtain ⟨_, g1, g2⟩ := isG_ends hg
        refine Or.inl (split56 e1 ?_)
        rw [← g1, e2]
        rcases hP.ends with ⟨_, p1, p2⟩ | ⟨a, s, _, ha, p1, p2⟩
        · rw [p1, p2]
        · rw [p1, p2]
      · by_cases hn : M = noughts
        · rcases hP.ends with ⟨p0, _, _⟩ | ⟨a, s, _, ha, p1, p2⟩
          · exact Or.inl (hn.trans p0.symm)
          · exfalso
            rw [p1, hn, noughts_take8] at e2
            exact eight_ne ha e2.symm
        · exact Or.inr (Or.inr (rd_torn hn (by simpa using hg)))
theorem rd_noughts : rd noughts = ([], 0, 7) := by unfold rd; rw [if_pos rfl]
theorem grd_at8 (a : Nat) (s : T) (h : s.length ≤ 47) : ((grd a s).getD 8 0).toNat = s.length := by
  have e : (grd a s)[8]? = some (UInt8.ofNat s.length) := by
    unfold grd
    rw [List.append_assoc, List.getElem?_append_right (by rw [eight_len]; decide), eight_len]
    rfl
  rw [List.getD_eq_getElem?_getD, e, Option.getD_some, u8_toNat]
  omega
theorem grd_drop9 (a : Nat) (s : T) : (grd a s).drop 9 = s ++ zeros (47 - s.length) ++ eight a := by
  unfold grd
  rw [List.append_assoc, List.drop_append, List.drop_eq_nil_of_le (by rw [eight_len]; decide), List.nil_append, eight_len]
  rfl
theorem grd_isG {a : Nat} {s : T} (hs : s.length ≤ 47) (ha : Stm a) : isG (grd a s) = true := by
  unfold isG
  have h9 : ((grd a s).drop (9 + s.length)).take (47 - s.length) = zeros (47 - s.length) := by
    rw [← List.drop_drop, grd_drop9, List.append_assoc, List.drop_append_of_le_length (Nat.le_refl _), List.drop_length, List.nil_append]
    rw [List.take_append_of_le_length (by rw [zeros_len]; exact Nat.le_refl _), List.take_of_length_le (by rw [zeros_len]; exact Nat.le_refl _)]
  rw [grd_at8 a s hs, grd_take8, grd_drop56 hs, num8_eight a (by have := ha.2; omega), h9, grd_len hs]
  simp [ha.1, ha.2, hs]
theorem grd_ne {a : Nat} {s : T} (ha : Stm a) : grd a s ≠ noughts := fun e => by
  have h1 := grd_take8 a s
  rw [e, noughts_take8] at h1
  exact eight_ne ha h1.symm
theorem rd_grd {a : Nat} {s : T} (hs : s.length ≤ 47) (ha : Stm a) : rd (grd a s) = (s, a, 0) := by
  unfold rd
  rw [if_neg (grd_ne ha), if_pos (grd_isG hs ha), grd_at8 a s hs, grd_take8, num8_eight a (by have := ha.2; omega), grd_drop9, List.append_assoc, List.take_append_of_le_length (Nat.le_refl _), List.take_length]
end Grd
end Go.Proofs.YthadcmbbdggneaaGreatDoor
