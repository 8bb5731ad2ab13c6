/-
  Papers that may be, with one form as bytes, are one: plain.
-/
import Derived.Test.YtfppobnfajkmmaaPapG
import Derived.Test.YtfppobnfajkmmaaValInj
namespace Go.Proofs.Ytfppobnfajkmmaa
open Go.RowKit
set_option linter.unusedVariables false

namespace Pap
/-- A short number's bytes, read: the number, and what is behind. -/
def dec : List UInt8 → Nat × List UInt8
  | 0 :: r => (0, r)
  | 1 :: x :: r => (x.toNat, r)
  | 2 :: x :: y :: r => (x.toNat * 256 + y.toNat, r)
  | r => (0, r)
theorem encL_300 : ∀ n : Nat, n < 301 → M.encL (n : Int) = if n = 0 then [0] else if n < 256 then [1, UInt8.ofNat n] else [2, UInt8.ofNat (n / 256), UInt8.ofNat (n % 256)] := by decide +kernel
theorem dec_enc (n : Nat) (hn : n < 301) (r : List UInt8) : dec (M.encL (n : Int) ++ r) = (n, r) := by
  rw [encL_300 n hn]
  by_cases h0 : n = 0
  · rw [if_pos h0, h0]; rfl
  · rw [if_neg h0]
    by_cases h1 : n < 256
    · rw [if_pos h1]
      show ((UInt8.ofNat n).toNat, r) = (n, r)
      rw [UInt8.toNat_ofNat_of_lt' h1]
    · rw [if_neg h1]
      show ((UInt8.ofNat (n / 256)).toNat * 256 + (UInt8.ofNat (n % 256)).toNat, r) = (n, r)
      rw [UInt8.toNat_ofNat_of_lt' (show n / 256 < 256 by omega), UInt8.toNat_ofNat_of_lt' (show n % 256 < 256 by omega)]
      congr 1
      omega
theorem num_split {n m : Nat} {r r' : List UInt8} (hn : n < 301) (hm : m < 301) (h : M.encL (n : Int) ++ r = M.encL (m : Int) ++ r') : n = m ∧ r = r' := by
  have h1 := dec_enc n hn r
  rw [h, dec_enc m hm] at h1
  injection h1 with h3 h4
  exact ⟨h3.symm, h4.symm⟩
set_option maxRecDepth 100000 in
theorem txt_split {s t r r' : List UInt8} (hs : s.length ≤ 300) (ht : t.length ≤ 300) (h : (M.encL s.length ++ s) ++ r = (M.encL t.length ++ t) ++ r') : s = t ∧ r = r' := by
  rw [List.append_assoc, List.append_assoc] at h
  have h2 := num_split (n := s.length) (m := t.length) (r := s ++ r) (r' := t ++ r') (Nat.lt_succ_of_le hs) (Nat.lt_succ_of_le ht) h
  exact List.append_inj h2.2 h2.1
theorem encF_cons (x : Fld) (V : List Fld) : encF (x :: V) = (M.encL x.name.length ++ x.name) ++ ((M.encL x.val.enc.length ++ x.val.enc) ++ encF V) := by simp [encF]
set_option maxRecDepth 100000 in
theorem encF_inj (T : List Fld) : ∀ U : List Fld, (∀ f ∈ T, good f) → (∀ f ∈ U, good f) → T.length = U.length → encF T = encF U → T = U := by
  induction T with
  | nil =>
    intro U _ _ hl _
    exact (List.eq_nil_of_length_eq_zero hl.symm).symm
  | cons f T ih =>
    intro U hT hU hl h
    cases U with
    | nil => simp at hl
    | cons g U =>
      have gf := hT f List.mem_cons_self
      have gg := hU g List.mem_cons_self
      rw [encF_cons, encF_cons] at h
      have l1 := (word_len gf.1).2
      have l2 := (word_len gg.1).2
      have l3 := enc_len gf.2.1
      have l4 := enc_len gg.2.1
      obtain ⟨e1, h⟩ := txt_split (s := f.name) (t := g.name) (by omega) (by omega) h
      obtain ⟨e2, h⟩ := txt_split (s := f.val.enc) (t := g.val.enc) (by omega) (by omega) h
      have e3 := enc_inj gf.2.2 gg.2.2 gf.2.1 gg.2.1 e2
      have e4 := ih U (fun x hx => hT x (List.mem_cons_of_mem _ hx)) (fun x hx => hU x (List.mem_cons_of_mem _ hx)) (by simpa using hl) h
      obtain ⟨n, x⟩ := f
      obtain ⟨m, y⟩ := g
      dsimp only at e1 e3
      rw [e1, e3, e4]
set_option maxRecDepth 100000 in
theorem enc_one {id1 id2 : List UInt8} {c1 c2 : Int} {L1 L2 : List Fld} (k1 : check id1 c1 L1 = 0) (k2 : check id2 c2 L2 = 0) (o1 : ∀ x ∈ L1, x.ok) (o2 : ∀ x ∈ L2, x.ok) :
    decide (enc id1 c1 (tidy L1) = enc id2 c2 (tidy L2)) = same id1 c1 (tidy L1) id2 c2 (tidy L2) := by
  obtain ⟨a1, a2, a3, -, -⟩ := check_zero k1
  obtain ⟨b1, b2, b3, -, -⟩ := check_zero k2
  have g1 := tidy_good k1 o1
  have g2 := tidy_good k2 o2
  have t1 := tidy_len L1
  have t2 := tidy_len L2
  have w1 := (word_len a1).2
  have w2 := (word_len b1).2
  show _ = decide (id1 = id2 ∧ c1 = c2 ∧ tidy L1 = tidy L2)
  rw [decide_eq_decide]
  constructor
  · intro h
    have e : ∀ a b c d : List UInt8, a ++ b ++ c ++ d = a ++ (b ++ (c ++ d)) := fun a b c d => by simp only [List.append_assoc]
    rw [enc_eq, enc_eq, e (M.encL id1.length ++ id1), e (M.encL id2.length ++ id2)] at h
    obtain ⟨e1, h⟩ := txt_split (s := id1) (t := id2) (by omega) (by omega) h
    obtain ⟨n1, rfl⟩ := Int.eq_ofNat_of_zero_le a2.1
    obtain ⟨n2, rfl⟩ := Int.eq_ofNat_of_zero_le b2.1
    obtain ⟨e2, h⟩ := num_split (n := n1) (m := n2) (by omega) (by omega) h
    have q1 : (tidy L1).length < 301 := by omega
    have q2 : (tidy L2).length < 301 := by omega
    obtain ⟨e3, h⟩ := num_split q1 q2 h
    exact ⟨e1, by rw [e2], encF_inj _ _ g1 g2 e3 h⟩
  · rintro ⟨rfl, rfl, h⟩
    rw [h]
end Pap
end Go.Proofs.Ytfppobnfajkmmaa
