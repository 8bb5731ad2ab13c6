/-
  Laid texts are apart; two unlike texts of one sum are met. No program stands here.
-/
import Derived.Test.YtlbdpadifhgloaaDoorPlgSpec
namespace Go.Proofs.YtlbdpadifhgloaaDoor
open Go.RowKit
set_option linter.unusedVariables false

namespace Plg
/-- A short number's bytes, read: the number, and what is behind. -/
def dec : List UInt8 → Nat × List UInt8
  | 0 :: r => (0, r)
  | 1 :: x :: r => (x.toNat, r)
  | 2 :: x :: y :: r => (x.toNat * 256 + y.toNat, r)
  | r => (0, r)
theorem encL_300 : ∀ n : Nat, n < 301 → M.encL (n : Int) = if n = 0 then [0] else if n < 256 then [1, UInt8.ofNat n] else [2, UInt8.ofNat (n / 256), UInt8.ofNat (n % 256)] := by decide +kernel
theorem dec_enc (n : Nat) (hn : n < 301) (r : List UInt8) : dec (M.encL (n : Int) ++ r) = (n, r) := by
  rw [encL_300 n hn]
  by_cases h0 : n = 0
  · rw [if_pos h0, h0]; rfl
  · rw [if_neg h0]
    by_cases h1 : n < 256
    · rw [if_pos h1]
      show ((UInt8.ofNat n).toNat, r) = (n, r)
      rw [UInt8.toNat_ofNat_of_lt' h1]
    · rw [if_neg h1]
      show ((UInt8.ofNat (n / 256)).toNat * 256 + (UInt8.ofNat (n % 256)).toNat, r) = (n, r)
      rw [UInt8.toNat_ofNat_of_lt' (show n / 256 < 256 by omega), UInt8.toNat_ofNat_of_lt' (show n % 256 < 256 by omega)]
      congr 1
      omega
theorem txt_split {s t r r' : List UInt8} (hs : s.length ≤ 300) (ht : t.length ≤ 300) (h : txt s ++ r = txt t ++ r') : s = t ∧ r = r' := by
  unfold txt at h
  rw [List.append_assoc, List.append_assoc] at h
  have h1 := dec_enc s.length (by omega) (s ++ r)
  have h2 := dec_enc t.length (by omega) (t ++ r')
  rw [h, h2] at h1
  injection h1 with h3 h4
  exact List.append_inj h4.symm h3.symm
theorem of_inj {a b c d a' b' c' d' : List UInt8} (h1 : a.length ≤ 300) (h2 : b.length ≤ 300) (h3 : c.length ≤ 300) (h4 : d.length ≤ 300) (g1 : a'.length ≤ 300) (g2 : b'.length ≤ 300) (g3 : c'.length ≤ 300) (g4 : d'.length ≤ 300)
    (h : of a b c d = of a' b' c' d') : a = a' ∧ b = b' ∧ c = c' ∧ d = d' := by
  unfold of at h
  injection h with _ h
  obtain ⟨e1, h⟩ := txt_split h1 g1 h
  obtain ⟨e2, h⟩ := txt_split h2 g2 h
  obtain ⟨e3, h⟩ := txt_split h3 g3 h
  have h' : txt d ++ [] = txt d' ++ [] := by rw [List.append_nil, List.append_nil]; exact h
  exact ⟨e1, e2, e3, (txt_split h4 g4 h').1⟩
end Plg
theorem Mill.twins_met (l : List Mill.En) (s t : List UInt8) (hne : s ≠ t) (hh : Mill.hash l s = Mill.hash l t) : (Mill.step l t (Mill.step l s Mill.fresh)).met = true ∧ (Mill.step l t (Mill.step l s Mill.fresh)).a ≠ (Mill.step l t (Mill.step l s Mill.fresh)).b := by
  have e1 : Mill.step l s Mill.fresh = ⟨[(Mill.hash l s, s)], [], [], false, false, 1⟩ := rfl
  have e2 : Mill.step l t ⟨[(Mill.hash l s, s)], [], [], false, false, 1⟩ = ⟨[(Mill.hash l s, s)], s, t, true, false, 2⟩ := by
    unfold Mill.step Mill.note
    rw [← hh]
    have : List.lookup (Mill.hash l s) [(Mill.hash l s, s)] = some s := by simp [List.lookup]
    simp only [this]
    rw [if_pos ⟨hne, trivial⟩]
  rw [e1, e2]
  exact ⟨rfl, hne⟩
end Go.Proofs.YtlbdpadifhgloaaDoor
