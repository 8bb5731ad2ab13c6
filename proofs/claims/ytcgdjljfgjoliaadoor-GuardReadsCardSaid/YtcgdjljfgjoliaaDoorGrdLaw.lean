/-
  What is right in a sector, as the statement asks it. No program stands here.
-/
import Derived.Test.YtcgdjljfgjoliaaDoorGrdNum
namespace Go.Proofs.YtcgdjljfgjoliaaDoor
set_option linter.unusedVariables false

namespace Grd
theorem eight_num8 {l : T} (h : l.length = 8) : eight (num8 l) = l := by
  match l, h with
  | [a, b, c, d, e, f, g, k], _ =>
    have ha := a.toNat_lt
    have hb := b.toNat_lt
    have hc := c.toNat_lt
    have hd := d.toNat_lt
    have he := e.toNat_lt
    have hf := f.toNat_lt
    have hg := g.toNat_lt
    have hk := k.toNat_lt
    unfold eight num8
    simp only [List.foldl_cons, List.foldl_nil, List.cons.injEq, and_true]
    refine ⟨?_, ?_, ?_, ?_, ?_, ?_, ?_, ?_⟩ <;> (apply UInt8.toNat_inj.1; rw [u8_toNat]; omega)
theorem num8_hi {l : T} (h : l.length = 8) : num8 l < 9223372036854775808 ↔ (l.getD 0 0).toNat < 128 := by
  match l, h with
  | [a, b, c, d, e, f, g, k], _ =>
    have ha := a.toNat_lt
    have hb := b.toNat_lt
    have hc := c.toNat_lt
    have hd := d.toNat_lt
    have he := e.toNat_lt
    have hf := f.toNat_lt
    have hg := g.toNat_lt
    have hk := k.toNat_lt
    show num8 [a, b, c, d, e, f, g, k] < 9223372036854775808 ↔ a.toNat < 128
    unfold num8
    simp only [List.foldl_cons, List.foldl_nil]
    omega
theorem num8_lo {l : T} (h : l.length = 8) : 4294967296 ≤ num8 l ↔ l.take 4 ≠ zeros 4 := by
  match l, h with
  | [a, b, c, d, e, f, g, k], _ =>
    have ha := a.toNat_lt
    have hb := b.toNat_lt
    have hc := c.toNat_lt
    have hd := d.toNat_lt
    have he := e.toNat_lt
    have hf := f.toNat_lt
    have hg := g.toNat_lt
    have hk := k.toNat_lt
    have hz : [a, b, c, d] = zeros 4 ↔ a.toNat = 0 ∧ b.toNat = 0 ∧ c.toNat = 0 ∧ d.toNat = 0 := by
      show [a, b, c, d] = [0, 0, 0, 0] ↔ _
      simp only [List.cons.injEq, and_true, ← UInt8.toNat_inj]
      exact Iff.rfl
    show 4294967296 ≤ num8 [a, b, c, d, e, f, g, k] ↔ [a, b, c, d] ≠ zeros 4
    unfold num8
    simp only [List.foldl_cons, List.foldl_nil]
    rw [Ne, hz]
    omega
/-- A sector is right just where the statement says so. -/
theorem isG_law (s : T) (h : s.length = 64) : isG s = true ↔ s.take 8 = s.drop 56 ∧ (s.getD 0 0).toNat < 128 ∧ s.take 4 ≠ zeros 4 ∧ (s.getD 8 0).toNat ≤ 47 ∧ (s.take 56).drop (9 + (s.getD 8 0).toNat) = zeros (47 - (s.getD 8 0).toNat) := by
  have h8 : (s.take 8).length = 8 := by rw [List.length_take]; omega
  have e1 : (s.take 8).getD 0 0 = s.getD 0 0 := by
    rw [List.getD_eq_getElem?_getD, List.getD_eq_getElem?_getD, List.getElem?_take_of_lt (by decide)]
  have e2 : (s.take 8).take 4 = s.take 4 := by rw [List.take_take]; rfl
  have h1 := num8_hi h8
  have h2 := num8_lo h8
  rw [e1] at h1
  rw [e2] at h2
  have e3 : (s.take 56).drop (9 + (s.getD 8 0).toNat) = (s.drop (9 + (s.getD 8 0).toNat)).take (47 - (s.getD 8 0).toNat) := by
    rw [List.drop_take]
    congr 1
    omega
  rw [e3]
  unfold isG
  simp only [Bool.and_eq_true, decide_eq_true_eq]
  constructor
  · rintro ⟨⟨⟨⟨⟨_, a2⟩, a3⟩, a4⟩, a5⟩, a6⟩
    exact ⟨a2, h1.1 a6, h2.1 a5, a3, a4⟩
  · rintro ⟨a1, a2, a3, a4, a5⟩
    exact ⟨⟨⟨⟨⟨h, a1⟩, a4⟩, a5⟩, h2.2 a3⟩, h1.2 a2⟩
end Grd
end Go.Proofs.YtcgdjljfgjoliaaDoor
