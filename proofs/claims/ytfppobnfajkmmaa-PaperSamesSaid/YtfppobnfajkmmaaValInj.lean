/-
  Unlike values that may be have unlike bytes: plain.
-/
import Derived.Test.YtfppobnfajkmmaaValCmp
namespace Go.Proofs.Ytfppobnfajkmmaa
open Go.RowKit
set_option linter.unusedVariables false

theorem oct_inj (n m : Nat) : ∀ k, oct k n = oct k m → n % 256 ^ k = m % 256 ^ k := by
  intro k
  induction k with
  | zero => intro _; simp; omega
  | succ k ih =>
    intro h
    rw [oct, oct] at h
    injection h with h1 h2
    have h3 := congrArg UInt8.toNat h1
    simp at h3
    rw [Nat.mod_pow_succ, Nat.mod_pow_succ, ih h2, h3]
theorem oct8_inj {n m : Nat} (hn : n < 18446744073709551616) (hm : m < 18446744073709551616) (h : oct 8 n = oct 8 m) : n = m := by
  have h1 := oct_inj n m 8 h
  have h2 : (256 : Nat) ^ 8 = 18446744073709551616 := by decide
  rw [h2, Nat.mod_eq_of_lt hn, Nat.mod_eq_of_lt hm] at h1
  exact h1
theorem encL_small : ∀ n : Nat, n < 201 → M.encL (n : Int) = if n = 0 then [0] else [1, UInt8.ofNat n] := by decide +kernel
theorem text_inj {s t : List UInt8} (hs : s.length ≤ 200) (ht : t.length ≤ 200) (h : M.encL s.length ++ s = M.encL t.length ++ t) : s = t := by
  rw [encL_small _ (by omega), encL_small _ (by omega)] at h
  by_cases h1 : s.length = 0
  · rw [if_pos h1] at h
    by_cases h2 : t.length = 0
    · rw [List.eq_nil_of_length_eq_zero h1, List.eq_nil_of_length_eq_zero h2]
    · rw [if_neg h2] at h
      simp at h
  · rw [if_neg h1] at h
    by_cases h2 : t.length = 0
    · rw [if_pos h2] at h
      simp at h
    · rw [if_neg h2] at h
      simp at h
      exact h.2
theorem enc_inj {a b : Val} (ha : a.ok) (hb : b.ok) (hra : a.right = true) (hrb : b.right = true) (h : a.enc = b.enc) : a = b := by
  obtain ⟨a0, a4, ta, hca⟩ := Val.right_le hra
  obtain ⟨b0, b4, tb, hcb⟩ := Val.right_le hrb
  obtain ⟨ka, fa, ia, ba, xa⟩ := a
  obtain ⟨kb, fb, ib, bb, xb⟩ := b
  simp only [] at a0 a4 ta b0 b4 tb
  have h' : M.encL ka ++ Val.body ⟨ka, fa, ia, ba, xa⟩ = M.encL kb ++ Val.body ⟨kb, fb, ib, bb, xb⟩ := h
  have e0 : M.encL 0 = [0] := by decide +kernel
  have e1 : M.encL 1 = [1, 1] := by decide +kernel
  have e2 : M.encL 2 = [1, 2] := by decide +kernel
  have e3 : M.encL 3 = [1, 3] := by decide +kernel
  have e4 : M.encL 4 = [1, 4] := by decide +kernel
  have hk : ka = 0 ∨ ka = 1 ∨ ka = 2 ∨ ka = 3 ∨ ka = 4 := by omega
  have hl : kb = 0 ∨ kb = 1 ∨ kb = 2 ∨ kb = 3 ∨ kb = 4 := by omega
  have hkl : ka = kb := by
    rcases hk with rfl | rfl | rfl | rfl | rfl <;> rcases hl with rfl | rfl | rfl | rfl | rfl <;> first | rfl | (exfalso; simp only [e0, e1, e2, e3, e4] at h'; simp at h')
  subst hkl
  have hbd := List.append_cancel_left h'
  rcases hk with rfl | rfl | rfl | rfl | rfl
  · have c1 : Val.mk 0 fa ia ba xa = ⟨0, false, 0, 0, []⟩ := hca
    have c2 : Val.mk 0 fb ib bb xb = ⟨0, false, 0, 0, []⟩ := hcb
    rw [c1, c2]
  · have c1 : Val.mk 1 fa ia ba xa = ⟨1, fa, 0, 0, []⟩ := hca
    have c2 : Val.mk 1 fb ib bb xb = ⟨1, fb, 0, 0, []⟩ := hcb
    have hf : [if fa then (1 : UInt8) else 0] = [if fb then 1 else 0] := hbd
    rw [c1, c2]
    cases fa <;> cases fb <;> simp at hf ⊢
  · have c1 : Val.mk 2 fa ia ba xa = ⟨2, false, ia, 0, []⟩ := hca
    have c2 : Val.mk 2 fb ib bb xb = ⟨2, false, ib, 0, []⟩ := hcb
    have hf : oct 8 (w64 ia) = oct 8 (w64 ib) := hbd
    have hw := oct8_inj (by unfold w64; omega) (by unfold w64; omega) hf
    have h1 := ha.2.1
    have h2 := hb.2.1
    simp only [] at h1 h2
    have : ia = ib := by unfold w64 at hw; omega
    rw [c1, c2, this]
  · have c1 : Val.mk 3 fa ia ba xa = ⟨3, false, 0, Val.cbits ba, []⟩ := hca
    have c2 : Val.mk 3 fb ib bb xb = ⟨3, false, 0, Val.cbits bb, []⟩ := hcb
    have hf : oct 8 ba = oct 8 bb := hbd
    have hbb : ba = bb := oct8_inj ha.1 hb.1 hf
    rw [c1, c2, hbb]
  · have c1 : Val.mk 4 fa ia ba xa = ⟨4, false, 0, 0, xa⟩ := hca
    have c2 : Val.mk 4 fb ib bb xb = ⟨4, false, 0, 0, xb⟩ := hcb
    have hf : M.encL xa.length ++ xa = M.encL xb.length ++ xb := hbd
    rw [c1, c2, text_inj ta tb hf]
end Go.Proofs.Ytfppobnfajkmmaa
