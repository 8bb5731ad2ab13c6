/-
  A front that grows, purely: what a leaf more makes of its roots. The contract of the program's join.
-/
import Derived.Test.YtphhaiccpllnpaaDoorMkPath
import Derived.Test.YtphhaiccpllnpaaDoorMkTz
namespace Go.Proofs.YtphhaiccpllnpaaDoor
open Go.RowKit
set_option linter.unusedVariables false

namespace Mk
theorem fold_one (l : List Mill.En) (x : T) : fold l [x] = x := by unfold fold; rfl
theorem fold_two (l : List Mill.En) : ∀ (Q : List T) (y x : T), fold l (Q ++ [y, x]) = fold l (Q ++ [node l y x])
  | [], y, x => by
    show fold l (y :: [x]) = fold l [node l y x]
    rw [fold_more l y [x] (by simp), fold_one, fold_one]
  | a :: Q, y, x => by
    show fold l (a :: (Q ++ [y, x])) = fold l (a :: (Q ++ [node l y x]))
    rw [fold_more l a _ (by simp), fold_more l a _ (by simp), fold_two l Q y x]
theorem carry_fold (l : List Mill.En) : ∀ (m : Nat) (K J : List T) (x : T), J.length = ones m → carry l m (K ++ J) x = K ++ [fold l (J ++ [x])] := by
  intro m
  induction m using Nat.strongRecOn with
  | ind m ih =>
    intro K J x hJ
    by_cases h : m % 2 = 1
    · rw [ones_odd h] at hJ
      obtain ⟨Q, y, rfl, hq⟩ := snoc_of hJ
      rw [← List.append_assoc, carry_odd l m (K ++ Q) x y h, ih (m / 2) (by omega) K Q (node l y x) hq, List.append_assoc]
      show _ = K ++ [fold l (Q ++ [y, x])]
      rw [fold_two]
    · rw [ones_even h] at hJ
      have hn := List.length_eq_zero_iff.mp hJ
      subst hn
      rw [carry_even l m _ x h, List.append_nil, List.nil_append, fold_one]
theorem ones_peaks (l : List Mill.En) : ∀ (m j : Nat) (L : List T), L.length = m * 2 ^ j → ones m ≤ (peaks l L).length := by
  intro m
  induction m using Nat.strongRecOn with
  | ind m ih =>
    intro j L hL
    have hj := Nat.two_pow_pos j
    have hs : 2 ^ (j + 1) = 2 * 2 ^ j := by rw [Nat.pow_succ]; omega
    by_cases h : m % 2 = 1
    · have hc : (m - 1) * 2 ^ j = m / 2 * 2 ^ (j + 1) := by
        rw [hs, ← Nat.mul_assoc]; congr 1; omega
      have hm : m * 2 ^ j = (m - 1) * 2 ^ j + 2 ^ j := by
        have : m = (m - 1) + 1 := by omega
        rw [this, Nat.add_mul, Nat.one_mul]; rfl
      have hL1 : (L.take ((m - 1) * 2 ^ j)).length = (m - 1) * 2 ^ j := by rw [List.length_take]; omega
      have hL2 : (L.drop ((m - 1) * 2 ^ j)).length = 2 ^ j := by rw [List.length_drop]; omega
      have hsplit : L.take ((m - 1) * 2 ^ j) ++ L.drop ((m - 1) * 2 ^ j) = L := List.take_append_drop _ _
      generalize L.take ((m - 1) * 2 ^ j) = A at hL1 hsplit
      generalize L.drop ((m - 1) * 2 ^ j) = Y at hL2 hsplit
      subst hsplit
      rw [peaks_even l Y j hL2 _ A (m / 2) hL1 hc, ones_odd h, List.length_append]
      have := ih (m / 2) (by omega) (j + 1) A (by rw [hL1, hc])
      simp only [List.length_cons, List.length_nil]
      omega
    · rw [ones_even h]; exact Nat.zero_le _
theorem peaks_len (l : List Mill.En) : ∀ (n : Nat) (L : List T), L.length = n → (peaks l L).length ≤ n := by
  intro n
  induction n using Nat.strongRecOn with
  | ind n ih =>
    intro L hn
    by_cases h1 : 1 ≤ n
    · have hp := most_pos n
      have hm := most_le h1
      rw [peaks_more l L (by omega), hn, List.length_cons]
      have := ih (n - most n) (by omega) (L.drop (most n)) (by rw [List.length_drop]; omega)
      omega
    · have h0 : L = [] := List.length_eq_zero_iff.mp (by omega)
      rw [h0, peaks_nil]; exact Nat.zero_le _
/-- What a leaf more makes of the roots. -/
theorem peaks_next (l : List Mill.En) (L : List T) (x : T) : ∃ K J, peaks l L = K ++ J ∧ J.length = ones L.length ∧ peaks l (L ++ [x]) = K ++ [fold l (J ++ [x])] := by
  have h := ones_peaks l L.length 0 L (by simp)
  refine ⟨(peaks l L).take ((peaks l L).length - ones L.length), (peaks l L).drop ((peaks l L).length - ones L.length), (List.take_append_drop _ _).symm, by rw [List.length_drop]; omega, ?_⟩
  rw [peaks_add]
  have := carry_fold l L.length ((peaks l L).take ((peaks l L).length - ones L.length)) ((peaks l L).drop ((peaks l L).length - ones L.length)) x (by rw [List.length_drop]; omega)
  rwa [List.take_append_drop] at this
theorem peaks_short (l : List Mill.En) (hr : Mill.right l = true) (B : Nat) (hB : 32 ≤ B) : ∀ (n : Nat) (L : List T), L.length = n → (∀ s, s ∈ L → s.length ≤ B) → ∀ s, s ∈ peaks l L → s.length ≤ B := by
  intro n
  induction n using Nat.strongRecOn with
  | ind n ih =>
    intro L hn hs s hx
    by_cases h1 : 1 ≤ n
    · have hp := most_pos n
      rw [peaks_more l L (by omega), hn] at hx
      rcases List.mem_cons.1 hx with rfl | hx
      · exact root_short l hr _ B hB (fun s h => hs s (List.mem_of_mem_take h))
      · exact ih (n - most n) (by omega) (L.drop (most n)) (by rw [List.length_drop]; omega) (fun s h => hs s (List.mem_of_mem_drop h)) s hx
    · have h0 : L = [] := List.length_eq_zero_iff.mp (by omega)
      rw [h0, peaks_nil] at hx; exact absurd hx (by simp)
theorem fold_short (l : List Mill.En) (hr : Mill.right l = true) (B : Nat) (hB : 32 ≤ B) (x : T) (P : List T) (h : ∀ s, s ∈ x :: P → s.length ≤ B) : (fold l (x :: P)).length ≤ B := by
  by_cases hP : P = []
  · subst hP; rw [fold_one]; exact h x (by simp)
  · rw [fold_more l x P hP, node_len l hr]; exact hB
end Mk

section
variable (g nb : Nat) (tv : Option Nat) (l : List Mill.En)
/-- What a call on a mill leaves that sums at most so many texts. -/
def FewPost (w : World) (g nb : Nat) (tv : Option Nat) (l : List Mill.En) (st : Mill.St) (bnd : Nat) (v : Value) (e : Ending) (w' : World) : Prop :=
  ∃ ts : List (List UInt8), e = .returned v ∧ ts.length ≤ bnd ∧ MkW w' g nb tv l (Mill.steps l ts st) ∧ Mv w w' [g, nb]
set_option maxRecDepth 100000 in
set_option maxHeartbeats 4000000 in
theorem join_any (hr : Mill.right l = true) (b : Nat) (hbs : b ∉ [g, nb]) : ∀ (P : List (List UInt8)) (x : List UInt8) (off cap : Nat) (st : Mill.St) (w : World), P.length ≤ 1000 → P.length + 1 ≤ cap → cap ≤ 9223372036854775807 →
    TRow w b off (x :: P) → b < w.heap.size → (∀ s, s ∈ x :: P → s.length ≤ 1000000) → st.sums + P.length ≤ 1000000000 → MkW w g nb tv l st →
    Calls Tryd.prog 37 #[.pointer (some ⟨g, 0, none⟩), .slice (some ⟨b, off, none⟩) (P.length + 1) cap] w (FewPost w g nb tv l st P.length (.string (S (Mk.fold l (x :: P))))) := by
  intro P
  induction P with
  | nil =>
    intro x off cap st w h1 hcap hcm hrow hb hs hsum hm
    rw [Mk.fold_one]
    have hc : w.cell? ⟨b, off + 0, none⟩ = some (.string (S x)) := hrow 0 (by simp)
    have hc0 : w.cell? ⟨b, off, none⟩ = some (.string (S x)) := hc
    have HM := Lib.hid hm; clear hm hrow hs
    have HF : Hid (∀ w', Below w.heap.size w w' → FewPost w g nb tv l st 0 (.string (S x)) (.returned (.string (S x))) w') := Lib.hid (fun w' hb' => ⟨[], rfl, Nat.zero_le _, HM.out.below hb', Mv.of_below hb' _⟩)
    show Calls Tryd.prog 37 #[.pointer (some ⟨g, 0, none⟩), .slice (some ⟨b, off, none⟩) 1 cap] w (FewPost w g nb tv l st 0 (.string (S x)))
    have h1c : 1 ≤ cap := by simpa using hcap
    by_cases hc1 : cap = 1
    · subst hc1
      go_enter Tryd.func37, Tryd.ntmps37
      go_upto_region 1 with (fail)
      go_quiet (fail)
      go_wp2_with fail
      go_ret
      exact HF.out _ (belowN (Below.refl _ _) _)
    · have hne : ¬ cap = 1 := hc1
      go_enter Tryd.func37, Tryd.ntmps37
      go_upto_region 1 with (fail)
      go_quiet (fail)
      go_wp2_with fail
      go_ret
      exact HF.out _ (belowN (Below.refl _ _) _)
  | cons y P ih =>
    intro x off cap st w h1 hcap hcm hrow hb hs hsum hm
    rw [Mk.fold_more l x (y :: P) (by simp)]
    have hlen : (y :: P).length = P.length + 1 := rfl
    rw [hlen] at h1 hcap hsum ⊢
    have hc : w.cell? ⟨b, off + 0, none⟩ = some (.string (S x)) := hrow 0 (by simp)
    have hc0 : w.cell? ⟨b, off, none⟩ = some (.string (S x)) := hc
    have hrow2 : TRow w b (off + 1) (y :: P) := hrow.drop 1
    have hI := fun w1 (hv : Mv w w1 [g, nb]) hm1 => ih y (off + 1) (P.length + 1) st w1 (by omega) (Nat.le_refl _) (by omega) (hrow2.mv hv hb hbs) (Nat.lt_of_lt_of_le hb hv.size) (fun s h => hs s (List.mem_cons_of_mem _ h)) (by omega) hm1
    have hfs := Mk.fold_short l hr 1000000 (by omega) y P (fun s h => hs s (List.mem_cons_of_mem _ h))
    have hxs := hs x (by simp)
    have hN := fun w2 st2 hm2 hst => mkNode_any g nb tv l hr st2 w2 x (Mk.fold l (y :: P)) hm2 (by omega) (by omega) hst
    have HM := Lib.hid hm
    unfold FewPost at hI ⊢
    unfold MkPost at hN
    clear ih hrow hrow2 hs hm
    generalize Mk.fold l (y :: P) = fy at *
    generalize Mk.node l x fy = z at *
    generalize P.length = n at *
    obtain ⟨tx, htx⟩ : ∃ t, [(1 :: x) ++ fy] = t := ⟨_, rfl⟩
    rw [htx] at hN
    have htl : tx.length = 1 := by rw [← htx]; rfl
    clear htx
    have HI := Lib.hid hI; clear hI
    have HN := Lib.hid hN; clear hN
    have hne : ¬ cap = 1 := by omega
    have hn0 : (((n : Nat) : Int) + 1 == 0) = false := by simpa using (show ¬ ((n : Nat) : Int) + 1 = 0 by omega)
    go_enter Tryd.func37, Tryd.ntmps37
    go_upto_region 1 with (fail)
    go_quiet (fail)
    have hv1 := Mv.of_below (belowN (Below.refl w.heap.size w) nq) [g, nb]
    have hm1 := HM.out.below (belowN (Below.refl w.heap.size w) nq)
    go_wp2_with fail
    refine (HI.out _ hv1 hm1).mono ?_
    rintro e w2 ⟨ts, rfl, hts, hm2, hv2⟩
    go_wp2_with fail
    refine (HN.out w2 _ hm2 (by rw [Mill.steps_sums]; omega)).mono ?_
    rintro e w3 ⟨rfl, hm3, hv3⟩
    go_wp2_with fail
    go_ret
    exact ⟨ts ++ tx, rfl, by rw [List.length_append]; omega, by rw [Mill.steps_app]; exact hm3, (hv1.trans hv2).trans hv3⟩
end
end Go.Proofs.YtphhaiccpllnpaaDoor
