/-
  The contracts of the program's climb and of the seventh layer's statements' own Climb.
-/
import Derived.Test.YtphhaiccpllnpaaDoorMkCall
namespace Go.Proofs.YtphhaiccpllnpaaDoor
open Go.RowKit
set_option linter.unusedVariables false

namespace Mk
theorem climbAsks_end (l : List Mill.En) (leaf : T) (i n : Nat) (p : List T) (h : n = 1 ∨ p = []) : climbAsks l leaf i n p = [] := by rw [climbAsks, dif_pos h]
theorem climbAsks_len (l : List Mill.En) (leaf : T) : ∀ (i n : Nat) (p : List T), (climbAsks l leaf i n p).length ≤ p.length := by
  intro i n p
  obtain ⟨m, hm⟩ : ∃ m, p.length = m := ⟨_, rfl⟩
  induction m generalizing i n p with
  | zero =>
    rw [climbAsks_end l leaf i n p (Or.inr (List.length_eq_zero_iff.mp hm))]
    exact Nat.zero_le _
  | succ m ih =>
    obtain ⟨q, x, rfl, hq⟩ := snoc_of hm
    rw [climbAsks]
    split
    · exact Nat.zero_le _
    · rw [List.dropLast_concat]
      split
      · have := ih i (below n) q hq
        rw [List.length_append, List.length_append]; simp only [List.length_cons, List.length_nil]; omega
      · have := ih (i - below n) (n - below n) q hq
        rw [List.length_append, List.length_append]; simp only [List.length_cons, List.length_nil]; omega
theorem climb_short (l : List Mill.En) (hr : Mill.right l = true) (leaf : T) (i n : Nat) (p : List T) (B : Nat) (hB : 32 ≤ B) (h : leaf.length ≤ B) : (climb l leaf i n p).length ≤ B := by
  rw [climb]
  split
  · exact h
  · split
    · rw [node_len l hr]; exact hB
    · rw [node_len l hr]; exact hB
end Mk

section
variable (g nb : Nat) (tv : Option Nat) (l : List Mill.En)

set_option maxRecDepth 100000 in
set_option maxHeartbeats 4000000 in
theorem climb_any (hr : Mill.right l = true) : ∀ (n : Nat) (leaf : List UInt8) (i : Nat) (p : List (List UInt8)) (A : Option Addr) (cap : Nat) (st : Mill.St) (w : World), 1 ≤ n → n ≤ 65536 → i < n → p.length = Mk.depth i n → p.length ≤ cap → cap ≤ 9223372036854775807 →
    RowS w [g, nb] A p → leaf.length ≤ 1000000 → (∀ s, s ∈ p → s.length ≤ 1000000) → st.sums + p.length ≤ 4000000000000000000 → MkW w g nb tv l st →
    Calls Tryd.prog 46 #[.pointer (some ⟨g, 0, none⟩), .string (S leaf), .int .i64 (i : Int), .int .i64 (n : Int), .slice A p.length cap] w (MkPost w g nb tv l st (Mk.climbAsks l leaf i n p) (.string (S (Mk.climb l leaf i n p)))) := by
  intro n
  induction n using Nat.strongRecOn with
  | ind n ih =>
    intro leaf i p A cap st w h1 hn6 hi hp hcap hcm hrow hleaf hs hsum hm
    by_cases h2 : 2 ≤ n
    · have hlt := Mk.below_lt h2
      have hpos := Mk.below_pos n
      have hB := fun W => splitB_any n W h2 hn6
      have hb1 : ((n : Int) == 1) = false := by simpa using (show ¬ (n : Int) = 1 by omega)
      have hd : p.length = (if i < Mk.below n then Mk.depth i (Mk.below n) else Mk.depth (i - Mk.below n) (n - Mk.below n)) + 1 := by
        rw [hp]; by_cases hik : i < Mk.below n
        · rw [Mk.depth_left h2 hik, if_pos hik]
        · rw [Mk.depth_right h2 hik, if_neg hik]
      obtain ⟨q, x, rfl, hq⟩ := Mk.snoc_of hd
      obtain ⟨b, off, rfl, hb, hbs, hrw⟩ := hrow (by simp)
      have hx := hs x (by simp)
      have hsq : ∀ s, s ∈ q → s.length ≤ 1000000 := fun s h => hs s (List.mem_append_left _ h)
      have hlen : (q ++ [x]).length = q.length + 1 := by simp
      rw [hlen] at hcap hsum ⊢
      have hC := fun W (hW : Mv w W [g, nb]) => cut_any b off cap q x W (hrw.mv hW hb hbs) hcap hcm
      by_cases hik : i < Mk.below n
      · rw [if_pos hik] at hq
        rw [Mk.climbAsks_left l leaf i n q x h2 hik, Mk.climb_left l leaf i n q x h2 hik]
        have hI := fun w1 (hv : Mv w w1 [g, nb]) hm1 => ih (Mk.below n) hlt leaf i q (some ⟨b, off, none⟩) q.length st w1 hpos (by omega) hik hq (Nat.le_refl _) (by omega) (RowS.of (Nat.lt_of_lt_of_le hb hv.size) hbs (hrw.front.mv hv hb hbs)) hleaf hsq (by omega) hm1
        have hal := Mk.climbAsks_len l leaf i (Mk.below n) q
        have hcl := Mk.climb_short l hr leaf i (Mk.below n) q 100000000 (by omega) (by omega)
        have hN := fun w2 hm2 => mkNode_any g nb tv l hr (Mill.steps l (Mk.climbAsks l leaf i (Mk.below n) q) st) w2 (Mk.climb l leaf i (Mk.below n) q) x hm2 hcl (by omega) (by rw [Mill.steps_sums]; omega)
        have HM := Lib.hid hm
        unfold MkPost at hI hN ⊢
        rw [Mill.steps_app]
        clear ih hrow hs hsum hm hleaf hsq hrw hal hcl hp hd
        generalize Mk.climb l leaf i (Mk.below n) q = cl at *
        generalize Mk.node l cl x = y at *
        generalize [(1 :: cl) ++ x] = tx at *
        generalize Mk.climbAsks l leaf i (Mk.below n) q = ts at *
        generalize Mk.below n = k at *
        generalize Mill.steps l tx (Mill.steps l ts st) = st2 at *
        generalize Mill.steps l ts st = st1 at *
        have HI := Lib.hid hI; clear hI
        have HN := Lib.hid hN; clear hN
        have HB := Lib.hid hB; clear hB
        have HC := Lib.hid hC; clear hC
        have hik' : (i : Int) < (k : Int) := by omega
        clear hq hlen
        generalize q.length = qn at *
        go_enter Tryd.func46, Tryd.ntmps46
        go_wp2_with fail
        refine (HB.out _).mono ?_
        rintro e w0 ⟨rfl, rfl⟩
        go_wp2_with fail
        refine (HC.out _ (Mv.refl _ _)).mono ?_
        rintro e w1 ⟨rfl, hb1w⟩
        have hv1 := Mv.of_below hb1w [g, nb]
        have hm1 := HM.out.below hb1w
        go_wp2_with fail
        refine (HI.out w1 hv1 hm1).mono ?_
        rintro e w2 ⟨rfl, hm2, hv2⟩
        go_wp2_with fail
        refine (HN.out w2 hm2).mono ?_
        rintro e w3 ⟨rfl, hm3, hv3⟩
        go_wp2_with fail
        go_ret
        exact ⟨rfl, hm3, (hv1.trans hv2).trans hv3⟩
      · rw [if_neg hik] at hq
        rw [Mk.climbAsks_right l leaf i n q x h2 hik, Mk.climb_right l leaf i n q x h2 hik]
        have hI := fun w1 (hv : Mv w w1 [g, nb]) hm1 => ih (n - Mk.below n) (by omega) leaf (i - Mk.below n) q (some ⟨b, off, none⟩) q.length st w1 (by omega) (by omega) (by omega) hq (Nat.le_refl _) (by omega) (RowS.of (Nat.lt_of_lt_of_le hb hv.size) hbs (hrw.front.mv hv hb hbs)) hleaf hsq (by omega) hm1
        have hal := Mk.climbAsks_len l leaf (i - Mk.below n) (n - Mk.below n) q
        have hcl := Mk.climb_short l hr leaf (i - Mk.below n) (n - Mk.below n) q 100000000 (by omega) (by omega)
        have hN := fun w2 hm2 => mkNode_any g nb tv l hr (Mill.steps l (Mk.climbAsks l leaf (i - Mk.below n) (n - Mk.below n) q) st) w2 x (Mk.climb l leaf (i - Mk.below n) (n - Mk.below n) q) hm2 (by omega) hcl (by rw [Mill.steps_sums]; omega)
        rw [show ((i - Mk.below n : Nat) : Int) = (i : Int) - (Mk.below n : Int) from by omega, show ((n - Mk.below n : Nat) : Int) = (n : Int) - (Mk.below n : Int) from by omega] at hI
        have HM := Lib.hid hm
        unfold MkPost at hI hN ⊢
        rw [Mill.steps_app]
        clear ih hrow hs hsum hm hleaf hsq hrw hal hcl hp hd
        generalize Mk.climb l leaf (i - Mk.below n) (n - Mk.below n) q = cl at *
        generalize Mk.node l x cl = y at *
        generalize [(1 :: x) ++ cl] = tx at *
        generalize Mk.climbAsks l leaf (i - Mk.below n) (n - Mk.below n) q = ts at *
        generalize Mk.below n = k at *
        generalize Mill.steps l tx (Mill.steps l ts st) = st2 at *
        generalize Mill.steps l ts st = st1 at *
        have HI := Lib.hid hI; clear hI
        have HN := Lib.hid hN; clear hN
        have HB := Lib.hid hB; clear hB
        have HC := Lib.hid hC; clear hC
        have hik' : ¬ (i : Int) < (k : Int) := by omega
        clear hq hlen
        generalize q.length = qn at *
        go_enter Tryd.func46, Tryd.ntmps46
        go_wp2_with fail
        refine (HB.out _).mono ?_
        rintro e w0 ⟨rfl, rfl⟩
        go_wp2_with fail
        refine (HC.out _ (Mv.refl _ _)).mono ?_
        rintro e w1 ⟨rfl, hb1w⟩
        have hv1 := Mv.of_below hb1w [g, nb]
        have hm1 := HM.out.below hb1w
        go_wp2_with fail
        refine (HI.out w1 hv1 hm1).mono ?_
        rintro e w2 ⟨rfl, hm2, hv2⟩
        go_wp2_with fail
        refine (HN.out w2 hm2).mono ?_
        rintro e w3 ⟨rfl, hm3, hv3⟩
        go_wp2_with fail
        go_ret
        exact ⟨rfl, hm3, (hv1.trans hv2).trans hv3⟩
    · have h1n : n = 1 := by omega
      subst h1n
      have hi0 : i = 0 := by omega
      subst hi0
      rw [Mk.depth_none (by omega)] at hp
      have hpn := List.length_eq_zero_iff.mp hp
      subst hpn
      rw [Mk.climb_end l leaf 0 1 [] (Or.inl rfl), Mk.climbAsks_end l leaf 0 1 [] (Or.inl rfl)]
      have HM := Lib.hid hm; clear hm ih hrow
      go_enter Tryd.func46, Tryd.ntmps46
      go_wp2_with fail
      go_ret
      exact ⟨rfl, HM.out, Mv.refl _ _⟩

set_option maxRecDepth 100000 in
set_option maxHeartbeats 4000000 in
theorem mkClimb_any (hr : Mill.right l = true) : ∀ (n : Nat) (leaf : List UInt8) (i : Nat) (p : List (List UInt8)) (A : Option Addr) (cap : Nat) (st : Mill.St) (w : World), 1 ≤ n → n ≤ 65536 → i < n → p.length = Mk.depth i n → p.length ≤ cap → cap ≤ 9223372036854775807 →
    RowS w [g, nb] A p → leaf.length ≤ 1000000 → (∀ s, s ∈ p → s.length ≤ 1000000) → st.sums + p.length ≤ 4000000000000000000 → MkW w g nb tv l st →
    Calls Tryd.prog 27 #[.pointer (some ⟨g, 0, none⟩), .string (S leaf), .int .i64 (i : Int), .int .i64 (n : Int), .slice A p.length cap] w (MkPost w g nb tv l st (Mk.climbAsks l leaf i n p) (.string (S (Mk.climb l leaf i n p)))) := by
  intro n
  induction n using Nat.strongRecOn with
  | ind n ih =>
    intro leaf i p A cap st w h1 hn6 hi hp hcap hcm hrow hleaf hs hsum hm
    by_cases h2 : 2 ≤ n
    · have hlt := Mk.below_lt h2
      have hpos := Mk.below_pos n
      have hB := fun W => mkBelow_any n h2 (by omega) W
      have hb1 : ((n : Int) == 1) = false := by simpa using (show ¬ (n : Int) = 1 by omega)
      have hd : p.length = (if i < Mk.below n then Mk.depth i (Mk.below n) else Mk.depth (i - Mk.below n) (n - Mk.below n)) + 1 := by
        rw [hp]; by_cases hik : i < Mk.below n
        · rw [Mk.depth_left h2 hik, if_pos hik]
        · rw [Mk.depth_right h2 hik, if_neg hik]
      obtain ⟨q, x, rfl, hq⟩ := Mk.snoc_of hd
      obtain ⟨b, off, rfl, hb, hbs, hrw⟩ := hrow (by simp)
      have hx := hs x (by simp)
      have hsq : ∀ s, s ∈ q → s.length ≤ 1000000 := fun s h => hs s (List.mem_append_left _ h)
      have hlen : (q ++ [x]).length = q.length + 1 := by simp
      rw [hlen] at hcap hsum ⊢
      have hcell : w.cell? ⟨b, off + q.length, none⟩ = some (.string (S x)) := by
        have := hrw q.length (by simp)
        simpa using this
      have hq0 : (((q.length : Nat) : Int) + 1 == 0) = false := by simpa using (show ¬ ((q.length : Nat) : Int) + 1 = 0 by omega)
      by_cases hik : i < Mk.below n
      · rw [if_pos hik] at hq
        rw [Mk.climbAsks_left l leaf i n q x h2 hik, Mk.climb_left l leaf i n q x h2 hik]
        have hI := fun w1 (hv : Mv w w1 [g, nb]) hm1 => ih (Mk.below n) hlt leaf i q (some ⟨b, off, none⟩) cap st w1 hpos (by omega) hik hq (by omega) hcm (RowS.of (Nat.lt_of_lt_of_le hb hv.size) hbs (hrw.front.mv hv hb hbs)) hleaf hsq (by omega) hm1
        have hal := Mk.climbAsks_len l leaf i (Mk.below n) q
        have hcl := Mk.climb_short l hr leaf i (Mk.below n) q 100000000 (by omega) (by omega)
        have hN := fun w2 hm2 => mkNode_any g nb tv l hr (Mill.steps l (Mk.climbAsks l leaf i (Mk.below n) q) st) w2 (Mk.climb l leaf i (Mk.below n) q) x hm2 hcl (by omega) (by rw [Mill.steps_sums]; omega)
        have HM := Lib.hid hm
        unfold MkPost at hI hN ⊢
        rw [Mill.steps_app]
        clear ih hrow hs hsum hm hleaf hsq hrw hal hcl hp hd
        generalize Mk.climb l leaf i (Mk.below n) q = cl at *
        generalize Mk.node l cl x = y at *
        generalize [(1 :: cl) ++ x] = tx at *
        generalize Mk.climbAsks l leaf i (Mk.below n) q = ts at *
        generalize Mk.below n = k at *
        generalize Mill.steps l tx (Mill.steps l ts st) = st2 at *
        generalize Mill.steps l ts st = st1 at *
        have HI := Lib.hid hI; clear hI
        have HN := Lib.hid hN; clear hN
        have HB := Lib.hid hB; clear hB

        have hik' : (i : Int) < (k : Int) := by omega
        clear hq hlen
        generalize q.length = qn at *
        go_enter Tryd.func27, Tryd.ntmps27
        go_wp2_with fail
        refine (HB.out _).mono ?_
        rintro e w0 ⟨rfl, rfl⟩
        have hv1 := Mv.refl w0 [g, nb]
        have hm1 := HM.out
        go_wp2_with fail
        refine (HI.out w0 hv1 hm1).mono ?_
        rintro e w2 ⟨rfl, hm2, hv2⟩
        go_wp2_with fail
        refine (HN.out w2 hm2).mono ?_
        rintro e w3 ⟨rfl, hm3, hv3⟩
        go_wp2_with fail
        go_ret
        exact ⟨rfl, hm3, (hv1.trans hv2).trans hv3⟩
      · rw [if_neg hik] at hq
        rw [Mk.climbAsks_right l leaf i n q x h2 hik, Mk.climb_right l leaf i n q x h2 hik]
        have hI := fun w1 (hv : Mv w w1 [g, nb]) hm1 => ih (n - Mk.below n) (by omega) leaf (i - Mk.below n) q (some ⟨b, off, none⟩) cap st w1 (by omega) (by omega) (by omega) hq (by omega) hcm (RowS.of (Nat.lt_of_lt_of_le hb hv.size) hbs (hrw.front.mv hv hb hbs)) hleaf hsq (by omega) hm1
        have hal := Mk.climbAsks_len l leaf (i - Mk.below n) (n - Mk.below n) q
        have hcl := Mk.climb_short l hr leaf (i - Mk.below n) (n - Mk.below n) q 100000000 (by omega) (by omega)
        have hN := fun w2 hm2 => mkNode_any g nb tv l hr (Mill.steps l (Mk.climbAsks l leaf (i - Mk.below n) (n - Mk.below n) q) st) w2 x (Mk.climb l leaf (i - Mk.below n) (n - Mk.below n) q) hm2 (by omega) hcl (by rw [Mill.steps_sums]; omega)
        rw [show ((i - Mk.below n : Nat) : Int) = (i : Int) - (Mk.below n : Int) from by omega, show ((n - Mk.below n : Nat) : Int) = (n : Int) - (Mk.below n : Int) from by omega] at hI
        have HM := Lib.hid hm
        unfold MkPost at hI hN ⊢
        rw [Mill.steps_app]
        clear ih hrow hs hsum hm hleaf hsq hrw hal hcl hp hd
        generalize Mk.climb l leaf (i - Mk.below n) (n - Mk.below n) q = cl at *
        generalize Mk.node l x cl = y at *
        generalize [(1 :: x) ++ cl] = tx at *
        generalize Mk.climbAsks l leaf (i - Mk.below n) (n - Mk.below n) q = ts at *
        generalize Mk.below n = k at *
        generalize Mill.steps l tx (Mill.steps l ts st) = st2 at *
        generalize Mill.steps l ts st = st1 at *
        have HI := Lib.hid hI; clear hI
        have HN := Lib.hid hN; clear hN
        have HB := Lib.hid hB; clear hB

        have hik' : ¬ (i : Int) < (k : Int) := by omega
        clear hq hlen
        generalize q.length = qn at *
        go_enter Tryd.func27, Tryd.ntmps27
        go_wp2_with fail
        refine (HB.out _).mono ?_
        rintro e w0 ⟨rfl, rfl⟩
        have hv1 := Mv.refl w0 [g, nb]
        have hm1 := HM.out
        go_wp2_with fail
        refine (HI.out w0 hv1 hm1).mono ?_
        rintro e w2 ⟨rfl, hm2, hv2⟩
        go_wp2_with fail
        refine (HN.out w2 hm2).mono ?_
        rintro e w3 ⟨rfl, hm3, hv3⟩
        go_wp2_with fail
        go_ret
        exact ⟨rfl, hm3, (hv1.trans hv2).trans hv3⟩
    · have h1n : n = 1 := by omega
      subst h1n
      have hi0 : i = 0 := by omega
      subst hi0
      rw [Mk.depth_none (by omega)] at hp
      have hpn := List.length_eq_zero_iff.mp hp
      subst hpn
      rw [Mk.climb_end l leaf 0 1 [] (Or.inl rfl), Mk.climbAsks_end l leaf 0 1 [] (Or.inl rfl)]
      have HM := Lib.hid hm; clear hm ih hrow
      go_enter Tryd.func27, Tryd.ntmps27
      go_wp2_with fail
      go_ret
      exact ⟨rfl, HM.out, Mv.refl _ _⟩
end
end Go.Proofs.YtphhaiccpllnpaaDoor
