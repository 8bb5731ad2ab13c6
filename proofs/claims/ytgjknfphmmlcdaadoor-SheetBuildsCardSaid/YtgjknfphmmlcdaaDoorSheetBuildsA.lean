/-
  SheetBuilds where it is too long, or told to be of no size.
-/
import Derived.Test.YtgjknfphmmlcdaaDoorShtFin
import Derived.Test.YtgjknfphmmlcdaaDoorShtArg
import Derived.Test.YtgjknfphmmlcdaaDoorLaw
import Derived.Test.YtgjknfphmmlcdaaDoorRows
namespace Go.Proofs.YtgjknfphmmlcdaaDoor
open Go.ChangeShapes Go.WideShapes Go.ChangeAt Go.RowKit
open Go.ChangeMaps (open_string shut_string)
set_option linter.unusedVariables false

set_option maxHeartbeats 4000000 in
set_option maxRecDepth 100000 in
theorem sheetBuilds_many (n : Int) (A2 A B : Option Addr) (k1 k2 k3 c1 c2 c3 : Nat) (w : World) (hT : Tabs w) (h : (20 : Int) < (k1 : Int) ∨ (20 : Int) < (k2 : Int) ∨ (20 : Int) < (k3 : Int)) :
    Calls Tryd.prog 6 #[.int .i64 n, .slice A2 k1 c1, .slice A k2 c2, .slice B k3 c3] w fun e w' => e = .returned (.bool true) ∧ Below w.heap.size w w' := by
  have hT2 := hT.2.2
  have HT := Lib.hid hT; clear hT
  have hg : (20 : Int) < (k1 : Int) ∨ (¬ (20 : Int) < (k1 : Int) ∧ (20 : Int) < (k2 : Int)) ∨ (¬ (20 : Int) < (k1 : Int) ∧ ¬ (20 : Int) < (k2 : Int) ∧ (20 : Int) < (k3 : Int)) := by omega
  clear h
  rcases hg with h1 | ⟨h1, h2⟩ | ⟨h1, h2, h3⟩
  all_goals
    go_enter Tryd.func6, Tryd.ntmps6
    go_wp2_with fail
    refine (newMill_tv w).mono ?_
    rintro r1 w1 ⟨rfl, hM1, hb1, hs1⟩
    have H1 := Lib.hid (OneK.made HT.out hM1 hb1)
    clear hM1 hb1
    go_wp2_with fail
    refine (H1.out.awake8).mono ?_
    rintro e w2 ⟨rfl, hb2⟩
    go_wp2_with fail
    go_ret
    exact ⟨rfl, hb2⟩

set_option maxHeartbeats 4000000 in
set_option maxRecDepth 100000 in
theorem sheetBuilds_size (n : Int) (A2 A B : Option Addr) (P : List Int) (lf nd : List (List UInt8)) (c1 c2 c3 : Nat) (w : World) (hT : Tabs w) (h1 : ¬ (20 : Int) < (P.length : Int)) (h2 : ¬ (20 : Int) < (lf.length : Int)) (h3 : ¬ (20 : Int) < (nd.length : Int))
    (hp : RowI w [] A2 P) (hc1 : P.length ≤ c1) (hm1 : c1 ≤ 9223372036854775807) (hA : RowA w A lf) (hc2 : lf.length ≤ c2) (hm2 : c2 ≤ 9223372036854775807) (sA : ∀ s ∈ lf, s.length ≤ 1000000000000000)
    (hB : RowA w B nd) (hc3 : nd.length ≤ c3) (hm3 : c3 ≤ 9223372036854775807) (sB : ∀ s ∈ nd, s.length ≤ 1000000000000000) (hno : ¬ Sht.rbOk n P lf) :
    Calls Tryd.prog 6 #[.int .i64 n, .slice A2 P.length c1, .slice A lf.length c2, .slice B nd.length c3] w fun e w' => e = .returned (.bool true) ∧ Below w.heap.size w w' := by
  have hT2 := hT.2.2
  have HT := Lib.hid hT; clear hT
  have hRb := fun W st (hW : OneK w W st) (hs : st.sums ≤ 1000000) => shRebuild_any (w.heap.size + 1) w.heap.size none [] rfl n A2 A B P lf nd c1 c2 c3 st W hc1 hm1 (RowCA.at (w0 := w) hp hW.b two_low) hc2 hm2 (hA.at hW.b two_low) sA hc3 hm3 (hB.at hW.b two_low) sB (by omega) hW.m
  have hv : Sht.rbV [] n P lf nd = [] := by unfold Sht.rbV; rw [if_neg (fun k => hno k.1)]
  have hc : Sht.rbC n P lf nd = 21 := by unfold Sht.rbC; rw [if_neg hno]
  rw [hv, hc] at hRb
  unfold MkPost at hRb
  have hR := fun W (hW : Below w.heap.size w W) => slRising_any A2 c1 P n [] W (RowC.below hp hW) hc1 hm1
  have hg : n < 1 ∨ (¬ n < 1 ∧ 12 < n) ∨ (¬ n < 1 ∧ ¬ 12 < n ∧ ((P.length : Int) == 0) = true) ∨ (¬ n < 1 ∧ ¬ 12 < n ∧ ((P.length : Int) == 0) = false ∧ ((P.length : Int) != (lf.length : Int)) = true) ∨
      (¬ n < 1 ∧ ¬ 12 < n ∧ ((P.length : Int) == 0) = false ∧ ((P.length : Int) != (lf.length : Int)) = false ∧ Sht.rising P n = false) := by
    by_cases a1 : n < 1
    · exact Or.inl a1
    by_cases a2 : 12 < n
    · exact Or.inr (Or.inl ⟨a1, a2⟩)
    by_cases a3 : P.length = 0
    · exact Or.inr (Or.inr (Or.inl ⟨a1, a2, by simpa using (show (P.length : Int) = 0 by omega)⟩))
    have b3 : ((P.length : Int) == 0) = false := by simpa using (show ¬ (P.length : Int) = 0 by omega)
    by_cases a4 : P.length = lf.length
    · refine Or.inr (Or.inr (Or.inr (Or.inr ⟨a1, a2, b3, by rw [a4]; simp, ?_⟩)))
      cases hr : Sht.rising P n with
      | false => rfl
      | true => exact absurd ⟨by omega, by omega, fun e => a3 (by rw [e]; rfl), a4, hr⟩ hno
    · exact Or.inr (Or.inr (Or.inr (Or.inl ⟨a1, a2, b3, by simpa using (show ¬ (P.length : Int) = (lf.length : Int) by omega)⟩)))
  generalize Sht.rbTs [] n P lf nd = tr at *
  generalize Sht.rising P n = rs at *
  have HRB := Lib.hid hRb; clear hRb
  have HR := Lib.hid hR; clear hR
  have hf0 : Mill.fresh.sums = 0 := rfl
  clear hp hA hB sA sB hno hv hc
  generalize P.length = k1 at *
  generalize lf.length = k2 at *
  generalize nd.length = k3 at *
  rcases hg with g1 | ⟨g1, g2⟩ | ⟨g1, g2, g3⟩ | ⟨g1, g2, g3, g4⟩ | ⟨g1, g2, g3, g4, rfl⟩
  all_goals
    go_enter Tryd.func6, Tryd.ntmps6
    go_wp2_with fail
    refine (newMill_tv w).mono ?_
    rintro r1 w1 ⟨rfl, hM1, hb1, hs1⟩
    have H1 := Lib.hid (OneK.made HT.out hM1 hb1)
    clear hM1 hb1
    go_wp2_with fail
    refine (HRB.out _ _ H1.out (by omega)).mono ?_
    rintro e w2 ⟨rfl, hm2', hv2⟩
    have H2 := Lib.hid (H1.out.step hm2' hv2); clear hm2' hv2 H1
    go_wp2_with fail
    try
      refine (HR.out _ H2.out.b).mono ?_
      rintro e w3 ⟨rfl, hb3⟩
      replace H2 := Lib.hid (H2.out.below hb3); clear hb3
      go_wp2_with fail
    refine (H2.out.awake8).mono ?_
    rintro e w4 ⟨rfl, hb4⟩
    go_wp2_with fail
    go_ret
    exact ⟨rfl, hb4⟩

end Go.Proofs.YtgjknfphmmlcdaaDoor
