/-
  The contract of the program's Rebuild, told whole: what it answers, right or wrong.
-/
import Derived.Test.YtgjknfphmmlcdaaDoorShtReb
import Derived.Test.YtgjknfphmmlcdaaDoorShtRise
namespace Go.Proofs.YtgjknfphmmlcdaaDoor
open Go.RowKit
set_option linter.unusedVariables false

namespace Sht
open Mk
theorem build_enough (l : List Mill.En) (pick : List Int) (hp : Rise pick) : ∀ (n at_ : Nat) (lf nd : List T), 1 ≤ n → cnt pick at_ n ≤ lf.length → siblings pick at_ n ≤ nd.length → ∃ r lf1 nd1, build l pick at_ n lf nd = some (r, lf1, nd1) := by
  intro n
  induction n using Nat.strongRecOn with
  | ind n ih =>
    intro at_ lf nd h1 hc hs
    cases h : has pick at_ n with
    | false =>
      rw [build_not l pick at_ n lf nd h]
      rw [siblings, if_pos h] at hs
      match nd, hs with
      | x :: rr, _ => exact ⟨x, lf, rr, rfl⟩
    | true =>
      by_cases h2 : 2 ≤ n
      · have hbl := below_lt h2
        have hpos := below_pos n
        have hcc : cnt pick at_ n = cnt pick at_ (below n) + cnt pick (at_ + below n) (n - below n) := by
          unfold cnt
          rw [split at_ (below n) n (by omega) pick hp, List.length_append]
        rw [siblings, if_neg (by simp [h]), dif_pos h2] at hs
        obtain ⟨a, lf2, nd2, e1⟩ := ih (below n) hbl at_ lf nd hpos (by omega) (by omega)
        obtain ⟨t1, t2, t3, t4⟩ := build_takes l pick hp _ _ _ _ _ _ _ hpos e1
        obtain ⟨b, lf3, nd3, e2⟩ := ih (n - below n) (by omega) (at_ + below n) lf2 nd2 (by omega) (by rw [t1, List.length_drop]; omega) (by rw [t3, List.length_drop]; omega)
        refine ⟨node l a b, lf3, nd3, ?_⟩
        rw [build_more l pick at_ n lf nd h h2, e1, Option.bind_some]
        dsimp only
        rw [e2, Option.bind_some]
      · have hn1 : n = 1 := by omega
        subst hn1
        have hc1 : cnt pick at_ 1 = 1 := by unfold cnt; rw [one at_ pick hp h]; rfl
        rw [hc1] at hc
        rw [build_leaf l pick at_ 1 lf nd h h2]
        match lf, hc with
        | x :: rr, _ => exact ⟨x, rr, nd, rfl⟩
/-- Whether Rebuild is asked within its bounds; whether the roots may be these. -/
def rbOk (n : Int) (pick : List Int) (lf : List T) : Prop := 1 ≤ n ∧ n ≤ 12 ∧ pick ≠ [] ∧ pick.length = lf.length ∧ rising pick n = true
def rbFit (n : Int) (pick : List Int) (nd : List T) : Prop := nd.length = siblings pick 0 n.toNat ∧ allSums nd = true
instance (n : Int) (pick : List Int) (lf : List T) : Decidable (rbOk n pick lf) := by unfold rbOk; infer_instance
instance (n : Int) (pick : List Int) (nd : List T) : Decidable (rbFit n pick nd) := by unfold rbFit; infer_instance
def rbC (n : Int) (pick : List Int) (lf nd : List T) : Int := if rbOk n pick lf then (if rbFit n pick nd then 0 else 20) else 21
def rbV (l : List Mill.En) (n : Int) (pick : List Int) (lf nd : List T) : T := if rbOk n pick lf ∧ rbFit n pick nd then ((build l pick 0 n.toNat lf nd).map (·.1)).getD [] else []
def rbTs (l : List Mill.En) (n : Int) (pick : List Int) (lf nd : List T) : List T := if rbOk n pick lf ∧ rbFit n pick nd then buildAsks l pick 0 n.toNat lf nd else []
theorem rb_built (l : List Mill.En) {n : Nat} {pick : List Int} {lf nd : List T} (h : rbOk (n : Int) pick lf) (hf : siblings pick 0 n ≤ nd.length) : ∃ r lf1 nd1, build l pick 0 n lf nd = some (r, lf1, nd1) := by
  obtain ⟨h1, h2, h3, h4, h5⟩ := h
  have hc := rising_cnt h5
  exact build_enough l pick (rising_pos h5).2 n 0 lf nd (by omega) (by omega) hf
end Sht

section
variable (g nb : Nat) (tv : Option Nat) (l : List Mill.En)
set_option maxHeartbeats 4000000 in
theorem shRb_size (P : Value) (n : Int) (Ap B C : Option Addr) (pick : List Int) (lf : List (List UInt8)) (p capA capB capC : Nat) (w : World) (hcA : pick.length ≤ capA) (hmA : capA ≤ 9223372036854775807) (hrA : RowI w [g, nb] Ap pick) (hb : ¬ Sht.rbOk n pick lf) :
    Calls Tryd.prog 25 #[P, .int .i64 n, .slice Ap pick.length capA, .slice B lf.length capB, .slice C p capC] w fun e w' => e = .returned (.tuple #[.string (S []), .int .i64 21]) ∧ w' = w := by
  have hR := fun W (h : RowI W [g, nb] Ap pick) => shRising_any Ap capA pick n [g, nb] W h hcA hmA
  by_cases h1 : n < 1
  · clear hR hrA hb
    generalize pick.length = m at *
    generalize lf.length = m2 at *
    go_enter Tryd.func25, Tryd.ntmps25
    go_wp2_with fail
    go_ret2
    exact ⟨rfl, rfl⟩
  by_cases h2 : n > 12
  · clear hR hrA hb
    generalize pick.length = m at *
    generalize lf.length = m2 at *
    go_enter Tryd.func25, Tryd.ntmps25
    go_wp2_with fail
    go_ret2
    exact ⟨rfl, rfl⟩
  by_cases h3 : pick.length = 0
  · rw [h3]
    clear hR hrA hb hcA
    generalize lf.length = m2 at *
    go_enter Tryd.func25, Tryd.ntmps25
    go_wp2_with fail
    go_ret2
    exact ⟨rfl, rfl⟩
  have h3' : ((pick.length : Int) == 0) = false := by simpa using (show ¬ (pick.length : Int) = 0 by omega)
  by_cases h4 : pick.length = lf.length
  · have h4' : ((pick.length : Int) != (lf.length : Int)) = false := by simpa using (show (pick.length : Int) = (lf.length : Int) by omega)
    have h5 : Sht.rising pick n = false := by
      cases h : Sht.rising pick n with
      | false => rfl
      | true => exact absurd ⟨by omega, by omega, fun e => h3 (by rw [e]; rfl), h4, h⟩ hb
    rw [h5] at hR
    have HR := Lib.hid (hR w hrA)
    clear hR hrA hb h5 h4
    generalize pick.length = m at *
    generalize lf.length = m2 at *
    go_enter Tryd.func25, Tryd.ntmps25
    go_wp2_with fail
    refine (HR.out).mono ?_
    rintro e w1 ⟨rfl, rfl⟩
    go_wp2_with fail
    go_ret2
    exact ⟨rfl, rfl⟩
  · have h4' : ((pick.length : Int) != (lf.length : Int)) = true := by simpa using (show ¬ (pick.length : Int) = (lf.length : Int) by omega)
    clear hR hrA hb h4
    generalize pick.length = m at *
    generalize lf.length = m2 at *
    go_enter Tryd.func25, Tryd.ntmps25
    go_wp2_with fail
    go_ret2
    exact ⟨rfl, rfl⟩

set_option maxRecDepth 100000 in
set_option maxHeartbeats 4000000 in
theorem shRb_rest (hr : Mill.right l = true) (n : Nat) (Ap B C : Option Addr) (pick : List Int) (lf nd : List (List UInt8)) (capA capB capC : Nat) (st : Mill.St) (w : World) (hcA : pick.length ≤ capA) (hmA : capA ≤ 9223372036854775807) (hrA : RowI w [g, nb] Ap pick)
    (hcB : lf.length ≤ capB) (hmB : capB ≤ 9223372036854775807) (hrB : RowS w [g, nb] B lf) (sl : ∀ s ∈ lf, s.length ≤ 1000000000000000) (hcC : nd.length ≤ capC) (hmC : capC ≤ 9223372036854775807) (hrC : RowS w [g, nb] C nd) (sn : ∀ s ∈ nd, s.length ≤ 1000000000000000)
    (hok : Sht.rbOk (n : Int) pick lf) (hsum : st.sums ≤ 1000000000000000000) (hm : MkW w g nb tv l st) :
    Calls Tryd.prog 25 #[.pointer (some ⟨g, 0, none⟩), .int .i64 (n : Int), .slice Ap pick.length capA, .slice B lf.length capB, .slice C nd.length capC] w (MkPost w g nb tv l st (Sht.rbTs l (n : Int) pick lf nd) (.tuple #[.string (S (Sht.rbV l (n : Int) pick lf nd)), .int .i64 (Sht.rbC (n : Int) pick lf nd)])) := by
  obtain ⟨h1, h2, h3, h4, h5⟩ := id hok
  have hn1 : 1 ≤ n := by omega
  have hn2 : n ≤ 12 := by omega
  have c1 : ¬ (n : Int) < 1 := by omega
  have c2 : ¬ (n : Int) > 12 := by omega
  have h3' : ((pick.length : Int) == 0) = false := by
    have : pick.length ≠ 0 := fun e => h3 (List.eq_nil_of_length_eq_zero e)
    simpa using (show ¬ (pick.length : Int) = 0 by omega)
  have h4' : ((pick.length : Int) != (lf.length : Int)) = false := by simpa using (show (pick.length : Int) = (lf.length : Int) by omega)
  have hin := Sht.rising_in h5
  have hcnt := Sht.rising_cnt h5
  have hrise := (Sht.rising_pos h5).2
  have hR := fun W (h : RowI W [g, nb] Ap pick) => shRising_any Ap capA pick (n : Int) [g, nb] W h hcA hmA
  rw [h5] at hR
  have hS := fun W => siblings_any pick hrise [g, nb] n 0 Ap capA W hn1 (by omega) (by omega)
  rw [hin] at hS
  have hS' := fun W => hS W hcA hmA
  clear hS
  have hpl := Sht.parts_len pick n 0
  unfold SibPost at hS'
  have hA := fun W (h : RowS W [g, nb] C nd) => shHashes_any C capC nd [g, nb] W h hcC hmC
  have hM0 : RbW w w g nb tv l st Ap pick B lf C nd := ⟨hrA, hrB, hrC, hm, Mv.refl _ _⟩
  have hgl := hm.m.lt
  by_cases hf : Sht.rbFit (n : Int) pick nd
  · obtain ⟨r, lf1, nd1, hbd⟩ := Sht.rb_built l hok (nd := nd) (by have := hf.1; rw [Int.toNat_natCast] at this; omega)
    have hv : Sht.rbV l (n : Int) pick lf nd = r := by
      unfold Sht.rbV; rw [if_pos ⟨hok, hf⟩, Int.toNat_natCast, hbd]; rfl
    have ht : Sht.rbTs l (n : Int) pick lf nd = Sht.buildAsks l pick 0 n lf nd := by
      unfold Sht.rbTs; rw [if_pos ⟨hok, hf⟩, Int.toNat_natCast]
    have hc : Sht.rbC (n : Int) pick lf nd = 0 := by unfold Sht.rbC; rw [if_pos hok, if_pos hf]
    have hB := fun W st' (hW : RbW w W g nb tv l st' Ap pick B lf C nd) (hs' : st'.sums ≤ 1000000000000000000) => rebuild_any g nb tv l hr pick hrise n 0 lf nd lf1 nd1 r Ap B C capA capB capC st' W hn1 (by omega) (by omega) hbd sl sn (by rw [hcnt]; exact hcA) hmA (by rw [hin]; exact hW.i) (by rw [hcnt, h4]; exact hcB) hmB (hW.s.take _) hcC hmC hW.c (by omega) hW.m
    obtain ⟨f1, f2⟩ := hf
    rw [Int.toNat_natCast, ← hpl] at f1
    rw [f2] at hA
    rw [hv, ht, hc]
    rw [hcnt, h4] at hB
    rw [h4] at hR hS' h3' h4' ⊢
    unfold RebPost at hB
    unfold MkPost
    generalize Sht.buildAsks l pick 0 n lf nd = ts at *
    generalize Sht.parts pick 0 n = R at *
    have f1' : ((nd.length : Int) != (R.length : Int)) = false := by simpa using (show (nd.length : Int) = (R.length : Int) by omega)
    generalize lf.length = m at *
    have HR := Lib.hid hR; clear hR
    have HS := Lib.hid hS'; clear hS'
    have HA := Lib.hid hA; clear hA
    have HB := Lib.hid hB; clear hB
    have H0 := Lib.hid hM0; clear hM0
    clear hv ht hc hok hbd sl sn h5 hin hcnt hrise hpl f1 f2 hrA hrB hrC hm h3 h4
    generalize nd.length = p at *
    go_enter Tryd.func25, Tryd.ntmps25
    go_wp2_with fail
    refine (HR.out _ H0.out.i).mono ?_
    rintro e w0 ⟨rfl, rfl⟩
    have hb0 := belowB w0 (.cells #[.int .i64 0, .int .i64 (n : Int)] 86)
    have hH1 := Has.made w0 86 #[.int .i64 0, .int .i64 (n : Int)]
    have H1 := H0.out.below hb0
    go_wp2_with fail
    generalize w0.alloc (.cells #[.int .i64 0, .int .i64 (n : Int)] 86) = W1 at hb0 hH1 H1 ⊢
    refine (HS.out _ H1.i).mono ?_
    rintro e w2 ⟨v, rfl, hown, hb2⟩
    obtain ⟨A2, cp2, rfl, hcp2, hcm2, _, _, _⟩ := own_rowC (s := []) hown (by simp) (by decide)
    have H2 := H1.below hb2
    have hH2 := hH1.below hb2 hH1.lt
    have d0 : w2.cell? ⟨w0.heap.size, 0, none⟩ = some (.int .i64 0) := hH2.cell 0
    have d1 : w2.cell? ⟨w0.heap.size, 1, none⟩ = some (.int .i64 (n : Int)) := hH2.cell 1
    have hlt2 := hH2.lt
    clear H1 hown hb2 hH1 hH2 hb0
    go_wp2_with fail
    refine (HA.out _ H2.c).mono ?_
    rintro e w3 ⟨rfl, rfl⟩
    go_wp2_with fail
    refine (HB.out _ _ H2 (by omega)).mono ?_
    rintro e w4 ⟨C4, cap4, rfl, hc4, hcm4, hr4, hm4, hv4⟩
    have hv5 := H2.v.trans hv4
    go_wp2_with fail
    go_ret2
    exact ⟨rfl, hm4, hv5⟩
  · have hv : Sht.rbV l (n : Int) pick lf nd = [] := by
      unfold Sht.rbV; rw [if_neg (fun h => hf h.2)]
    have ht : Sht.rbTs l (n : Int) pick lf nd = [] := by
      unfold Sht.rbTs; rw [if_neg (fun h => hf h.2)]
    have hc : Sht.rbC (n : Int) pick lf nd = 20 := by unfold Sht.rbC; rw [if_pos hok, if_neg hf]
    rw [hv, ht, hc]
    unfold Sht.rbFit at hf
    rw [Int.toNat_natCast, ← hpl] at hf
    rw [h4] at hR hS' h3' h4' ⊢
    unfold MkPost
    generalize Sht.parts pick 0 n = R at *
    generalize lf.length = m at *
    have HR := Lib.hid hR; clear hR
    have HS := Lib.hid hS'; clear hS'
    have H0 := Lib.hid hM0; clear hM0
    by_cases f1 : nd.length = R.length
    · have f2 : Mk.allSums nd = false := by
        cases h : Mk.allSums nd with
        | false => rfl
        | true => exact absurd ⟨f1, h⟩ hf
      rw [f2] at hA
      have HA := Lib.hid hA; clear hA
      have f1' : ((nd.length : Int) != (R.length : Int)) = false := by simpa using (show (nd.length : Int) = (R.length : Int) by omega)
      clear hv ht hc hok sl sn h5 hin hcnt hrise hpl f1 f2 hf hrA hrB hrC hm h3 h4
      generalize nd.length = p at *
      go_enter Tryd.func25, Tryd.ntmps25
      go_wp2_with fail
      refine (HR.out _ H0.out.i).mono ?_
      rintro e w0 ⟨rfl, rfl⟩
      have hb0 := belowB w0 (.cells #[.int .i64 0, .int .i64 (n : Int)] 86)
      have H1 := H0.out.below hb0
      go_wp2_with fail
      generalize w0.alloc (.cells #[.int .i64 0, .int .i64 (n : Int)] 86) = W1 at hb0 H1 ⊢
      refine (HS.out _ H1.i).mono ?_
      rintro e w2 ⟨v, rfl, hown, hb2⟩
      obtain ⟨A2, cp2, rfl, hcp2, hcm2, _, _, _⟩ := own_rowC (s := []) hown (by simp) (by decide)
      have H2 := H1.below hb2
      clear H1 hown hb2 hb0
      go_wp2_with fail
      refine (HA.out _ H2.c).mono ?_
      rintro e w3 ⟨rfl, rfl⟩
      go_wp2_with fail
      go_ret2
      exact ⟨rfl, H2.m, H2.v⟩
    · have f1' : ((nd.length : Int) != (R.length : Int)) = true := by simpa using (show ¬ (nd.length : Int) = (R.length : Int) by omega)
      clear hv ht hc hok sl sn h5 hin hcnt hrise hpl f1 hf hrA hrB hrC hm h3 h4 hA
      generalize nd.length = p at *
      go_enter Tryd.func25, Tryd.ntmps25
      go_wp2_with fail
      refine (HR.out _ H0.out.i).mono ?_
      rintro e w0 ⟨rfl, rfl⟩
      have hb0 := belowB w0 (.cells #[.int .i64 0, .int .i64 (n : Int)] 86)
      have H1 := H0.out.below hb0
      go_wp2_with fail
      generalize w0.alloc (.cells #[.int .i64 0, .int .i64 (n : Int)] 86) = W1 at hb0 H1 ⊢
      refine (HS.out _ H1.i).mono ?_
      rintro e w2 ⟨v, rfl, hown, hb2⟩
      obtain ⟨A2, cp2, rfl, hcp2, hcm2, _, _, _⟩ := own_rowC (s := []) hown (by simp) (by decide)
      have H2 := H1.below hb2
      clear H1 hown hb2 hb0
      go_wp2_with fail
      go_ret2
      exact ⟨rfl, H2.m, H2.v⟩

/-- Rebuild, told whole. -/
theorem shRebuild_any (hr : Mill.right l = true) (n : Int) (Ap B C : Option Addr) (pick : List Int) (lf nd : List (List UInt8)) (capA capB capC : Nat) (st : Mill.St) (w : World) (hcA : pick.length ≤ capA) (hmA : capA ≤ 9223372036854775807) (hrA : RowI w [g, nb] Ap pick)
    (hcB : lf.length ≤ capB) (hmB : capB ≤ 9223372036854775807) (hrB : RowS w [g, nb] B lf) (sl : ∀ s ∈ lf, s.length ≤ 1000000000000000) (hcC : nd.length ≤ capC) (hmC : capC ≤ 9223372036854775807) (hrC : RowS w [g, nb] C nd) (sn : ∀ s ∈ nd, s.length ≤ 1000000000000000)
    (hsum : st.sums ≤ 1000000000000000000) (hm : MkW w g nb tv l st) :
    Calls Tryd.prog 25 #[.pointer (some ⟨g, 0, none⟩), .int .i64 n, .slice Ap pick.length capA, .slice B lf.length capB, .slice C nd.length capC] w (MkPost w g nb tv l st (Sht.rbTs l n pick lf nd) (.tuple #[.string (S (Sht.rbV l n pick lf nd)), .int .i64 (Sht.rbC n pick lf nd)])) := by
  by_cases hok : Sht.rbOk n pick lf
  · have h1 := hok.1
    obtain ⟨m, rfl⟩ := Int.eq_ofNat_of_zero_le (show 0 ≤ n by omega)
    exact shRb_rest g nb tv l hr m Ap B C pick lf nd capA capB capC st w hcA hmA hrA hcB hmB hrB sl hcC hmC hrC sn hok hsum hm
  · have hv : Sht.rbV l n pick lf nd = [] := by
      unfold Sht.rbV; rw [if_neg (fun h => hok h.1)]
    have ht : Sht.rbTs l n pick lf nd = [] := by
      unfold Sht.rbTs; rw [if_neg (fun h => hok h.1)]
    have hc : Sht.rbC n pick lf nd = 21 := by unfold Sht.rbC; rw [if_neg hok]
    rw [hv, ht, hc]
    refine (shRb_size g nb _ n Ap B C pick lf nd.length capA capB capC w hcA hmA hrA hok).mono ?_
    rintro e w' ⟨h1, rfl⟩
    exact ⟨h1, hm, Mv.refl _ _⟩
end
end Go.Proofs.YtgjknfphmmlcdaaDoor
