/-
  The contract of one step of both readers, more: kinds 2, 5 and the others.
-/
import Derived.Test.YtpclknempmhmiaaStep
import Derived.Deep.Cut
namespace Go.Proofs.Ytpclknempmhmiaa
open Go.RowKit

set_option maxRecDepth 100000 in
set_option maxHeartbeats 4000000 in
theorem step_flag (N M : Int) (g b p : Nat) (st : R.St) (w : World) (hr : Rd w g b st) (hp : Pl w p st) (hgp : g ≠ p) (hbp : b ≠ p) (hblt : b < w.heap.size) (hcap : st.1.length ≤ 4000000000) :
    Calls Try.prog 24 #[.pointer (some ⟨g, 0, none⟩), .pointer (some ⟨p, 0, none⟩), .agg #[.int .i64 2, .int .i64 N, .int .i64 M]] w (StepPost w g b p ((R.flag st).2)) := by
  have hcP := fun W' (h : Pl W' p st) => raw_pl 1 p st W' h (by omega)
  have hcF := fun W' (h : Rd W' g b st) => flag_rd g b st W' h (by omega)
  have hD : R.flag st = match R.next 1 st with
    | ([], st1) => (false, st1)
    | (c :: _, st1) => (c.toNat == 1, if 1 < c.toNat then R.fail 4 st1 else st1) := rfl
  have hl1 := R.next_len 1 st
  have hok := R.next_cons_ok 1 st
  generalize R.next 1 st = x at hcP hD hl1 hok
  obtain ⟨s, st1⟩ := x
  simp only at hcP hl1
  have HCP := Lib.hid hcP; clear hcP
  cases s with
  | nil =>
    rw [show R.flag st = (false, st1) from hD] at hcF ⊢
    have HCF := Lib.hid hcF; clear hcF hD hok
    have hr1 := hr.alloc (.cells #[.int .i64 2, .int .i64 N, .int .i64 M] 52)
    have hp1 := hp.alloc (.cells #[.int .i64 2, .int .i64 N, .int .i64 M] 52)
    have h2 : Two w (w.alloc (.cells #[.int .i64 2, .int .i64 N, .int .i64 M] 52)) g p := (Two.refl _ _ _).alloc _
    have HB := Has.made w 52 #[.int .i64 2, .int .i64 N, .int .i64 M]
    have hg0 : w.heap.size ≠ g := by have := hr.lt; omega
    have hp0 : w.heap.size ≠ p := by have := Has.lt hp; omega
    go_enter Try.func24, Try.ntmps24
    go_wp2_with fail
    generalize w.alloc (.cells #[.int .i64 2, .int .i64 N, .int .i64 M] 52) = W at hr1 hp1 h2 HB ⊢
    have hx1 : W.cell? ⟨w.heap.size, 1, none⟩ = some (.int .i64 N) := HB.cell 1
    have hx2 : W.cell? ⟨w.heap.size, 2, none⟩ = some (.int .i64 M) := HB.cell 2
    generalize w.heap.size = B at hg0 hp0 hx1 hx2 HB ⊢
    refine (HCP.out _ hp1).mono ?_
    rintro e w1 ⟨rfl, hpN, ho⟩
    have hr2 := hr1.only ho hgp hbp
    have h3 := h2.right ho
    have hq1 : w1.cell? ⟨p, 1, none⟩ = some (.int .i64 st1.2) := hpN.cell 1
    have hf1 : w1.frozen? ⟨p, 1, none⟩ = false := hpN.free 1
    go_wp2_with fail
    refine (HCF.out _ hr2).mono ?_
    rintro e w3 ⟨rfl, hrF, hoF⟩
    go_wp2_with fail
    go_ret
    exact ⟨rfl, hrF, hpN.only hoF hgp.symm, h3.left hoF⟩
  | cons c t =>
    obtain rfl : t = [] := by
      apply List.eq_nil_of_length_eq_zero
      simp only [List.length_cons] at hl1
      omega
    replace hok := hok st1 c [] rfl
    have hcc : c.toNat < 256 := c.toNat_lt
    have hidx : ∀ W : World, (Instr.index 9 (.string (S [c])) (.int .i64 0)).run Try.prog W = .ok (.int .u8 c.toNat) W := fun W => run_index_S0 W c [] _ Try.underlying9
    by_cases h7 : 1 < c.toNat
    · simp only [if_pos h7] at hD
      rw [show (c.toNat == 1) = false by simp; omega] at hD
      rw [hD] at hcF ⊢
      have HCF := Lib.hid hcF; clear hcF hD
      have h7' : (1 : Int) < (c.toNat : Int) := by omega
      have hne : (c == 1) = false := by rw [beq_eq_false_iff_ne]; rintro rfl; simp at h7
      have hr1 := hr.alloc (.cells #[.int .i64 2, .int .i64 N, .int .i64 M] 52)
      have hp1 := hp.alloc (.cells #[.int .i64 2, .int .i64 N, .int .i64 M] 52)
      have h2 : Two w (w.alloc (.cells #[.int .i64 2, .int .i64 N, .int .i64 M] 52)) g p := (Two.refl _ _ _).alloc _
      have HB := Has.made w 52 #[.int .i64 2, .int .i64 N, .int .i64 M]
      have hg0 : w.heap.size ≠ g := by have := hr.lt; omega
      have hp0 : w.heap.size ≠ p := by have := Has.lt hp; omega
      go_enter Try.func24, Try.ntmps24
      go_wp2_with fail
      generalize w.alloc (.cells #[.int .i64 2, .int .i64 N, .int .i64 M] 52) = W at hr1 hp1 h2 HB ⊢
      have hx1 : W.cell? ⟨w.heap.size, 1, none⟩ = some (.int .i64 N) := HB.cell 1
      have hx2 : W.cell? ⟨w.heap.size, 2, none⟩ = some (.int .i64 M) := HB.cell 2
      generalize w.heap.size = B at hg0 hp0 hx1 hx2 HB ⊢
      refine (HCP.out _ hp1).mono ?_
      rintro e w1 ⟨rfl, hpN, ho⟩
      have hr2 := hr1.only ho hgp hbp
      have h3 := h2.right ho
      have hq1 : w1.cell? ⟨p, 1, none⟩ = some (.int .i64 st1.2) := hpN.cell 1
      have hf1 : w1.frozen? ⟨p, 1, none⟩ = false := hpN.free 1
      have hpS : Pl (w1.setCell ⟨p, 1, none⟩ (.int .i64 4)) p (R.fail 4 st1) := by
        unfold Pl R.fail R.failE
        rw [if_pos hok]
        exact hpN.set 1 (.int .i64 4)
      have hoS := Only.set w1 p 1 (.int .i64 4)
      have hr3 := hr2.only hoS hgp hbp
      have h4 := h3.right hoS
      have HP2 := Lib.hid hpS
      go_wp2_with fail
      refine (HCF.out _ hr3).mono ?_
      rintro e w3 ⟨rfl, hrF, hoF⟩
      go_wp2_with fail
      go_ret
      exact ⟨rfl, hrF, hpS.only hoF hgp.symm, h4.left hoF⟩
    · simp only [if_neg h7] at hD
      have h7' : ¬ (1 : Int) < (c.toNat : Int) := by omega
      by_cases h1 : c = 1
      · subst h1
        rw [show R.flag st = (true, st1) from hD] at hcF ⊢
        have HCF := Lib.hid hcF; clear hcF hD h7
        have hr1 := hr.alloc (.cells #[.int .i64 2, .int .i64 N, .int .i64 M] 52)
        have hp1 := hp.alloc (.cells #[.int .i64 2, .int .i64 N, .int .i64 M] 52)
        have h2 : Two w (w.alloc (.cells #[.int .i64 2, .int .i64 N, .int .i64 M] 52)) g p := (Two.refl _ _ _).alloc _
        have HB := Has.made w 52 #[.int .i64 2, .int .i64 N, .int .i64 M]
        have hg0 : w.heap.size ≠ g := by have := hr.lt; omega
        have hp0 : w.heap.size ≠ p := by have := Has.lt hp; omega
        go_enter Try.func24, Try.ntmps24
        go_wp2_with fail
        generalize w.alloc (.cells #[.int .i64 2, .int .i64 N, .int .i64 M] 52) = W at hr1 hp1 h2 HB ⊢
        have hx1 : W.cell? ⟨w.heap.size, 1, none⟩ = some (.int .i64 N) := HB.cell 1
        have hx2 : W.cell? ⟨w.heap.size, 2, none⟩ = some (.int .i64 M) := HB.cell 2
        generalize w.heap.size = B at hg0 hp0 hx1 hx2 HB ⊢
        refine (HCP.out _ hp1).mono ?_
        rintro e w1 ⟨rfl, hpN, ho⟩
        have hr2 := hr1.only ho hgp hbp
        have h3 := h2.right ho
        have hq1 : w1.cell? ⟨p, 1, none⟩ = some (.int .i64 st1.2) := hpN.cell 1
        have hf1 : w1.frozen? ⟨p, 1, none⟩ = false := hpN.free 1
        go_wp2_with fail
        refine (HCF.out _ hr2).mono ?_
        rintro e w3 ⟨rfl, hrF, hoF⟩
        go_wp2_with fail
        go_ret
        exact ⟨rfl, hrF, hpN.only hoF hgp.symm, h3.left hoF⟩
      · have hn1 : c.toNat ≠ 1 := fun e => h1 (by apply UInt8.toNat_inj.1; simpa using e)
        rw [show (c.toNat == 1) = false by simpa using hn1] at hD
        rw [hD] at hcF ⊢
        have HCF := Lib.hid hcF; clear hcF hD h7
        have hne : (c == 1) = false := by rw [beq_eq_false_iff_ne]; exact h1
        clear h1
        have hr1 := hr.alloc (.cells #[.int .i64 2, .int .i64 N, .int .i64 M] 52)
        have hp1 := hp.alloc (.cells #[.int .i64 2, .int .i64 N, .int .i64 M] 52)
        have h2 : Two w (w.alloc (.cells #[.int .i64 2, .int .i64 N, .int .i64 M] 52)) g p := (Two.refl _ _ _).alloc _
        have HB := Has.made w 52 #[.int .i64 2, .int .i64 N, .int .i64 M]
        have hg0 : w.heap.size ≠ g := by have := hr.lt; omega
        have hp0 : w.heap.size ≠ p := by have := Has.lt hp; omega
        go_enter Try.func24, Try.ntmps24
        go_wp2_with fail
        generalize w.alloc (.cells #[.int .i64 2, .int .i64 N, .int .i64 M] 52) = W at hr1 hp1 h2 HB ⊢
        have hx1 : W.cell? ⟨w.heap.size, 1, none⟩ = some (.int .i64 N) := HB.cell 1
        have hx2 : W.cell? ⟨w.heap.size, 2, none⟩ = some (.int .i64 M) := HB.cell 2
        generalize w.heap.size = B at hg0 hp0 hx1 hx2 HB ⊢
        refine (HCP.out _ hp1).mono ?_
        rintro e w1 ⟨rfl, hpN, ho⟩
        have hr2 := hr1.only ho hgp hbp
        have h3 := h2.right ho
        have hq1 : w1.cell? ⟨p, 1, none⟩ = some (.int .i64 st1.2) := hpN.cell 1
        have hf1 : w1.frozen? ⟨p, 1, none⟩ = false := hpN.free 1
        go_wp2_with fail
        refine (HCF.out _ hr2).mono ?_
        rintro e w3 ⟨rfl, hrF, hoF⟩
        go_wp2_with fail
        go_ret
        exact ⟨rfl, hrF, hpN.only hoF hgp.symm, h3.left hoF⟩

set_option maxRecDepth 100000 in
set_option maxHeartbeats 4000000 in
theorem step_fail (N M : Int) (g b p : Nat) (st : R.St) (w : World) (hr : Rd w g b st) (hp : Pl w p st) (hgp : g ≠ p) (hbp : b ≠ p) (hblt : b < w.heap.size) (hcap : st.1.length ≤ 4000000000) :
    Calls Try.prog 24 #[.pointer (some ⟨g, 0, none⟩), .pointer (some ⟨p, 0, none⟩), .agg #[.int .i64 5, .int .i64 N, .int .i64 M]] w (StepPost w g b p (R.fail N st)) := by
  by_cases he : st.2 = 0
  · have heb : (st.2 == 0) = true := by simpa using he
    have hr1 := hr.alloc (.cells #[.int .i64 5, .int .i64 N, .int .i64 M] 52)
    have hp1 := hp.alloc (.cells #[.int .i64 5, .int .i64 N, .int .i64 M] 52)
    have h2 : Two w (w.alloc (.cells #[.int .i64 5, .int .i64 N, .int .i64 M] 52)) g p := (Two.refl _ _ _).alloc _
    have HB := Has.made w 52 #[.int .i64 5, .int .i64 N, .int .i64 M]
    have hg0 : w.heap.size ≠ g := by have := hr.lt; omega
    have hp0 : w.heap.size ≠ p := by have := Has.lt hp; omega
    go_enter Try.func24, Try.ntmps24
    go_wp2_with fail
    generalize w.alloc (.cells #[.int .i64 5, .int .i64 N, .int .i64 M] 52) = W at hr1 hp1 h2 HB ⊢
    have hx1 : W.cell? ⟨w.heap.size, 1, none⟩ = some (.int .i64 N) := HB.cell 1
    have hx2 : W.cell? ⟨w.heap.size, 2, none⟩ = some (.int .i64 M) := HB.cell 2
    generalize w.heap.size = B at hg0 hp0 hx1 hx2 HB ⊢
    refine (rfail_rd N g b _ hr1).mono ?_
    rintro e w1 ⟨rfl, hr2, ho⟩
    have hp2 := hp1.only ho hgp.symm
    have h3 := h2.left ho
    have HB2 := ho.has HB hg0
    have hy1 : w1.cell? ⟨B, 1, none⟩ = some (.int .i64 N) := HB2.cell 1
    have hq1 : w1.cell? ⟨p, 1, none⟩ = some (.int .i64 st.2) := hp2.cell 1
    have hf1 : w1.frozen? ⟨p, 1, none⟩ = false := hp2.free 1
    go_wp2_with fail
    go_ret
    have hoS := Only.set w1 p 1 (.int .i64 N)
    refine ⟨rfl, hr2.only hoS hgp hbp, ?_, h3.right hoS⟩
    unfold Pl R.fail R.failE
    rw [if_pos he]
    exact Has.set hp2 1 (.int .i64 N)
  · have heb : (st.2 == 0) = false := by simpa using he
    have hr1 := hr.alloc (.cells #[.int .i64 5, .int .i64 N, .int .i64 M] 52)
    have hp1 := hp.alloc (.cells #[.int .i64 5, .int .i64 N, .int .i64 M] 52)
    have h2 : Two w (w.alloc (.cells #[.int .i64 5, .int .i64 N, .int .i64 M] 52)) g p := (Two.refl _ _ _).alloc _
    have HB := Has.made w 52 #[.int .i64 5, .int .i64 N, .int .i64 M]
    have hg0 : w.heap.size ≠ g := by have := hr.lt; omega
    have hp0 : w.heap.size ≠ p := by have := Has.lt hp; omega
    go_enter Try.func24, Try.ntmps24
    go_wp2_with fail
    generalize w.alloc (.cells #[.int .i64 5, .int .i64 N, .int .i64 M] 52) = W at hr1 hp1 h2 HB ⊢
    have hx1 : W.cell? ⟨w.heap.size, 1, none⟩ = some (.int .i64 N) := HB.cell 1
    have hx2 : W.cell? ⟨w.heap.size, 2, none⟩ = some (.int .i64 M) := HB.cell 2
    generalize w.heap.size = B at hg0 hp0 hx1 hx2 HB ⊢
    refine (rfail_rd N g b _ hr1).mono ?_
    rintro e w1 ⟨rfl, hr2, ho⟩
    have hp2 := hp1.only ho hgp.symm
    have h3 := h2.left ho
    have HB2 := ho.has HB hg0
    have hy1 : w1.cell? ⟨B, 1, none⟩ = some (.int .i64 N) := HB2.cell 1
    have hq1 : w1.cell? ⟨p, 1, none⟩ = some (.int .i64 st.2) := hp2.cell 1
    have hf1 : w1.frozen? ⟨p, 1, none⟩ = false := hp2.free 1
    go_wp2_with fail
    go_ret
    refine ⟨rfl, hr2, ?_, h3⟩
    unfold Pl R.fail R.failE
    rw [if_neg he]
    exact hp2

set_option maxRecDepth 100000 in
set_option maxHeartbeats 4000000 in
theorem step_end (N M : Int) (K : Int) (g b p : Nat) (st : R.St) (w : World) (hr : Rd w g b st) (hp : Pl w p st) (hgp : g ≠ p) (hbp : b ≠ p) (hblt : b < w.heap.size) (hcap : st.1.length ≤ 4000000000) (k0 : (K == 0) = false) (k1 : (K == 1) = false) (k2 : (K == 2) = false) (k3 : (K == 3) = false) (k4 : (K == 4) = false) (k5 : (K == 5) = false) :
    Calls Try.prog 24 #[.pointer (some ⟨g, 0, none⟩), .pointer (some ⟨p, 0, none⟩), .agg #[.int .i64 K, .int .i64 N, .int .i64 M]] w (StepPost w g b p (R.fin st)) := by
  have hcE := fun W' (h : Rd W' g b st) => end_rd g b st W' h
  have HCE := Lib.hid hcE; clear hcE
  by_cases he : st.2 = 0
  · have heb : (st.2 == 0) = true := by simpa using he
    by_cases hl : 0 < st.1.length
    · have hl' : (0 : Int) < (st.1.length : Int) := by omega
      have hF : R.fin st = (st.1, 4) := by
        have h1 : R.left st = st.1.length := by unfold R.left; rw [if_neg (by simpa using he)]
        unfold R.fin
        rw [h1, if_pos hl', R.fail, R.failE, if_pos he]
      generalize R.fin st = sf at HCE hF ⊢
      have HF := Lib.hid hF; clear hF
      have hr1 := hr.alloc (.cells #[.int .i64 K, .int .i64 N, .int .i64 M] 52)
      have hp1 := hp.alloc (.cells #[.int .i64 K, .int .i64 N, .int .i64 M] 52)
      have h2 : Two w (w.alloc (.cells #[.int .i64 K, .int .i64 N, .int .i64 M] 52)) g p := (Two.refl _ _ _).alloc _
      have HB := Has.made w 52 #[.int .i64 K, .int .i64 N, .int .i64 M]
      have hg0 : w.heap.size ≠ g := by have := hr.lt; omega
      have hp0 : w.heap.size ≠ p := by have := Has.lt hp; omega
      clear hr hp
      go_enter Try.func24, Try.ntmps24
      go_upto_region 2 with (fail)
      generalize w.alloc (.cells #[.int .i64 K, .int .i64 N, .int .i64 M] 52) = W at hr1 hp1 h2 HB ⊢
      generalize w.heap.size = B at hg0 hp0 HB ⊢
      have hq0 : W.cell? ⟨p, 0, none⟩ = some (.string (S st.1)) := hp1.cell 0
      have hq1 : W.cell? ⟨p, 1, none⟩ = some (.int .i64 st.2) := hp1.cell 1
      have hf1 : W.frozen? ⟨p, 1, none⟩ = false := hp1.free 1
      go_upto_region 4 with (fail)
      have hpS : Pl (W.setCell ⟨p, 1, none⟩ (.int .i64 4)) p sf := by
        rw [HF.out]; exact Has.set hp1 1 (.int .i64 4)
      have hoS := Only.set W p 1 (.int .i64 4)
      replace hr1 := hr1.only hoS hgp hbp
      replace h2 := h2.right hoS
      clear hp1 hq0 hq1 hf1
      have hp1 := hpS
      clear hpS hoS
      generalize W.setCell ⟨p, 1, none⟩ (.int .i64 4) = W at hr1 h2 hp1 ⊢
      have hq1 : W.cell? ⟨p, 1, none⟩ = some (.int .i64 sf.2) := hp1.cell 1
      replace hr1 := hr1.drew
      replace hp1 := hp1.drew
      replace h2 := h2.drew
      go_region_with (go_at_call 23; refine (HCE.out _ hr1).mono ?_; rintro e w1 ⟨rfl, hrN, ho⟩; have hp1 := hp1.only ho hgp.symm; have hr1 := hrN; have h2 := h2.left ho; have hq1 : w1.cell? ⟨p, 1, none⟩ = some (.int .i64 sf.2) := hp1.cell 1; clear ho hrN)
      all_goals go_wp2_with fail
      all_goals go_ret
      all_goals exact ⟨rfl, hr1, hp1, h2⟩
    · have hl' : ¬ (0 : Int) < (st.1.length : Int) := by omega
      have hF : R.fin st = st := by
        have h1 : R.left st = st.1.length := by unfold R.left; rw [if_neg (by simpa using he)]
        unfold R.fin
        rw [h1, if_neg hl']
      generalize R.fin st = sf at HCE hF ⊢
      have HF := Lib.hid hF; clear hF
      have hr1 := hr.alloc (.cells #[.int .i64 K, .int .i64 N, .int .i64 M] 52)
      have hp1 := hp.alloc (.cells #[.int .i64 K, .int .i64 N, .int .i64 M] 52)
      have h2 : Two w (w.alloc (.cells #[.int .i64 K, .int .i64 N, .int .i64 M] 52)) g p := (Two.refl _ _ _).alloc _
      have HB := Has.made w 52 #[.int .i64 K, .int .i64 N, .int .i64 M]
      have hg0 : w.heap.size ≠ g := by have := hr.lt; omega
      have hp0 : w.heap.size ≠ p := by have := Has.lt hp; omega
      clear hr hp
      go_enter Try.func24, Try.ntmps24
      go_upto_region 2 with (fail)
      generalize w.alloc (.cells #[.int .i64 K, .int .i64 N, .int .i64 M] 52) = W at hr1 hp1 h2 HB ⊢
      generalize w.heap.size = B at hg0 hp0 HB ⊢
      have hq0 : W.cell? ⟨p, 0, none⟩ = some (.string (S st.1)) := hp1.cell 0
      have hq1 : W.cell? ⟨p, 1, none⟩ = some (.int .i64 st.2) := hp1.cell 1
      have hf1 : W.frozen? ⟨p, 1, none⟩ = false := hp1.free 1
      go_upto_region 4 with (fail)
      clear hq1 hq0 hf1
      replace hp1 : Pl W p sf := by rw [HF.out]; exact hp1
      have hq1 : W.cell? ⟨p, 1, none⟩ = some (.int .i64 sf.2) := hp1.cell 1
      replace hr1 := hr1.drew
      replace hp1 := hp1.drew
      replace h2 := h2.drew
      go_region_with (go_at_call 23; refine (HCE.out _ hr1).mono ?_; rintro e w1 ⟨rfl, hrN, ho⟩; have hp1 := hp1.only ho hgp.symm; have hr1 := hrN; have h2 := h2.left ho; have hq1 : w1.cell? ⟨p, 1, none⟩ = some (.int .i64 sf.2) := hp1.cell 1; clear ho hrN)
      all_goals go_wp2_with fail
      all_goals go_ret
      all_goals exact ⟨rfl, hr1, hp1, h2⟩
  · have heb : (st.2 == 0) = false := by simpa using he
    have hF : R.fin st = st := by
      have h1 : R.left st = 0 := by unfold R.left; rw [if_pos he]
      unfold R.fin
      rw [h1, if_neg (by omega)]
    generalize R.fin st = sf at HCE hF ⊢
    have HF := Lib.hid hF; clear hF
    have hr1 := hr.alloc (.cells #[.int .i64 K, .int .i64 N, .int .i64 M] 52)
    have hp1 := hp.alloc (.cells #[.int .i64 K, .int .i64 N, .int .i64 M] 52)
    have h2 : Two w (w.alloc (.cells #[.int .i64 K, .int .i64 N, .int .i64 M] 52)) g p := (Two.refl _ _ _).alloc _
    have HB := Has.made w 52 #[.int .i64 K, .int .i64 N, .int .i64 M]
    have hg0 : w.heap.size ≠ g := by have := hr.lt; omega
    have hp0 : w.heap.size ≠ p := by have := Has.lt hp; omega
    clear hr hp
    go_enter Try.func24, Try.ntmps24
    go_upto_region 2 with (fail)
    generalize w.alloc (.cells #[.int .i64 K, .int .i64 N, .int .i64 M] 52) = W at hr1 hp1 h2 HB ⊢
    generalize w.heap.size = B at hg0 hp0 HB ⊢
    have hq0 : W.cell? ⟨p, 0, none⟩ = some (.string (S st.1)) := hp1.cell 0
    have hq1 : W.cell? ⟨p, 1, none⟩ = some (.int .i64 st.2) := hp1.cell 1
    have hf1 : W.frozen? ⟨p, 1, none⟩ = false := hp1.free 1
    go_upto_region 4 with (fail)
    clear hq1 hq0 hf1
    replace hp1 : Pl W p sf := by rw [HF.out]; exact hp1
    have hq1 : W.cell? ⟨p, 1, none⟩ = some (.int .i64 sf.2) := hp1.cell 1
    replace hr1 := hr1.drew
    replace hp1 := hp1.drew
    replace h2 := h2.drew
    go_region_with (go_at_call 23; refine (HCE.out _ hr1).mono ?_; rintro e w1 ⟨rfl, hrN, ho⟩; have hp1 := hp1.only ho hgp.symm; have hr1 := hrN; have h2 := h2.left ho; have hq1 : w1.cell? ⟨p, 1, none⟩ = some (.int .i64 sf.2) := hp1.cell 1; clear ho hrN)
    all_goals go_wp2_with fail
    all_goals go_ret
    all_goals exact ⟨rfl, hr1, hp1, h2⟩
end Go.Proofs.Ytpclknempmhmiaa
