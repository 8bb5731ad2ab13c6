/-
  The contract of SheetBuilds.
-/
import Derived.Test.YtgjknfphmmlcdaaDoorSheetBuildsA
namespace Go.Proofs.YtgjknfphmmlcdaaDoor
open Go.ChangeShapes Go.WideShapes Go.ChangeAt Go.RowKit
open Go.ChangeMaps (open_string shut_string)
set_option linter.unusedVariables false

set_option maxHeartbeats 8000000 in
set_option maxRecDepth 100000 in
theorem sheetBuilds_ok (n : Nat) (A2 A B : Option Addr) (P : List Int) (lf nd : List (List UInt8)) (c1 c2 c3 : Nat) (w : World) (hT : Tabs w) (h1 : ¬ (20 : Int) < (P.length : Int)) (h2 : ¬ (20 : Int) < (lf.length : Int)) (h3 : ¬ (20 : Int) < (nd.length : Int))
    (hp : RowI w [] A2 P) (hc1 : P.length ≤ c1) (hm1 : c1 ≤ 9223372036854775807) (hA : RowA w A lf) (hc2 : lf.length ≤ c2) (hm2 : c2 ≤ 9223372036854775807) (sA : ∀ s ∈ lf, s.length ≤ 1000000000000000)
    (hB : RowA w B nd) (hc3 : nd.length ≤ c3) (hm3 : c3 ≤ 9223372036854775807) (sB : ∀ s ∈ nd, s.length ≤ 1000000000000000) (hok : Sht.rbOk (n : Int) P lf) :
    Calls Tryd.prog 6 #[.int .i64 (n : Int), .slice A2 P.length c1, .slice A lf.length c2, .slice B nd.length c3] w fun e w' => e = .returned (.bool true) ∧ Below w.heap.size w w' := by
  have hT2 := hT.2.2
  have HT := Lib.hid hT; clear hT
  have hRb := fun W st (hW : OneK w W st) (hs : st.sums ≤ 1000000) => shRebuild_any (w.heap.size + 1) w.heap.size none [] rfl (n : Int) A2 A B P lf nd c1 c2 c3 st W hc1 hm1 (RowCA.at (w0 := w) hp hW.b two_low) hc2 hm2 (hA.at hW.b two_low) sA hc3 hm3 (hB.at hW.b two_low) sB (by omega) hW.m
  have hfin := Sht.builds_fin [] n P lf nd hok
  have htl := Sht.rbTs_len [] (n : Int) P lf nd
  have hR := fun W (hW : Below w.heap.size w W) => slRising_any A2 c1 P (n : Int) [] W (RowC.below hp hW) hc1 hm1
  rw [hok.2.2.2.2] at hR
  unfold MkPost at hRb
  have hBd := fun W gp st s0 (hs0 : s0 = (⟨lf, nd, false⟩ : Sht.Left)) (hg1 : gp ≠ w.heap.size + 1) (hg2 : gp ≠ w.heap.size) (hg3 : 2 ≤ gp) (w0 : World) (hs : st.sums ≤ 1000000) (hPl : PlW w0 W (w.heap.size + 1) w.heap.size gp [] st A2 P c1 s0) =>
    slBuild_any w0 (w.heap.size + 1) w.heap.size gp [] rfl A2 P c1 hc1 hm1 hg1 hg2 hg3 n s0 0 st W (by have := hok.1; omega) (by have := hok.2.1; omega) (by rw [hs0]; exact sA) (by rw [hs0]; exact sB) (by have := hok.2.1; omega) hPl
  have a1 : ¬ (n : Int) < 1 := by have := hok.1; omega
  have a2 : ¬ (12 : Int) < (n : Int) := by have := hok.2.1; omega
  have a3 : ((P.length : Int) == 0) = false := by
    have : P.length ≠ 0 := fun e => hok.2.2.1 (List.eq_nil_of_length_eq_zero e)
    simpa using (show ¬ (P.length : Int) = 0 by omega)
  have a4 : ((P.length : Int) != (lf.length : Int)) = false := by rw [hok.2.2.2.1]; simp
  have hn12 : n ≤ 12 := by have := hok.2.1; omega
  generalize Sht.rbTs [] (n : Int) P lf nd = tr at *
  generalize Sht.rbC (n : Int) P lf nd = rc at *
  generalize Sht.rbV [] (n : Int) P lf nd = rv at *
  have HP := Lib.hid (And.intro hp (And.intro hA hB))
  have HRB := Lib.hid hRb; clear hRb
  have HR := Lib.hid hR; clear hR
  have HBD := Lib.hid hBd; clear hBd
  have HFIN := Lib.hid hfin; clear hfin
  have hf0 : Mill.fresh.sums = 0 := rfl
  clear hp hA hB sA sB hok
  obtain ⟨k1, hk1⟩ : ∃ k, P.length = k := ⟨_, rfl⟩
  obtain ⟨k2, hk2⟩ : ∃ k, lf.length = k := ⟨_, rfl⟩
  obtain ⟨k3, hk3⟩ : ∃ k, nd.length = k := ⟨_, rfl⟩
  have HK := Lib.hid (And.intro hk1 (And.intro hk2 hk3))
  rw [hk1, hk2, hk3] at HRB
  rw [hk1] at HR a3 a4 h1 hc1 ⊢
  rw [hk2] at a4 h2 hc2 ⊢
  rw [hk3] at h3 hc3 ⊢
  clear hk1 hk2 hk3
  go_enter Tryd.func6, Tryd.ntmps6
  go_wp2_with fail
  refine (newMill_tv w).mono ?_
  rintro r1 w1 ⟨rfl, hM1, hb1, hs1⟩
  have H1 := Lib.hid (OneK.made HT.out hM1 hb1)
  clear hM1 hb1
  go_wp2_with fail
  refine (HRB.out _ _ H1.out (by omega)).mono ?_
  rintro e w2 ⟨rfl, hm2', hv2⟩
  have q2 : (Mill.steps [] tr Mill.fresh).sums ≤ 1000 := by rw [Mill.steps_sums]; omega
  generalize Mill.steps [] tr Mill.fresh = s2 at hm2' q2
  have H2 := Lib.hid (H1.out.step hm2' hv2); clear hm2' hv2 H1
  go_wp2_with fail
  refine (HR.out _ H2.out.b).mono ?_
  rintro e w3 ⟨rfl, hb3⟩
  replace H2 := Lib.hid (H2.out.below hb3); clear hb3
  go_wp2_with fail
  go_loopw [12, 13] (fun v12 v13 wr => ∃ k : Nat, k ≤ k3 ∧ v13 = .int .i64 (k : Int) ∧ v12 = .bool (Mk.allSums (nd.take k)) ∧ wr = w3) (fun _ v13 _ => k3 - (intOf v13).toNat)
  case atStart => exact ⟨0, Nat.zero_le _, rfl, rfl, rfl⟩
  case round =>
    obtain ⟨k, hk, rfl, rfl, rfl⟩ := hrel
    by_cases hlt : k < k3
    · have hkl : k < nd.length := by rw [HK.out.2.2]; exact hlt
      obtain ⟨b, off, rfl, hbl, hbs, hr⟩ := (HP.out.2.2.at H2.out.b two_low) (fun e => by rw [e] at hkl; exact absurd hkl (Nat.not_lt_zero _))
      have hcell := hr k hkl
      have hst := Sht.allSums_go nd k hkl
      generalize nd[k]'hkl = x at hcell hst
      have HST := Lib.hid hst; clear hst hr hbs
      generalize Mk.allSums (nd.take k) = la at *
      cases la with
      | false =>
        go_wp2_with fail
        go_roundw
        case rel => exact ⟨k + 1, by omega, by go_num, by rw [HST.out]; rfl, trivial⟩
        case measure => simp [intOf]; omega
      | true =>
        by_cases hx : x.length = 32
        · have hx' : ((x.length : Int) == 32) = true := by simpa using (show (x.length : Int) = 32 by omega)
          have hy : decide (x.length = 32) = true := decide_eq_true hx
          rw [hy] at HST
          clear hx hy
          go_wp2_with fail
          go_roundw
          case rel => exact ⟨k + 1, by omega, by go_num, by rw [HST.out]; rfl, trivial⟩
          case measure => simp [intOf]; omega
        · have hx' : ((x.length : Int) == 32) = false := by simpa using (show ¬ (x.length : Int) = 32 by omega)
          have hy : decide (x.length = 32) = false := decide_eq_false hx
          rw [hy] at HST
          clear hx hy
          go_wp2_with fail
          go_roundw
          case rel => exact ⟨k + 1, by omega, by go_num, by rw [HST.out]; rfl, trivial⟩
          case measure => simp [intOf]; omega
    · have hkn : k = k3 := by omega
      subst hkn
      have htk : nd.take k = nd := List.take_of_length_le (by rw [HK.out.2.2]; exact Nat.le_refl _)
      rw [htk]
      clear htk
      generalize Mk.allSums nd = la at *
      go_wp2_with fail
      have hB2 := H2.out.b
      have hz2 := hB2.size
      have hnew : Below wr.heap.size wr (wr.alloc (.cells #[.slice A2 k1 c1, .slice A k2 c2, .slice B k c3, .bool false] 55)) := (Below.refl _ _).alloc (Nat.le_refl _) _
      have hnb : Below w.heap.size w (wr.alloc (.cells #[.slice A2 k1 c1, .slice A k2 c2, .slice B k c3, .bool false] 55)) := hB2.trans (hnew.mono hz2)
      have hgs : ∀ x ∈ [w.heap.size + 1, w.heap.size, wr.heap.size], w.heap.size ≤ x := fun x hx => by
        simp only [List.mem_cons, List.not_mem_nil, or_false] at hx; omega
      have hlt1 := H2.out.m.m.lt
      have hPl : PlW (wr.alloc (.cells #[.slice A2 k1 c1, .slice A k2 c2, .slice B k c3, .bool false] 55)) (wr.alloc (.cells #[.slice A2 k1 c1, .slice A k2 c2, .slice B k c3, .bool false] 55)) (w.heap.size + 1) w.heap.size wr.heap.size [] s2 A2 P c1 ⟨lf, nd, false⟩ :=
        ⟨⟨A, c2, B, c3, by rw [HK.out.1, HK.out.2.1, HK.out.2.2]; exact Has.made _ _ _, by rw [HK.out.2.1]; exact hc2, hm2, HP.out.2.1.at hnb hgs, by rw [HK.out.2.2]; exact hc3, hm3, HP.out.2.2.at hnb hgs⟩, RowCA.at (w0 := w) HP.out.1 hnb hgs, H2.out.m.below hnew, Mv.refl _ _⟩
      refine (HBD.out _ wr.heap.size s2 ⟨lf, nd, false⟩ rfl (by omega) (by omega) (by omega) _ (by omega) hPl).mono ?_
      rintro e w8 ⟨ts, rfl, hts, hp8⟩
      have hfin := HFIN.out
      clear HFIN HBD HRB HR HT
      generalize Sht.run [] P 0 n ⟨lf, nd, false⟩ = u at *
      obtain ⟨x, ulf, und, ubad⟩ := u
      dsimp only at *
      obtain ⟨⟨B8, cB8, C8, cC8, hH8, b1, b2, b3, b4, b5, b6⟩, hi8, hm8, hv8⟩ := hp8
      have p2 : w8.cell? ⟨wr.heap.size, 2, none⟩ = some (.slice C8 und.length cC8) := hH8.cell 2
      have p3 : w8.cell? ⟨wr.heap.size, 3, none⟩ = some (.bool ubad) := hH8.cell 3
      have H8 := Lib.hid (OneK.mk hm8 (hv8.below hnb (by have := hnb.size; omega) hgs))
      clear hH8 b1 b2 b3 b5 b6 hi8 hm8 hv8 hPl hnew hnb hgs H2 HP HK hts hB2
      generalize und.length = un at *
      have h0 : (un ≠ 0 → (0 : Int) < (un : Int)) := fun h => by omega
      have HX := Lib.hid h0; clear h0
      cases la
      all_goals
        rcases hfin with ⟨rfl, rfl, rfl⟩ | ⟨rfl, h0, rfl, rfl⟩ | ⟨rfl, rfl, h9, rfl, rfl⟩ | ⟨rfl, rfl, h9, rfl, rfl⟩
        case' inr.inl => have h0' := HX.out h0; clear h0
        case' inr.inr.inl => first | (cases h9; done) | skip
        case' inr.inr.inr => first | (cases h9; done) | skip
        all_goals
          try (have hxx : (x == x) = true := by simp)
          go_wp2_with fail
          refine (H8.out.awake8).mono ?_
          rintro e w9 ⟨rfl, hb9⟩
          go_wp2_with fail
          go_ret
          exact ⟨rfl, hb9⟩
theorem sheetBuilds_any (n : Int) (A2 A B : Option Addr) (P : List Int) (lf nd : List (List UInt8)) (c1 c2 c3 : Nat) (w : World) (hT : Tabs w)
    (hp : RowI w [] A2 P) (hc1 : P.length ≤ c1) (hm1 : c1 ≤ 9223372036854775807) (hA : RowA w A lf) (hc2 : lf.length ≤ c2) (hm2 : c2 ≤ 9223372036854775807) (sA : ∀ s ∈ lf, s.length ≤ 1000000000000000)
    (hB : RowA w B nd) (hc3 : nd.length ≤ c3) (hm3 : c3 ≤ 9223372036854775807) (sB : ∀ s ∈ nd, s.length ≤ 1000000000000000) :
    Calls Tryd.prog 6 #[.int .i64 n, .slice A2 P.length c1, .slice A lf.length c2, .slice B nd.length c3] w fun e w' => e = .returned (.bool true) ∧ Below w.heap.size w w' := by
  by_cases h1 : (20 : Int) < (P.length : Int)
  · exact sheetBuilds_many n A2 A B _ _ _ c1 c2 c3 w hT (Or.inl h1)
  by_cases h2 : (20 : Int) < (lf.length : Int)
  · exact sheetBuilds_many n A2 A B _ _ _ c1 c2 c3 w hT (Or.inr (Or.inl h2))
  by_cases h3 : (20 : Int) < (nd.length : Int)
  · exact sheetBuilds_many n A2 A B _ _ _ c1 c2 c3 w hT (Or.inr (Or.inr h3))
  by_cases hok : Sht.rbOk n P lf
  · have h0 := hok.1
    obtain ⟨m, rfl⟩ := Int.eq_ofNat_of_zero_le (show 0 ≤ n by omega)
    exact sheetBuilds_ok m A2 A B P lf nd c1 c2 c3 w hT h1 h2 h3 hp hc1 hm1 hA hc2 hm2 sA hB hc3 hm3 sB hok
  · exact sheetBuilds_size n A2 A B P lf nd c1 c2 c3 w hT h1 h2 h3 hp hc1 hm1 hA hc2 hm2 sA hB hc3 hm3 sB hok
set_option maxRecDepth 100000 in
theorem sheetBuilds_contract {H : Type} (enc : TypeId × Value → H) (W : World) (base : Nat) (args : Array Value) (ds gs : List (DataW H)) (before : List MemPlace)
    (hval : ∀ (j : Nat) t v, Tryd.f6.params[j]? = some t → args[j]? = some v → Value.okWide Tryd.prog W .any base t v)
    (hW : DataW.Whole enc Tryd.prog Tryd.f6.params.toList Rows.sheetBuildsSpec.vars false W args.toList ds gs before)
    (hsz : (DataW.weightsEach Tryd.prog (Tryd.f6.params.toList ++ Rows.sheetBuildsSpec.plain.varTypes Tryd.prog) (ds ++ gs)).all (· ≤ reachBytes) = true) (hT : Tabs W) :
    Calls Tryd.prog 6 args W fun e W' =>
      ((Rows.sheetBuildsSpec.fn H (ds ++ gs)).results = [.lit (.bool true)] ∧ (Rows.sheetBuildsSpec.fn H (ds ++ gs)).args = ds ∧ (Rows.sheetBuildsSpec.fn H (ds ++ gs)).vars = []) ∧ e = .returned (.bool true) ∧ Below W.heap.size W W' := by
  obtain ⟨p, q, hA0, hV, rfl, hfz, hnd⟩ := hW
  have hA : DataW.TrodAll enc Tryd.prog W 0 (fun _ => true) true Tryd.f6.params.toList args.toList ds p := hA0
  rw [Tryd.params6] at hA hval hsz
  obtain ⟨v0, v1, v2, v3, d0, d1, d2, d3, p0, p1, p2, p3, rfl, rfl, rfl, h0, h1, h2, h3⟩ := trodAll_four hA
  obtain ⟨rfl, rfl⟩ := trodVars_none hV
  obtain ⟨n, rfl, rfl, rfl, bd_n⟩ := open_int Tryd.underlying3 (hval 0 3 v0 rfl rfl) h0
  obtain ⟨A_p, len_p, cap_p, rfl⟩ := okWide_slice Tryd.underlying44 (hval 1 44 v1 rfl rfl)
  obtain ⟨fuel_p, hf_p⟩ := h1
  obtain ⟨l_p, rfl, lc_p, cm_p, hR_p⟩ := ints_open hf_p
  obtain ⟨A_q, len_q, cap_q, rfl⟩ := okWide_slice Tryd.underlying31 (hval 2 31 v2 rfl rfl)
  obtain ⟨fuel_q, hf_q⟩ := h2
  obtain ⟨l_q, rfl, lc_q, cm_q, hA_q, hB_q⟩ := mktexts_open hf_q (fun n hn => by
    have h := List.all_eq_true.1 hsz n (DataW.weights_mem_each (j := 2) (t := 31) (d := d2) rfl rfl n hn)
    exact Nat.le_trans (by simpa using h) (by decide))
  obtain ⟨A_r, len_r, cap_r, rfl⟩ := okWide_slice Tryd.underlying31 (hval 3 31 v3 rfl rfl)
  obtain ⟨fuel_r, hf_r⟩ := h3
  obtain ⟨l_r, rfl, lc_r, cm_r, hA_r, hB_r⟩ := mktexts_open hf_r (fun n hn => by
    have h := List.all_eq_true.1 hsz n (DataW.weights_mem_each (j := 3) (t := 31) (d := d3) rfl rfl n hn)
    exact Nat.le_trans (by simpa using h) (by decide))
  exact (sheetBuilds_any n A_p A_q A_r l_p l_q l_r cap_p cap_q cap_r W hT hR_p lc_p cm_p hA_q lc_q cm_q hB_q hA_r lc_r cm_r hB_r).mono fun e W' h => ⟨⟨rfl, rfl, rfl⟩, h⟩

end Go.Proofs.YtgjknfphmmlcdaaDoor
