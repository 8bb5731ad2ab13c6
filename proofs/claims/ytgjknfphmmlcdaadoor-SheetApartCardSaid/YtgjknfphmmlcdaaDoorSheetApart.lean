/-
  The contract of SheetApart.
-/
import Derived.Test.YtgjknfphmmlcdaaDoorSheetApartA
namespace Go.Proofs.YtgjknfphmmlcdaaDoor
open Go.ChangeShapes Go.WideShapes Go.ChangeAt Go.RowKit
open Go.ChangeMaps (open_string shut_string)
set_option linter.unusedVariables false

set_option maxHeartbeats 8000000 in
set_option maxRecDepth 100000 in
theorem sheetApart_in (A : Option Addr) (m : List Mill.En) (n0 cap : Nat) (n : Int) (A1 A2 A3 A4 A5 : Option Addr) (P : List Int) (a x b y : List (List UInt8)) (c1 c2 c3 c4 c5 : Nat) (hm10 : m.length ≤ 10) (hfit : Mill.fit m) (w : World) (hE : Ents w A m) (hT : Tabs w)
    (hP : RowI w [] A1 P) (hA : RowA w A2 a) (hX : RowA w A3 x) (hB : RowA w A4 b) (hY : RowA w A5 y) (hc1 : P.length ≤ c1) (hm1 : c1 ≤ 9223372036854775807) (hc2 : a.length ≤ c2) (hm2 : c2 ≤ 9223372036854775807) (hc3 : x.length ≤ c3) (hm3 : c3 ≤ 9223372036854775807)
    (hc4 : b.length ≤ c4) (hm4 : c4 ≤ 9223372036854775807) (hc5 : y.length ≤ c5) (hm5 : c5 ≤ 9223372036854775807) (sX : ∀ s ∈ x, s.length ≤ 1000000000000000) (sY : ∀ s ∈ y, s.length ≤ 1000000000000000)
    (g1 : ¬ (12 : Int) < (P.length : Int)) (g2 : ¬ (20 : Int) < (x.length : Int)) (g3 : ¬ (20 : Int) < (y.length : Int)) (hlen : a.length = b.length) (g5 : ¬ (12 : Int) < (a.length : Int))
    (hcut : (n0 = m.length ∧ ¬ (10 : Int) < (n0 : Int)) ∨ ((10 : Int) < (n0 : Int) ∧ m.length = 10 ∧ (10 : Int) ≤ (cap : Int))) (hncap : (n0 : Int) ≤ (cap : Int)) (hcm : (cap : Int) ≤ 9223372036854775807) :
    Calls Tryd.prog 7 #[.slice A n0 cap, .int .i64 n, .slice A1 P.length c1, .slice A2 a.length c2, .slice A3 x.length c3, .slice A4 b.length c4, .slice A5 y.length c5] w fun e w' => e = .returned (.bool true) ∧ Below w.heap.size w w' := by
  have hR1 := fun (hr : Mill.right m = true) (hs : Mk.Sums a) tv st W (h : OneT w W tv m st) (hst : st.sums ≤ 1000) => shRebuild_any (w.heap.size + 1) w.heap.size tv m hr n A1 A2 A3 P a x c1 c2 c3 st W hc1 hm1 (RowCA.at (w0 := w) hP h.b two_low) hc2 hm2 (hA.at h.b two_low) (fun s h => by rw [hs s h]; omega) hc3 hm3 (hX.at h.b two_low) sX (by omega) h.m
  have hR2 := fun (hr : Mill.right m = true) (hs : Mk.Sums b) tv st W (h : OneT w W tv m st) (hst : st.sums ≤ 1000) => shRebuild_any (w.heap.size + 1) w.heap.size tv m hr n A1 A4 A5 P b y c1 c4 c5 st W hc1 hm1 (RowCA.at (w0 := w) hP h.b two_low) hc4 hm4 (hB.at h.b two_low) (fun s h => by rw [hs s h]; omega) hc5 hm5 (hY.at h.b two_low) sY (by omega) h.m
  have hfin := fun hr (ha : Mk.Sums a) (hb : Mk.Sums b) => Sht.apart_fin m hr n P a x b y ha hb hlen
  have l1 := Sht.rbTs_few m n P a x
  have l2 := Sht.rbTs_few m n P b y
  unfold MkPost at hR1 hR2
  generalize Sht.rbC n P a x = e1 at *
  generalize Sht.rbC n P b y = e2 at *
  generalize Sht.rbV m n P a x = v1 at *
  generalize Sht.rbV m n P b y = v2 at *
  generalize Sht.rbTs m n P a x = t1 at *
  generalize Sht.rbTs m n P b y = t2 at *
  have hst1 : ∀ st, (Mill.steps m t1 st).sums ≤ st.sums + 12 := fun st => by rw [Mill.steps_sums]; omega
  generalize Mill.steps m t1 = step1 at *
  generalize Mill.steps m t2 = step2 at *
  have HR1 := Lib.hid hR1; clear hR1
  have HR2 := Lib.hid hR2; clear hR2
  have HFIN := Lib.hid hfin; clear hfin
  have HROW := Lib.hid (And.intro hA hB)
  have hW := with_any A m cap (by omega) hfit w hE hT
  unfold WithPost at hW
  have HW := Lib.hid hW; clear hW
  have HT := Lib.hid hT
  have h2 := hT.2.2
  clear hE hT hfit hP hA hX hB hY sX sY l1 l2
  obtain ⟨k1, hk1⟩ : ∃ k, P.length = k := ⟨_, rfl⟩
  obtain ⟨k2, hk2⟩ : ∃ k, a.length = k := ⟨_, rfl⟩
  obtain ⟨k3, hk3⟩ : ∃ k, x.length = k := ⟨_, rfl⟩
  have hk4 : b.length = k2 := by omega
  obtain ⟨k5, hk5⟩ : ∃ k, y.length = k := ⟨_, rfl⟩
  have HK := Lib.hid (And.intro hk2 hk4)
  rw [hk1, hk2, hk3] at HR1
  rw [hk1, hk4, hk5] at HR2
  rw [hk1] at g1 hc1 ⊢
  rw [hk2] at g5 hc2 ⊢
  rw [hk3] at g2 hc3 ⊢
  rw [hk4] at hc4 ⊢
  rw [hk5] at g3 hc5 ⊢
  clear hk1 hk2 hk3 hk4 hk5 hlen
  have g4 : ((k2 : Int) != (k2 : Int)) = false := by simp
  rcases hcut with ⟨rfl, h10⟩ | ⟨h10, hl, hc10⟩
  case' inr => rw [hl] at HW
  all_goals
    go_enter Tryd.func7, Tryd.ntmps7
    go_wp2_with fail
    refine HW.out.mono ?_
    rintro r1 w1 ⟨hb1, ⟨hr, rfl, hm1'⟩ | ⟨hr, rfl⟩⟩
    case' inr =>
      have HA := Lib.hid (slAwake_any w1 (HT.out.below hb1 (by omega)))
      clear HFIN
      go_wp2_with fail
      refine HA.out.mono ?_
      rintro r w6 ⟨rfl, hb⟩
      go_wp2_with fail
      go_ret
      exact ⟨rfl, hb1.trans (hb.mono hb1.size)⟩
    case' inl =>
      obtain ⟨tv, hm1'⟩ := hm1'
      have H := Lib.hid (OneT.mk (w0 := w) (⟨hm1', HT.out.below hb1 (by omega), by omega, by omega⟩ : MkW w1 (w.heap.size + 1) w.heap.size tv m Mill.fresh) hb1)
      clear hb1 hm1' HW
      have hs0 : Mill.fresh.sums = 0 := rfl
      have hfin := HFIN.out hr
      clear HFIN
      generalize Mill.fresh = fr at H hs0 hfin
      have HFIN := Lib.hid hfin; clear hfin
      go_wp2_with fail
      go_loopw [17, 18] (fun v17 v18 wr => ∃ k : Nat, k ≤ k2 ∧ v18 = .int .i64 (k : Int) ∧ v17 = .bool (Sht.unl a b k) ∧ Mk.Sums (a.take k) ∧ Mk.Sums (b.take k) ∧ Below w1.heap.size w1 wr) (fun _ v18 _ => k2 - (intOf v18).toNat)
      case atStart => exact ⟨0, Nat.zero_le _, rfl, rfl, (fun s hs => by cases hs), (fun s hs => by cases hs), Below.refl _ _⟩
      case round =>
        obtain ⟨k, hk, rfl, rfl, sa, sb, hbw⟩ := hrel
        by_cases hlt : k < k2
        · have hka : k < a.length := by rw [HK.out.1]; exact hlt
          have hkb : k < b.length := by rw [HK.out.2]; exact hlt
          have HB := Lib.hid (H.out.below hbw)
          obtain ⟨ba, oa, rfl, hba, hna, hra⟩ := (HROW.out.1.at HB.out.b two_low) (fun e => by rw [e] at hka; exact absurd hka (Nat.not_lt_zero _))
          obtain ⟨bb, ob, rfl, hbb, hnb, hrb⟩ := (HROW.out.2.at HB.out.b two_low) (fun e => by rw [e] at hkb; exact absurd hkb (Nat.not_lt_zero _))
          have ca := hra k hka
          have cb := hrb k hkb
          have hst := Sht.unl_step a b k hka hkb
          have hsa := fun h => Sht.sums_step hka sa h
          have hsb := fun h => Sht.sums_step hkb sb h
          generalize a[k]'hka = xa at ca hst hsa
          generalize b[k]'hkb = xb at cb hst hsb
          have HST := Lib.hid (And.intro hst (And.intro hsa hsb))
          have HBW := Lib.hid hbw
          clear hst hsa hsb hra hrb hna hnb hba hbb sa sb hka hkb hbw
          generalize Sht.unl a b k = u at *
          by_cases h32a : xa.length = 32
          · have f1 : ((xa.length : Int) != 32) = false := by simpa using (show (xa.length : Int) = 32 by omega)
            by_cases h32b : xb.length = 32
            · have f2 : ((xb.length : Int) != 32) = false := by simpa using (show (xb.length : Int) = 32 by omega)
              have HS := Lib.hid (And.intro (HST.out.2.1 h32a) (HST.out.2.2 h32b))
              have HU := Lib.hid HST.out.1
              clear HST h32a h32b
              cases u with
              | true =>
                go_upto_region 12 with (fail)
                go_quiet (fail)
                go_wp2_with fail
                go_roundw
                case rel => exact ⟨k + 1, by omega, by go_num, by rw [HU.out]; rfl, HS.out.1, HS.out.2, belowN HBW.out _⟩
                case measure => simp [intOf]; omega
              | false =>
                by_cases hx : xa = xb
                · have f3 : (xa != xb) = false := by simpa using hx
                  rw [f3] at HU
                  clear hx
                  go_upto_region 12 with (fail)
                  go_quiet (fail)
                  go_wp2_with fail
                  go_roundw
                  case rel => exact ⟨k + 1, by omega, by go_num, by rw [HU.out]; exact congrArg Value.bool f3, HS.out.1, HS.out.2, belowN HBW.out _⟩
                  case measure => simp [intOf]; omega
                · have f3 : (xa != xb) = true := by simpa using hx
                  rw [f3] at HU
                  clear hx
                  go_upto_region 12 with (fail)
                  go_quiet (fail)
                  go_wp2_with fail
                  go_roundw
                  case rel => exact ⟨k + 1, by omega, by go_num, by rw [HU.out]; exact congrArg Value.bool f3, HS.out.1, HS.out.2, belowN HBW.out _⟩
                  case measure => simp [intOf]; omega
            · have f2 : ((xb.length : Int) != 32) = true := by simpa using (show ¬ (xb.length : Int) = 32 by omega)
              have HA := Lib.hid HB.out.awake8
              clear HST
              go_wp2_with fail
              refine HA.out.mono ?_
              rintro r w6 ⟨rfl, hb⟩
              go_wp2_with fail
              go_ret
              exact ⟨rfl, hb⟩
          · have f1 : ((xa.length : Int) != 32) = true := by simpa using (show ¬ (xa.length : Int) = 32 by omega)
            have HA := Lib.hid HB.out.awake8
            clear HST
            go_wp2_with fail
            refine HA.out.mono ?_
            rintro r w6 ⟨rfl, hb⟩
            go_wp2_with fail
            go_ret
            exact ⟨rfl, hb⟩
        · have hkn : k = k2 := by omega
          subst hkn
          have HB := Lib.hid (H.out.below hbw)
          have ha2 : Mk.Sums a := by rw [List.take_of_length_le (by rw [HK.out.1]; exact Nat.le_refl _)] at sa; exact sa
          have hb2 : Mk.Sums b := by rw [List.take_of_length_le (by rw [HK.out.2]; exact Nat.le_refl _)] at sb; exact sb
          have hfin := HFIN.out ha2 hb2
          rw [Sht.unl_end a b k HK.out.1.symm HK.out.2.symm]
          have HR1' := Lib.hid (HR1.out hr ha2); clear HR1
          have HR2' := Lib.hid (HR2.out hr hb2); clear HR2
          clear HFIN H hbw sa sb HROW
          have hab : (∀ h : a = b, decide (a = b) = true) ∧ (∀ h : ¬ a = b, decide (a = b) = false) := ⟨fun h => decide_eq_true h, fun h => decide_eq_false h⟩
          have HAB := Lib.hid hab; clear hab
          generalize decide (a = b) = dd at *
          go_wp2_with fail
          refine (HR1'.out _ _ _ HB.out (by omega)).mono ?_
          rintro r w2 ⟨rfl, hm2', hv2⟩
          replace HB := Lib.hid (HB.out.step hm2' hv2); clear hm2' hv2
          have hs1 : (step1 fr).sums ≤ 12 := by have := hst1 fr; omega
          generalize step1 fr = st1 at HB hs1 hfin
          go_wp2_with fail
          refine (HR2'.out _ _ _ HB.out (by omega)).mono ?_
          rintro r w3 ⟨rfl, hm3', hv3⟩
          replace HB := Lib.hid (HB.out.step hm3' hv3); clear hm3' hv3
          generalize step2 st1 = st2 at HB hfin
          go_wp2_with fail
          refine (twins_any _ _ _ _ _ HB.out.m.m.at).mono ?_
          rintro r w5 ⟨rfl, hb5⟩
          replace HB := Lib.hid (HB.out.below hb5); clear hb5
          have HA := Lib.hid HB.out.awake8
          generalize hmet' : st2.met = met at hfin ⊢
          clear hmet'
          rcases hfin with f1 | ⟨f1, f2⟩ | ⟨f1, f2, f3⟩ | ⟨f1, f2, f3, f4⟩ | ⟨f1, f2, f3, f4, rfl, f6⟩
          case' inr.inr.inr.inl => obtain rfl := HAB.out.1 f4; clear f4
          case' inr.inr.inr.inr => obtain rfl := HAB.out.2 f4; clear f4
          all_goals
            clear HAB
            go_wp2_with fail
            refine HA.out.mono ?_
            rintro r w6 ⟨rfl, hb⟩
            go_wp2_with fail
            go_ret
            exact ⟨rfl, hb⟩
theorem sheetApart_any (A : Option Addr) (m : List Mill.En) (cap : Nat) (n : Int) (A1 A2 A3 A4 A5 : Option Addr) (P : List Int) (a x b y : List (List UInt8)) (c1 c2 c3 c4 c5 : Nat) (hfit : Mill.fit m) (w : World) (hE : Ents w A m) (hT : Tabs w)
    (hP : RowI w [] A1 P) (hA : RowA w A2 a) (hX : RowA w A3 x) (hB : RowA w A4 b) (hY : RowA w A5 y) (hc1 : P.length ≤ c1) (hm1 : c1 ≤ 9223372036854775807) (hc2 : a.length ≤ c2) (hm2 : c2 ≤ 9223372036854775807) (hc3 : x.length ≤ c3) (hm3 : c3 ≤ 9223372036854775807)
    (hc4 : b.length ≤ c4) (hm4 : c4 ≤ 9223372036854775807) (hc5 : y.length ≤ c5) (hm5 : c5 ≤ 9223372036854775807) (sX : ∀ s ∈ x, s.length ≤ 1000000000000000) (sY : ∀ s ∈ y, s.length ≤ 1000000000000000) (hlc : m.length ≤ cap) (hcm : cap ≤ maxLen) :
    Calls Tryd.prog 7 #[.slice A m.length cap, .int .i64 n, .slice A1 P.length c1, .slice A2 a.length c2, .slice A3 x.length c3, .slice A4 b.length c4, .slice A5 y.length c5] w fun e w' => e = .returned (.bool true) ∧ Below w.heap.size w w' := by
  have hmax : maxLen = 9223372036854775807 := rfl
  have hcut : (m.length = (m.take 10).length ∧ ¬ (10 : Int) < (m.length : Int)) ∨ ((10 : Int) < (m.length : Int) ∧ (m.take 10).length = 10 ∧ (10 : Int) ≤ (cap : Int)) := by
    rw [List.length_take]
    omega
  have h10 : (m.take 10).length ≤ 10 := by rw [List.length_take]; omega
  by_cases hin : ¬ (12 : Int) < (P.length : Int) ∧ ¬ (20 : Int) < (x.length : Int) ∧ ¬ (20 : Int) < (y.length : Int) ∧ a.length = b.length ∧ ¬ (12 : Int) < (a.length : Int)
  · exact sheetApart_in A (m.take 10) m.length cap n A1 A2 A3 A4 A5 P a x b y c1 c2 c3 c4 c5 h10 (fun e he => hfit e (List.mem_of_mem_take he)) w (hE.take 10) hT hP hA hX hB hY hc1 hm1 hc2 hm2 hc3 hm3 hc4 hm4 hc5 hm5 sX sY hin.1 hin.2.1 hin.2.2.1 hin.2.2.2.1 hin.2.2.2.2 hcut (by omega) (by omega)
  · refine sheetApart_out A (m.take 10) m.length cap n A1 A2 A3 A4 A5 P.length a.length x.length b.length y.length c1 c2 c3 c4 c5 h10 (fun e he => hfit e (List.mem_of_mem_take he)) w (hE.take 10) hT ?_ hcut (by omega) (by omega)
    by_cases q1 : (12 : Int) < (P.length : Int)
    · exact Or.inl q1
    by_cases q2 : (20 : Int) < (x.length : Int)
    · exact Or.inr (Or.inl ⟨q1, q2⟩)
    by_cases q3 : (20 : Int) < (y.length : Int)
    · exact Or.inr (Or.inr (Or.inl ⟨q1, q2, q3⟩))
    by_cases q4 : a.length = b.length
    · exact Or.inr (Or.inr (Or.inr (Or.inr ⟨q1, q2, q3, by rw [q4]; simp, by
        by_cases q5 : (12 : Int) < (a.length : Int)
        · exact q5
        · exact absurd ⟨q1, q2, q3, q4, q5⟩ hin⟩)))
    · exact Or.inr (Or.inr (Or.inr (Or.inl ⟨q1, q2, q3, by simpa using (show ¬ (a.length : Int) = (b.length : Int) by omega)⟩)))
theorem mktrod_7 {H : Type} {enc : TypeId × Value → H} {P : Program} {w : World} {base : Nat} {spare : Nat → Bool} {held : Bool} {t0 t1 t2 t3 t4 t5 t6 : TypeId} {args : Array Value} {ds : List (DataW H)} {ps : List MemPlace} (h : DataW.TrodAll enc P w base spare held [t0, t1, t2, t3, t4, t5, t6] args.toList ds ps) :
    ∃ v0 v1 v2 v3 v4 v5 v6 d0 d1 d2 d3 d4 d5 d6 p0 p1 p2 p3 p4 p5 p6, args = #[v0, v1, v2, v3, v4, v5, v6] ∧ ds = [d0, d1, d2, d3, d4, d5, d6] ∧ ps = p0 ++ p1 ++ p2 ++ p3 ++ p4 ++ p5 ++ p6 ∧ DataW.Trod enc P w base spare held t0 v0 d0 p0 ∧ DataW.Trod enc P w base spare held t1 v1 d1 p1 ∧ DataW.Trod enc P w base spare held t2 v2 d2 p2 ∧ DataW.Trod enc P w base spare held t3 v3 d3 p3 ∧ DataW.Trod enc P w base spare held t4 v4 d4 p4 ∧ DataW.Trod enc P w base spare held t5 v5 d5 p5 ∧ DataW.Trod enc P w base spare held t6 v6 d6 p6 := by
  obtain ⟨v0, vs0, d0, ds0, p0, q0, hargs, rfl, rfl, h0, r0⟩ := trodAll_cons h
  obtain ⟨v1, vs1, d1, ds1, p1, q1, rfl, rfl, rfl, h1, r1⟩ := trodAll_cons r0
  obtain ⟨v2, vs2, d2, ds2, p2, q2, rfl, rfl, rfl, h2, r2⟩ := trodAll_cons r1
  obtain ⟨v3, vs3, d3, ds3, p3, q3, rfl, rfl, rfl, h3, r3⟩ := trodAll_cons r2
  obtain ⟨v4, vs4, d4, ds4, p4, q4, rfl, rfl, rfl, h4, r4⟩ := trodAll_cons r3
  obtain ⟨v5, vs5, d5, ds5, p5, q5, rfl, rfl, rfl, h5, r5⟩ := trodAll_cons r4
  obtain ⟨v6, vs6, d6, ds6, p6, q6, rfl, rfl, rfl, h6, r6⟩ := trodAll_cons r5
  obtain ⟨rfl, rfl, rfl⟩ := trodAll_nil r6
  exact ⟨v0, v1, v2, v3, v4, v5, v6, d0, d1, d2, d3, d4, d5, d6, p0, p1, p2, p3, p4, p5, p6, by cases args; simp_all, rfl, by simp, h0, h1, h2, h3, h4, h5, h6⟩

set_option maxRecDepth 100000 in
theorem sheetApart_contract {H : Type} (enc : TypeId × Value → H) (W : World) (base : Nat) (args : Array Value) (ds gs : List (DataW H)) (before : List MemPlace)
    (hval : ∀ (j : Nat) t v, Tryd.f7.params[j]? = some t → args[j]? = some v → Value.okWide Tryd.prog W .any base t v)
    (hW : DataW.Whole enc Tryd.prog Tryd.f7.params.toList Rows.sheetApartSpec.vars false W args.toList ds gs before)
    (hsz : (DataW.weightsEach Tryd.prog (Tryd.f7.params.toList ++ Rows.sheetApartSpec.plain.varTypes Tryd.prog) (ds ++ gs)).all (· ≤ reachBytes) = true) (hT : Tabs W) :
    Calls Tryd.prog 7 args W fun e W' =>
      ((Rows.sheetApartSpec.fn H (ds ++ gs)).results = [.lit (.bool true)] ∧ (Rows.sheetApartSpec.fn H (ds ++ gs)).args = ds ∧ (Rows.sheetApartSpec.fn H (ds ++ gs)).vars = []) ∧ e = .returned (.bool true) ∧ Below W.heap.size W W' := by
  obtain ⟨p, q, hA0, hV, rfl, hfz, hnd⟩ := hW
  have hA : DataW.TrodAll enc Tryd.prog W 0 (fun _ => true) true Tryd.f7.params.toList args.toList ds p := hA0
  rw [Tryd.params7] at hA hval hsz
  obtain ⟨v0, v1, v2, v3, v4, v5, v6, d0, d1, d2, d3, d4, d5, d6, p0, p1, p2, p3, p4, p5, p6, rfl, rfl, rfl, h0, h1, h2, h3, h4, h5, h6⟩ := mktrod_7 hA
  obtain ⟨rfl, rfl⟩ := trodVars_none hV
  obtain ⟨A_m, len_m, cap_m, rfl⟩ := okWide_slice Tryd.underlying58 (hval 0 58 v0 rfl rfl)
  obtain ⟨fuel_m, hf_m⟩ := h0
  obtain ⟨l_m, rfl, hE_m, fit_m, lc_m, cm_m⟩ := ents_open hf_m (fun n hn => by
    have h := List.all_eq_true.1 hsz n (DataW.weights_mem_each (j := 0) (t := 58) (d := d0) rfl rfl n hn)
    exact Nat.le_trans (by simpa using h) (by decide))
  obtain ⟨n, rfl, rfl, rfl, bd_n⟩ := open_int Tryd.underlying3 (hval 1 3 v1 rfl rfl) h1
  obtain ⟨A_p, len_p, cap_p, rfl⟩ := okWide_slice Tryd.underlying44 (hval 2 44 v2 rfl rfl)
  obtain ⟨fuel_p, hf_p⟩ := h2
  obtain ⟨l_p, rfl, lc_p, cm_p, hR_p⟩ := ints_open hf_p
  obtain ⟨A_a, len_a, cap_a, rfl⟩ := okWide_slice Tryd.underlying31 (hval 3 31 v3 rfl rfl)
  obtain ⟨fuel_a, hf_a⟩ := h3
  obtain ⟨l_a, rfl, lc_a, cm_a, hA_a, hB_a⟩ := mktexts_open hf_a (fun n hn => by
    have h := List.all_eq_true.1 hsz n (DataW.weights_mem_each (j := 3) (t := 31) (d := d3) rfl rfl n hn)
    exact Nat.le_trans (by simpa using h) (by decide))
  obtain ⟨A_x, len_x, cap_x, rfl⟩ := okWide_slice Tryd.underlying31 (hval 4 31 v4 rfl rfl)
  obtain ⟨fuel_x, hf_x⟩ := h4
  obtain ⟨l_x, rfl, lc_x, cm_x, hA_x, hB_x⟩ := mktexts_open hf_x (fun n hn => by
    have h := List.all_eq_true.1 hsz n (DataW.weights_mem_each (j := 4) (t := 31) (d := d4) rfl rfl n hn)
    exact Nat.le_trans (by simpa using h) (by decide))
  obtain ⟨A_b, len_b, cap_b, rfl⟩ := okWide_slice Tryd.underlying31 (hval 5 31 v5 rfl rfl)
  obtain ⟨fuel_b, hf_b⟩ := h5
  obtain ⟨l_b, rfl, lc_b, cm_b, hA_b, hB_b⟩ := mktexts_open hf_b (fun n hn => by
    have h := List.all_eq_true.1 hsz n (DataW.weights_mem_each (j := 5) (t := 31) (d := d5) rfl rfl n hn)
    exact Nat.le_trans (by simpa using h) (by decide))
  obtain ⟨A_y, len_y, cap_y, rfl⟩ := okWide_slice Tryd.underlying31 (hval 6 31 v6 rfl rfl)
  obtain ⟨fuel_y, hf_y⟩ := h6
  obtain ⟨l_y, rfl, lc_y, cm_y, hA_y, hB_y⟩ := mktexts_open hf_y (fun n hn => by
    have h := List.all_eq_true.1 hsz n (DataW.weights_mem_each (j := 6) (t := 31) (d := d6) rfl rfl n hn)
    exact Nat.le_trans (by simpa using h) (by decide))
  exact (sheetApart_any A_m l_m cap_m n A_p A_a A_x A_b A_y l_p l_a l_x l_b l_y cap_p cap_a cap_x cap_b cap_y fit_m W hE_m hT hR_p hA_a hA_x hA_b hA_y lc_p cm_p lc_a cm_a lc_x cm_x lc_b cm_b lc_y cm_y hB_x hB_y lc_m cm_m).mono fun e W' h => ⟨⟨rfl, rfl, rfl⟩, h⟩

end Go.Proofs.YtgjknfphmmlcdaaDoor
