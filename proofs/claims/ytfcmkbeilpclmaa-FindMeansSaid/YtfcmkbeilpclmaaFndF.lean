/-
  The contracts of find's Check and of the statements' own check. Made by wip/gen/mkfndchk.py.
-/
import Derived.Test.YtfcmkbeilpclmaaFndC
import Derived.Test.YtfcmkbeilpclmaaPapWd
import Derived.Test.YtfcmkbeilpclmaaValC
import Derived.Deep.Cut
import Derived.Deep.DeepCutAuto
import Derived.Deep.CutBlock
namespace Go.Proofs.Ytfcmkbeilpclmaa
open Go.RowKit Go.Lib
set_option linter.unusedVariables false

namespace Fnd
theorem termsE_drop (T : List Trm) (k : Nat) (h : k < T.length) : termsE (T.drop k) = if termE T[k] = 0 then termsE (T.drop (k + 1)) else termE T[k] := by rw [List.drop_eq_getElem_cons h]; rfl
theorem check_5 (T : List Trm) (n : List UInt8) (d : Bool) (m : Int) (h : 8 < T.length ∨ m < 0) : check ⟨T, n, d, m⟩ = 5 := by unfold check; exact if_pos h
theorem check_14 (T : List Trm) (n : List UInt8) (d : Bool) (m : Int) (h : ¬ (8 < T.length ∨ m < 0)) (h2 : (!(n == []) && !Pap.word 16 n) = true) : check ⟨T, n, d, m⟩ = 14 := by
  unfold check
  rw [if_neg h, if_pos]
  rw [Bool.and_eq_true, Bool.not_eq_true', Bool.not_eq_true'] at h2
  exact ⟨by simpa using h2.1, h2.2⟩
theorem check_T (T : List Trm) (n : List UInt8) (d : Bool) (m : Int) (h : ¬ (8 < T.length ∨ m < 0)) (h2 : (!(n == []) && !Pap.word 16 n) = false) : check ⟨T, n, d, m⟩ = termsE T := by
  unfold check
  rw [if_neg h, if_neg]
  rintro ⟨h3, h4⟩
  have h3 : n ≠ [] := h3
  rw [show (n == []) = false by simpa using h3, h4] at h2
  cases h2
end Fnd
abbrev QHas (W : World) (g : Nat) (A : Option Addr) (n cap : Nat) (nm : List UInt8) (d : Bool) (m : Int) : Prop := Has W g 24 #[.slice A n cap, .string (S nm), .bool d, .int .i64 m]

set_option maxHeartbeats 16000000 in
set_option maxRecDepth 100000 in
theorem fcheck_any {w : World} {T : List Fnd.Trm} {A : Option Addr} {cap : Nat} (nm : List UInt8) (d : Bool) (m : Int) (hrow : RowTm w A T) (hok : ∀ t ∈ T, t.Ok) (hnm : nm.length ≤ 1000000) (hT : T.length ≤ 1000000) :
    Calls Try.prog 10 #[.agg #[.slice A T.length cap, .string (S nm), .bool d, .int .i64 m]] w fun r w' => r = .returned (.int .i64 (Fnd.check ⟨T, nm, d, m⟩)) ∧ Below w.heap.size w w' := by
  have hN := fun W => isName_any nm hnm W
  have h5 := Fnd.check_5 T nm d m
  have h14 := Fnd.check_14 T nm d m
  have hTT := Fnd.check_T T nm d m
  obtain ⟨wd, hwd⟩ : ∃ r, Pap.word 16 nm = r := ⟨_, rfl⟩
  rw [hwd] at hN h14 hTT
  generalize Fnd.check ⟨T, nm, d, m⟩ = res at h5 h14 hTT ⊢
  have HN := Lib.hid hN
  have H5 := Lib.hid h5
  have H14 := Lib.hid h14
  have HTT := Lib.hid hTT
  have HROW := Lib.hid hrow
  have HOK := Lib.hid hok
  clear hN h5 h14 hTT hrow hok hwd
  have hQ := Has.made w 24 #[.slice A T.length cap, .string (S nm), .bool d, .int .i64 m]
  have hB := up1 (w := w) (.cells #[.slice A T.length cap, .string (S nm), .bool d, .int .i64 m] 24)
  go_enter Try.func10, Try.ntmps10
  go_upto_region 1 with fail
  generalize w.alloc (.cells #[.slice A T.length cap, .string (S nm), .bool d, .int .i64 m] 24) = W0 at hQ hB ⊢
  have HB := Lib.hid hB
  clear hB
  generalize hb1 : w.heap.size = b1 at hQ ⊢
  have q0 : W0.cell? ⟨b1, 0, none⟩ = some (.slice A T.length cap) := hQ.cell 0
  have q1 : W0.cell? ⟨b1, 1, none⟩ = some (.string (S nm)) := hQ.cell 1
  have q3 : W0.cell? ⟨b1, 3, none⟩ = some (.int .i64 m) := hQ.cell 3
  have HQ : Hid (QHas W0 b1 A T.length cap nm d m) := Lib.hid hQ
  clear hQ
  by_cases e8 : (8 : Int) < (T.length : Int)
  · go_wp2_with fail
    go_ret
    exact ⟨by rw [H5.out (Or.inl (by omega))]; rfl, by first | exact HB.out | (rw [← hb1]; exact HB.out)⟩
  by_cases em : m < 0
  · go_wp2_with fail
    go_ret
    exact ⟨by rw [H5.out (Or.inr em)]; rfl, by first | exact HB.out | (rw [← hb1]; exact HB.out)⟩
  go_upto_region 3 with fail
  obtain ⟨q, hq⟩ : ∃ q, q = (!(nm == []) && !wd) := ⟨_, rfl⟩
  rw [← hq] at H14 HTT
  go_cut [15] from 15 to 24 (fun v3 wc => v3 = .bool q ∧ wc = W0)
  case first =>
    cases hne : nm == []
    · go_wp2_with fail
      refine (HN.out _).mono ?_
      rintro r w1 ⟨rfl, e1⟩
      rw [← e1]
      clear e1 w1
      go_wp2_with fail
      go_meet
      case rel => exact ⟨by rw [hq, hne]; cases wd <;> rfl, rfl⟩
    · go_wp2_with fail
      go_meet
      case rel => exact ⟨by rw [hq, hne]; rfl, rfl⟩
  case rest =>
    obtain ⟨rfl, rfl⟩ := hcut
    clear hq
    cases q with
    | true =>
      go_wp2_with fail
      go_ret
      exact ⟨by rw [H14.out (by omega) (by trivial)]; rfl, by first | exact HB.out | (rw [← hb1]; exact HB.out)⟩
    | false =>
      have HR := Lib.hid (HTT.out (by omega) (by trivial))
      clear H14 HTT H5 HN
      have HK : Hid (∀ W, Below wc.heap.size wc W → QHas W b1 A T.length cap nm d m ∧ RowTm W A T ∧ Below w.heap.size w W) := fun W hb => ⟨HQ.out.below hb HQ.out.lt, (HROW.out.below HB.out).below hb, HB.out.trans (hb.mono HB.out.size)⟩
      have hbl : b1 < wc.heap.size := HQ.out.lt
      clear HQ HB HROW q1 q3
      go_wp2_with fail
      go_loopg [28] T.length (fun g1 v4 wr => ∃ k : Nat, k ≤ T.length ∧ v4 = .int .i64 (k : Int) ∧ T.length - k ≤ g1 ∧ Hid (Fnd.termsE T = Fnd.termsE (T.drop k)) ∧ Below wc.heap.size wc wr)
      case atStart => exact ⟨0, Nat.zero_le _, rfl, by omega, rfl, Below.refl _ _⟩
      case round =>
        clear q0
        obtain ⟨k, hk, rfl, hg, HE, hbk⟩ := hrel
        obtain ⟨hQk, hFk, hbw⟩ := HK.out _ hbk
        have q0 : wr.cell? ⟨b1, 0, none⟩ = some (.slice A T.length cap) := hQk.cell 0
        by_cases hlt : k < T.length
        · have hki : (k : Int) < (T.length : Int) := by omega
          have hki0 : (0 : Int) ≤ (k : Int) := by omega
          obtain ⟨bt, ot, hA, hbt, hct⟩ := RowTm.get hFk k hlt
          subst hA
          have hstep := Fnd.termsE_drop T k hlt
          have hokx := HOK.out _ (List.getElem_mem hlt)
          generalize T[k] = x at hct hstep hokx
          have hN2 := fun W => isName_any x.name hokx.few W
          have hL2 := fun W => right_any x.low hokx.low W
          have hH2 := fun W => right_any x.high hokx.high W
          unfold Fnd.termE at hstep
          obtain ⟨n, ⟨lk, lf, li, lb, lt⟩, ⟨hk1, hf, hi, hb, ht⟩, a, b, c⟩ := x
          have y0 : wr.cell? ⟨bt, ot + k * 14, none⟩ = some (.string (S n)) := hct 0 _ rfl
          have y1 := hct 1 _ rfl
          have y2 := hct 2 _ rfl
          have y3 := hct 3 _ rfl
          have y4 := hct 4 _ rfl
          have y5 := hct 5 _ rfl
          have y6 := hct 6 _ rfl
          have y7 := hct 7 _ rfl
          have y8 := hct 8 _ rfl
          have y9 := hct 9 _ rfl
          have y10 := hct 10 _ rfl
          have y11 := hct 11 _ rfl
          have y12 := hct 12 _ rfl
          have y13 := hct 13 _ rfl
          dsimp only at hstep hN2 hL2 hH2
          rw [Val.v_eq] at hL2 hH2
          generalize Pap.word 16 n = wn at hstep hN2
          generalize Val.right ⟨lk, lf, li, lb, lt⟩ = rl at hstep hL2
          generalize Val.right ⟨hk1, hf, hi, hb, ht⟩ = rh at hstep hH2
          have HN2 := Lib.hid hN2
          have HL2 := Lib.hid hL2
          have HH2 := Lib.hid hH2
          have hV := Has.made wr 37 (tcs n lk lf li lb lt hk1 hf hi hb ht a b c)
          have hBV := hbk.trans ((up1 (w := wr) (.cells (tcs n lk lf li lb lt hk1 hf hi hb ht a b c) 37)).mono hbk.size)
          have hsz := asize wr (.cells (tcs n lk lf li lb lt hk1 hf hi hb ht a b c) 37)
          clear hct hokx hN2 hL2 hH2 hQk hFk hbw
          go_upto_region 8 with fail
          clear y0 y1 y2 y3 y4 y5 y6 y7 y8 y9 y10 y11 y12 y13 q0
          generalize wr.alloc (.cells (tcs n lk lf li lb lt hk1 hf hi hb ht a b c) 37) = W2 at hV hBV hsz ⊢
          generalize hg2 : wr.heap.size = g2 at hV hsz ⊢
          have hgl : g2 < W2.heap.size := by omega
          obtain ⟨y0, y1, y2, y3, y4, y5, y6, y7, y8, y9, y10, y11, y12, y13⟩ := tlies hV
          have HV := Lib.hid hV
          have HBV := Lib.hid hBV
          clear hV hBV hg2 hsz hbk
          have HST := Lib.hid hstep
          clear hstep
          cases wn with
          | false =>
            have HF : Hid (res = 14) := by rw [HR.out, HE.out, HST.out]; rfl
            go_wp2_with fail
            refine (HN2.out _).mono ?_
            rintro r w1 ⟨rfl, e1⟩
            rw [← e1]
            clear e1 w1
            go_wp2_with fail
            go_ret
            exact ⟨by rw [HF.out]; rfl, by first | exact (HK.out _ HBV.out).2.2 | (rw [← hb1]; exact (HK.out _ HBV.out).2.2)⟩
          | true =>
            have HF : Hid ((a && !rl || b && !rh) = true → res = 15) := fun h => by rw [HR.out, HE.out, HST.out, h]; rfl
            have HG : Hid ((a && !rl || b && !rh) = false → Fnd.termsE T = Fnd.termsE (T.drop (k + 1))) := fun h => by rw [HE.out, HST.out, h]; rfl
            clear HST
            go_wp2_with fail
            refine (HN2.out _).mono ?_
            rintro r w1 ⟨rfl, e1⟩
            rw [← e1]
            clear e1 w1
            go_upto_region 10 with fail
            go_cut [53] from 36 to 53 (fun v3 wc2 => v3 = .bool (a && !rl || b && !rh) ∧ Below wc.heap.size wc wc2)
            case first =>
              have w1 : a = false ∨ (a = true ∧ rl = true) ∨ (a = true ∧ rl = false) := by cases a <;> cases rl <;> simp
              rcases w1 with rfl | ⟨rfl, rfl⟩ | ⟨rfl, rfl⟩
              case' inr.inr =>
                go_wp2_with fail
                refine (HL2.out _).mono ?_
                rintro r w3 ⟨rfl, hb3⟩
                go_wp2_with fail
                go_meet
                case rel => exact ⟨rfl, HBV.out.trans (hb3.mono HBV.out.size)⟩
              case' inl =>
                have HB3 := HBV
                obtain ⟨W3, rfl⟩ : ∃ W, W = W2 := ⟨_, rfl⟩
              case' inr.inl =>
                go_wp2_with fail
                refine (HL2.out _).mono ?_
                rintro r W3 ⟨rfl, hb3⟩
                have HB3 := Lib.hid (HBV.out.trans (hb3.mono HBV.out.size))
                have hV3 := HV.out.below hb3 hgl
                clear y0 y1 y2 y3 y4 y5 y6 y7 y8 y9 y10 y11 y12 y13 hb3
                obtain ⟨y0, y1, y2, y3, y4, y5, y6, y7, y8, y9, y10, y11, y12, y13⟩ := tlies hV3
                clear hV3
              all_goals
                have w2 : b = false ∨ (b = true ∧ rh = true) ∨ (b = true ∧ rh = false) := by cases b <;> cases rh <;> simp
                rcases w2 with rfl | ⟨rfl, rfl⟩ | ⟨rfl, rfl⟩
                · go_wp2_with fail
                  go_meet
                  case rel => exact ⟨rfl, HB3.out⟩
                · go_wp2_with fail
                  refine (HH2.out _).mono ?_
                  rintro r w4 ⟨rfl, hb4⟩
                  go_wp2_with fail
                  go_meet
                  case rel => exact ⟨rfl, HB3.out.trans (hb4.mono HB3.out.size)⟩
                · go_wp2_with fail
                  refine (HH2.out _).mono ?_
                  rintro r w4 ⟨rfl, hb4⟩
                  go_wp2_with fail
                  go_meet
                  case rel => exact ⟨rfl, HB3.out.trans (hb4.mono HB3.out.size)⟩
            case rest =>
              obtain ⟨rfl, hb5⟩ := hcut
              clear HN2 HL2 HH2 HV y0 y1 y2 y3 y4 y5 y6 y7 y8 y9 y10 y11 y12 y13 HBV
              generalize (a && !rl || b && !rh) = z at HF HG ⊢
              cases z with
              | true =>
                go_wp2_with fail
                go_ret
                exact ⟨by rw [HF.out (by trivial)]; rfl, by first | exact (HK.out _ hb5).2.2 | (rw [← hb1]; exact (HK.out _ hb5).2.2)⟩
              | false =>
                go_wp2_with fail
                go_roundg (T.length - (k + 1))
                case measure => omega
                case rel => exact ⟨k + 1, by omega, by go_num, Nat.le_refl _, HG.out (by trivial), hb5⟩
        · obtain rfl : k = T.length := by omega
          have HF : Hid (res = 0) := by rw [HR.out, HE.out, List.drop_length]; rfl
          go_wp2_with fail
          go_ret
          exact ⟨by rw [HF.out]; rfl, by first | exact hbw | (rw [← hb1]; exact hbw)⟩

set_option maxHeartbeats 16000000 in
set_option maxRecDepth 100000 in
theorem lfcheck_any {w : World} {T : List Fnd.Trm} {A : Option Addr} {cap : Nat} (nm : List UInt8) (d : Bool) (m : Int) (hrow : RowTm w A T) (hok : ∀ t ∈ T, t.Ok) (hnm : nm.length ≤ 1000000) (hT : T.length ≤ 1000000) :
    Calls Try.prog 11 #[.agg #[.slice A T.length cap, .string (S nm), .bool d, .int .i64 m]] w fun r w' => r = .returned (.int .i64 (Fnd.check ⟨T, nm, d, m⟩)) ∧ Below w.heap.size w w' := by
  have hN := fun W => isName_any nm hnm W
  have h5 := Fnd.check_5 T nm d m
  have h14 := Fnd.check_14 T nm d m
  have hTT := Fnd.check_T T nm d m
  obtain ⟨wd, hwd⟩ : ∃ r, Pap.word 16 nm = r := ⟨_, rfl⟩
  rw [hwd] at hN h14 hTT
  generalize Fnd.check ⟨T, nm, d, m⟩ = res at h5 h14 hTT ⊢
  have HN := Lib.hid hN
  have H5 := Lib.hid h5
  have H14 := Lib.hid h14
  have HTT := Lib.hid hTT
  have HROW := Lib.hid hrow
  have HOK := Lib.hid hok
  clear hN h5 h14 hTT hrow hok hwd
  have hQ := Has.made w 24 #[.slice A T.length cap, .string (S nm), .bool d, .int .i64 m]
  have hB := up1 (w := w) (.cells #[.slice A T.length cap, .string (S nm), .bool d, .int .i64 m] 24)
  go_enter Try.func11, Try.ntmps11
  go_upto_region 1 with fail
  generalize w.alloc (.cells #[.slice A T.length cap, .string (S nm), .bool d, .int .i64 m] 24) = W0 at hQ hB ⊢
  have HB := Lib.hid hB
  clear hB
  generalize hb1 : w.heap.size = b1 at hQ ⊢
  have q0 : W0.cell? ⟨b1, 0, none⟩ = some (.slice A T.length cap) := hQ.cell 0
  have q1 : W0.cell? ⟨b1, 1, none⟩ = some (.string (S nm)) := hQ.cell 1
  have q3 : W0.cell? ⟨b1, 3, none⟩ = some (.int .i64 m) := hQ.cell 3
  have HQ : Hid (QHas W0 b1 A T.length cap nm d m) := Lib.hid hQ
  clear hQ
  by_cases e8 : (8 : Int) < (T.length : Int)
  · go_wp2_with fail
    go_ret
    exact ⟨by rw [H5.out (Or.inl (by omega))]; rfl, by first | exact HB.out | (rw [← hb1]; exact HB.out)⟩
  by_cases em : m < 0
  · go_wp2_with fail
    go_ret
    exact ⟨by rw [H5.out (Or.inr em)]; rfl, by first | exact HB.out | (rw [← hb1]; exact HB.out)⟩
  go_upto_region 3 with fail
  obtain ⟨q, hq⟩ : ∃ q, q = (!(nm == []) && !wd) := ⟨_, rfl⟩
  rw [← hq] at H14 HTT
  go_cut [22] from 14 to 22 (fun v3 wc => v3 = .bool q ∧ wc = W0)
  case first =>
    cases hne : nm == []
    · go_wp2_with fail
      refine (HN.out _).mono ?_
      rintro r w1 ⟨rfl, e1⟩
      rw [← e1]
      clear e1 w1
      go_wp2_with fail
      go_meet
      case rel => exact ⟨by rw [hq, hne]; cases wd <;> rfl, rfl⟩
    · go_wp2_with fail
      go_meet
      case rel => exact ⟨by rw [hq, hne]; rfl, rfl⟩
  case rest =>
    obtain ⟨rfl, rfl⟩ := hcut
    clear hq
    cases q with
    | true =>
      go_wp2_with fail
      go_ret
      exact ⟨by rw [H14.out (by omega) (by trivial)]; rfl, by first | exact HB.out | (rw [← hb1]; exact HB.out)⟩
    | false =>
      have HR := Lib.hid (HTT.out (by omega) (by trivial))
      clear H14 HTT H5 HN
      have HK : Hid (∀ W, Below wc.heap.size wc W → QHas W b1 A T.length cap nm d m ∧ RowTm W A T ∧ Below w.heap.size w W) := fun W hb => ⟨HQ.out.below hb HQ.out.lt, (HROW.out.below HB.out).below hb, HB.out.trans (hb.mono HB.out.size)⟩
      have hbl : b1 < wc.heap.size := HQ.out.lt
      clear HQ HB HROW q1 q3
      go_wp2_with fail
      go_loopg [3] T.length (fun g1 v4 wr => ∃ k : Nat, k ≤ T.length ∧ v4 = .int .i64 (k : Int) ∧ T.length - k ≤ g1 ∧ Hid (Fnd.termsE T = Fnd.termsE (T.drop k)) ∧ Below wc.heap.size wc wr)
      case atStart => exact ⟨0, Nat.zero_le _, rfl, by omega, rfl, Below.refl _ _⟩
      case round =>
        clear q0
        obtain ⟨k, hk, rfl, hg, HE, hbk⟩ := hrel
        obtain ⟨hQk, hFk, hbw⟩ := HK.out _ hbk
        have q0 : wr.cell? ⟨b1, 0, none⟩ = some (.slice A T.length cap) := hQk.cell 0
        by_cases hlt : k < T.length
        · have hki : (k : Int) < (T.length : Int) := by omega
          have hki0 : (0 : Int) ≤ (k : Int) := by omega
          obtain ⟨bt, ot, hA, hbt, hct⟩ := RowTm.get hFk k hlt
          subst hA
          have hstep := Fnd.termsE_drop T k hlt
          have hokx := HOK.out _ (List.getElem_mem hlt)
          generalize T[k] = x at hct hstep hokx
          have hN2 := fun W => isName_any x.name hokx.few W
          have hL2 := fun W => right_any x.low hokx.low W
          have hH2 := fun W => right_any x.high hokx.high W
          unfold Fnd.termE at hstep
          obtain ⟨n, ⟨lk, lf, li, lb, lt⟩, ⟨hk1, hf, hi, hb, ht⟩, a, b, c⟩ := x
          have y0 : wr.cell? ⟨bt, ot + k * 14, none⟩ = some (.string (S n)) := hct 0 _ rfl
          have y1 := hct 1 _ rfl
          have y2 := hct 2 _ rfl
          have y3 := hct 3 _ rfl
          have y4 := hct 4 _ rfl
          have y5 := hct 5 _ rfl
          have y6 := hct 6 _ rfl
          have y7 := hct 7 _ rfl
          have y8 := hct 8 _ rfl
          have y9 := hct 9 _ rfl
          have y10 := hct 10 _ rfl
          have y11 := hct 11 _ rfl
          have y12 := hct 12 _ rfl
          have y13 := hct 13 _ rfl
          dsimp only at hstep hN2 hL2 hH2
          rw [Val.v_eq] at hL2 hH2
          generalize Pap.word 16 n = wn at hstep hN2
          generalize Val.right ⟨lk, lf, li, lb, lt⟩ = rl at hstep hL2
          generalize Val.right ⟨hk1, hf, hi, hb, ht⟩ = rh at hstep hH2
          have HN2 := Lib.hid hN2
          have HL2 := Lib.hid hL2
          have HH2 := Lib.hid hH2
          have hV := Has.made wr 37 (tcs n lk lf li lb lt hk1 hf hi hb ht a b c)
          have hBV := hbk.trans ((up1 (w := wr) (.cells (tcs n lk lf li lb lt hk1 hf hi hb ht a b c) 37)).mono hbk.size)
          have hsz := asize wr (.cells (tcs n lk lf li lb lt hk1 hf hi hb ht a b c) 37)
          clear hct hokx hN2 hL2 hH2 hQk hFk hbw
          go_upto_region 9 with fail
          clear y0 y1 y2 y3 y4 y5 y6 y7 y8 y9 y10 y11 y12 y13 q0
          generalize wr.alloc (.cells (tcs n lk lf li lb lt hk1 hf hi hb ht a b c) 37) = W2 at hV hBV hsz ⊢
          generalize hg2 : wr.heap.size = g2 at hV hsz ⊢
          have hgl : g2 < W2.heap.size := by omega
          obtain ⟨y0, y1, y2, y3, y4, y5, y6, y7, y8, y9, y10, y11, y12, y13⟩ := tlies hV
          have HV := Lib.hid hV
          have HBV := Lib.hid hBV
          clear hV hBV hg2 hsz hbk
          have HST := Lib.hid hstep
          clear hstep
          cases wn with
          | false =>
            have HF : Hid (res = 14) := by rw [HR.out, HE.out, HST.out]; rfl
            go_wp2_with fail
            refine (HN2.out _).mono ?_
            rintro r w1 ⟨rfl, e1⟩
            rw [← e1]
            clear e1 w1
            go_wp2_with fail
            go_ret
            exact ⟨by rw [HF.out]; rfl, by first | exact (HK.out _ HBV.out).2.2 | (rw [← hb1]; exact (HK.out _ HBV.out).2.2)⟩
          | true =>
            have HF : Hid ((a && !rl || b && !rh) = true → res = 15) := fun h => by rw [HR.out, HE.out, HST.out, h]; rfl
            have HG : Hid ((a && !rl || b && !rh) = false → Fnd.termsE T = Fnd.termsE (T.drop (k + 1))) := fun h => by rw [HE.out, HST.out, h]; rfl
            clear HST
            go_wp2_with fail
            refine (HN2.out _).mono ?_
            rintro r w1 ⟨rfl, e1⟩
            rw [← e1]
            clear e1 w1
            go_upto_region 11 with fail
            go_cut [56] from 39 to 56 (fun v3 wc2 => v3 = .bool (a && !rl || b && !rh) ∧ Below wc.heap.size wc wc2)
            case first =>
              have w1 : a = false ∨ (a = true ∧ rl = true) ∨ (a = true ∧ rl = false) := by cases a <;> cases rl <;> simp
              rcases w1 with rfl | ⟨rfl, rfl⟩ | ⟨rfl, rfl⟩
              case' inr.inr =>
                go_wp2_with fail
                refine (HL2.out _).mono ?_
                rintro r w3 ⟨rfl, hb3⟩
                go_wp2_with fail
                go_meet
                case rel => exact ⟨rfl, HBV.out.trans (hb3.mono HBV.out.size)⟩
              case' inl =>
                have HB3 := HBV
                obtain ⟨W3, rfl⟩ : ∃ W, W = W2 := ⟨_, rfl⟩
              case' inr.inl =>
                go_wp2_with fail
                refine (HL2.out _).mono ?_
                rintro r W3 ⟨rfl, hb3⟩
                have HB3 := Lib.hid (HBV.out.trans (hb3.mono HBV.out.size))
                have hV3 := HV.out.below hb3 hgl
                clear y0 y1 y2 y3 y4 y5 y6 y7 y8 y9 y10 y11 y12 y13 hb3
                obtain ⟨y0, y1, y2, y3, y4, y5, y6, y7, y8, y9, y10, y11, y12, y13⟩ := tlies hV3
                clear hV3
              all_goals
                have w2 : b = false ∨ (b = true ∧ rh = true) ∨ (b = true ∧ rh = false) := by cases b <;> cases rh <;> simp
                rcases w2 with rfl | ⟨rfl, rfl⟩ | ⟨rfl, rfl⟩
                · go_wp2_with fail
                  go_meet
                  case rel => exact ⟨rfl, HB3.out⟩
                · go_wp2_with fail
                  refine (HH2.out _).mono ?_
                  rintro r w4 ⟨rfl, hb4⟩
                  go_wp2_with fail
                  go_meet
                  case rel => exact ⟨rfl, HB3.out.trans (hb4.mono HB3.out.size)⟩
                · go_wp2_with fail
                  refine (HH2.out _).mono ?_
                  rintro r w4 ⟨rfl, hb4⟩
                  go_wp2_with fail
                  go_meet
                  case rel => exact ⟨rfl, HB3.out.trans (hb4.mono HB3.out.size)⟩
            case rest =>
              obtain ⟨rfl, hb5⟩ := hcut
              clear HN2 HL2 HH2 HV y0 y1 y2 y3 y4 y5 y6 y7 y8 y9 y10 y11 y12 y13 HBV
              generalize (a && !rl || b && !rh) = z at HF HG ⊢
              cases z with
              | true =>
                go_wp2_with fail
                go_ret
                exact ⟨by rw [HF.out (by trivial)]; rfl, by first | exact (HK.out _ hb5).2.2 | (rw [← hb1]; exact (HK.out _ hb5).2.2)⟩
              | false =>
                go_wp2_with fail
                go_roundg (T.length - (k + 1))
                case measure => omega
                case rel => exact ⟨k + 1, by omega, by go_num, Nat.le_refl _, HG.out (by trivial), hb5⟩
        · obtain rfl : k = T.length := by omega
          have HF : Hid (res = 0) := by rw [HR.out, HE.out, List.drop_length]; rfl
          go_wp2_with fail
          go_ret
          exact ⟨by rw [HF.out]; rfl, by first | exact hbw | (rw [← hb1]; exact hbw)⟩
end Go.Proofs.Ytfcmkbeilpclmaa
