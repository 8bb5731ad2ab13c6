/-
  The contract of MillSums.
-/
import Derived.Test.YtjajlofcpfgjhaaDoorMillTags
import Derived.Test.YtjajlofcpfgjhaaDoorMillSumsSpec
import Derived.Test.YtjajlofcpfgjhaaDoorTextArg
import Derived.Deep.Cut
import Derived.Deep.DeepCutAuto
import Derived.Deep.CutBlock
import Derived.Deep.QuietTactic
namespace Go.Proofs.YtjajlofcpfgjhaaDoor
open Go.ChangeShapes Go.WideShapes Go.ChangeAt Go.RowKit
set_option linter.unusedVariables false

theorem few_pack (A : Option Addr) (l : List Mill.En) (cap : Nat) (hlc : l.length ≤ cap) (hcm : cap ≤ maxLen) (hfit : Mill.fit l) (w : World) (hE : Ents w A l) (hT : Tabs w) :
    ∃ m : List Mill.En, m.length ≤ 10 ∧ Calls Tryd.prog 12 #[.slice A l.length cap] w (fun e w' => e = .returned (.slice A m.length cap) ∧ w = w') ∧ Mill.fit m ∧ Ents w A m :=
  ⟨l.take 10, by rw [List.length_take]; omega, few_any A l cap hlc hcm w, fun e he => hfit e (List.mem_of_mem_take he), hE.take 10⟩

set_option maxRecDepth 100000 in
set_option maxHeartbeats 4000000 in
theorem millSums_bad (A B : Option Addr) (l : List Mill.En) (n cap cap2 : Nat) (hlc : l.length ≤ cap) (hcm : cap ≤ maxLen) (hfit : Mill.fit l) (w : World) (hE : Ents w A l) (hT : Tabs w) (m : List Mill.En) (hr : Mill.right m = false)
    (hl10 : m.length ≤ 10) (hF : Calls Tryd.prog 12 #[.slice A l.length cap] w (fun e w' => e = .returned (.slice A m.length cap) ∧ w = w')) (hfit10 : Mill.fit m) (hE10 : Ents w A m) :
    Calls Tryd.prog 4 #[.slice A l.length cap, .slice B n cap2] w fun e w' => e = .returned (.bool true) ∧ Below w.heap.size w w' := by
  have HF := Lib.hid hF
  have HW := Lib.hid (with_any A m cap (by omega) hfit10 w hE10 hT)
  have HR : Hid (∀ W, Below w.heap.size w W → Calls Tryd.prog 14 #[.slice A m.length cap] W (SamePost W (.bool (Mill.right m)))) := fun W hb => right_any A m cap (by omega) W (hE10.below hb)
  have HT := Lib.hid hT
  rw [hr] at HR
  clear hE10 hfit10 hcm hF hE hfit hlc hT
  have HRR := Lib.hid hr; clear hr
  go_enter Tryd.func4, Tryd.ntmps4
  go_wp2_with fail
  refine HF.out.mono ?_
  rintro r1 w1 ⟨rfl, rfl⟩
  go_wp2_with fail
  refine HW.out.mono ?_
  rintro r2 w2 ⟨hb2, ⟨hr, rfl, hm2⟩ | ⟨hr, rfl⟩⟩
  · rw [HRR.out] at hr; cases hr
  · go_wp2_with fail
    refine (HR.out w2 hb2).mono ?_
    rintro r3 w3 ⟨rfl, rfl⟩
    go_wp2_with fail
    refine (awakeMill_any _ (HT.out.below hb2 HT.out.2.2)).mono ?_
    rintro r7 w7 ⟨rfl, hb7⟩
    go_wp2_with fail
    go_ret
    exact ⟨rfl, hb2.trans (hb7.mono hb2.size)⟩

set_option maxRecDepth 100000 in
set_option maxHeartbeats 8000000 in
theorem millSums_good (A : Option Addr) (l : List Mill.En) (T : List (List UInt8)) (b2 off2 cap cap2 : Nat) (hlc : l.length ≤ cap) (hcm : cap ≤ maxLen) (hfit : Mill.fit l) (w : World) (hE : Ents w A l) (hT : Tabs w) (m : List Mill.En) (hr : Mill.right m = true)
    (hl10 : m.length ≤ 10) (hF : Calls Tryd.prog 12 #[.slice A l.length cap] w (fun e w' => e = .returned (.slice A m.length cap) ∧ w = w')) (hfit10 : Mill.fit m) (hE10 : Ents w A m)
    (hb2 : b2 < w.heap.size) (hrow : TRow w b2 off2 T) (hTs : ∀ s ∈ T, s.length ≤ 1000000000000000) (hTl : T.length ≤ 1000000000000000) :
    Calls Tryd.prog 4 #[.slice A l.length cap, .slice (some ⟨b2, off2, none⟩) T.length cap2] w fun e w' => e = .returned (.bool true) ∧ Below w.heap.size w w' := by
  have HF := Lib.hid hF
  have HW := Lib.hid (with_any A m cap (by omega) hfit10 w hE10 hT)
  have HR : Hid (∀ W, Below w.heap.size w W → Calls Tryd.prog 14 #[.slice A m.length cap] W (SamePost W (.bool (Mill.right m)))) := fun W hb => right_any A m cap (by omega) W (hE10.below hb)
  obtain ⟨H, hH⟩ : ∃ F, F = Mill.hash m := ⟨_, rfl⟩
  have HS : Hid (∀ W s, Below w.heap.size w W → s.length ≤ 1000000000000000 → Calls Tryd.prog 16 #[.slice A m.length cap, .string (S s)] W (TextPost W (H s))) := fun W s hb hs => by
    rw [hH]; exact lawSum_any A m cap s (by omega) (by omega) W (hE10.below hb) (hT.below hb hT.2.2)
  have HM : Hid (∀ W s st, MillAt W (w.heap.size + 1) w.heap.size m st → Below w.heap.size w W → s.length ≤ 1000000000000000 → st.sums ≤ 100 → Calls Tryd.prog 17 #[.pointer (some ⟨w.heap.size + 1, 0, none⟩), .string (S s)] W (SumPost W (w.heap.size + 1) w.heap.size m (Mill.step m s st) (H s))) := fun W s st h hb hs hsm => by
    rw [hH]; exact millSum_any s _ _ _ _ W h (by omega) (by omega) hr (hT.below hb hT.2.2) (by have := hT.2.2; omega)
  have HNI : Hid (∀ ds x st, Mill.NI H ds st → ds.length < 20000 → Mill.NI H (ds ++ [x]) (Mill.step m x st)) := fun ds x st h hl => by rw [hH] at h ⊢; exact Mill.ni_step m ds x st h hl
  have HTW : Hid (∀ ds x st, Mill.NI H ds st → _) := fun ds x st h => Mill.twins_step m ds x st (by rw [hH] at h; exact h)
  rw [← hH] at HTW
  have HRR := Lib.hid hr
  have HT := Lib.hid hT
  have HC := Lib.hid hrow
  have HTS := Lib.hid (And.intro hTs hTl)
  rw [hr] at HR
  clear hE10 hfit10 hcm hF hE hfit hlc hT hr hrow hTs hTl hH
  go_enter Tryd.func4, Tryd.ntmps4
  go_wp2_with fail
  refine HF.out.mono ?_
  rintro r1 w1 ⟨rfl, rfl⟩
  go_wp2_with fail
  refine HW.out.mono ?_
  rintro r2 w2 ⟨hbw2, ⟨_, rfl, hm2⟩ | ⟨hr, rfl⟩⟩
  · go_wp2_with fail
    refine (HR.out w2 hbw2).mono ?_
    rintro r3 w3 ⟨rfl, rfl⟩
    go_wp2_with fail
    go_loopw [7, 8, 9, 10] (fun v7 v8 v9 v10 wr => ∃ (i : Nat) (st : Mill.St), i ≤ T.length ∧ i ≤ 30 ∧ v10 = .int .i64 i ∧ v7 = .string (S st.a) ∧ v8 = .string (S st.b) ∧ v9 = .bool st.met ∧ MillAt wr (w.heap.size + 1) w.heap.size m st ∧ Mill.NI H (T.take i) st ∧ Below w.heap.size w wr) (fun _ _ _ v10 _ => 30 - (intOf v10).toNat)
    case atStart => exact ⟨0, Mill.fresh, Nat.zero_le _, by omega, rfl, rfl, rfl, rfl, hm2, Mill.ni_fresh H, hbw2⟩
    case round =>
      clear hm2 hbw2
      obtain ⟨i, st, hi, hi30, rfl, rfl, rfl, rfl, hm, hni, hb⟩ := hrel
      by_cases hlt : i < T.length ∧ i < 30
      · obtain ⟨hlt1, hlt2⟩ := hlt
        have hi0 : (0 : Int) ≤ (i : Int) := by omega
        have hii : (i : Int) < (T.length : Int) := by omega
        have hi3 : (i : Int) < 30 := by omega
        have hTl : (T.length : Int) ≤ 1000000000000000 := by have := HTS.out.2; omega
        have c0 := (hb.cell (p := ⟨b2, off2 + i, none⟩) hb2).trans (HC.out i hlt1)
        have hxl := HTS.out.1 _ (List.getElem_mem hlt1)
        have hsums : st.sums ≤ 100 := by rw [hni.2.2.2, List.length_take]; omega
        have hni' := HNI.out _ (T[i]'hlt1) _ hni (by rw [List.length_take]; omega)
        have htw := HTW.out _ (T[i]'hlt1) _ hni
        rw [← List.take_succ_eq_append_getElem hlt1] at hni'
        obtain ⟨x, hx⟩ : ∃ x, T[i]'hlt1 = x := ⟨_, rfl⟩
        rw [hx] at c0 hxl hni' htw
        have HNI2 := Lib.hid (And.intro hni' htw)
        have HX := Lib.hid hx
        have HM2 := Lib.hid (And.intro hm (And.intro hsums hxl))
        clear hni hni' htw hx hm hsums hxl hi
        go_wp2_with fail
        refine (HS.out _ _ hb HM2.out.2.2).mono ?_
        rintro r4 w4 ⟨rfl, hb4⟩
        have hm4 := HM2.out.1.below hb4
        have hb04 := hb.trans (hb4.mono hb.size)
        have c4 := (hb4.cell (p := ⟨b2, off2 + i, none⟩) (Nat.lt_of_lt_of_le hb2 hb.size)).trans c0
        clear c0 hb4
        go_wp2_with fail
        refine (HM.out _ _ _ hm4 hb04 HM2.out.2.2 HM2.out.2.1).mono ?_
        rintro r5 w5 ⟨rfl, hm5, hmv5⟩
        have hb05 := hmv5.below hb04 hb04.size (by simp)
        have c5 := (hb05.cell (p := ⟨b2, off2 + i, none⟩) hb2).trans (HC.out i hlt1)
        clear hm4 hmv5 hb04 c4
        obtain ⟨st', hst'⟩ : ∃ s, Mill.step m x st = s := ⟨_, rfl⟩
        rw [hst'] at hm5 HNI2
        clear hst' HM2
        go_upto_block 2 with (fail)
        go_cut [7, 8, 9] (fun v7 v8 v9 w6 => v7 = .string (S st'.a) ∧ v8 = .string (S st'.b) ∧ v9 = .bool st'.met ∧ MillAt w6 (w.heap.size + 1) w.heap.size m st' ∧ Below w.heap.size w w6)
        case first =>
          cases hmet : st.met with
          | true =>
            obtain ⟨h1, h2, h3⟩ := HNI2.out.2.1 hmet
            by_cases h0 : (0 : Int) < (i : Int)
            · go_wp2_with fail
              refine wp_loop_rounds 1 ?_
              rw [rounds_succ]
              go_wp2_with fail
              go_meet
              case rel => exact ⟨by rw [h1], by rw [h2], by rw [h3], hm5, hb05⟩
            · go_wp2_with fail
              refine wp_loop_rounds 1 ?_
              rw [rounds_succ]
              go_wp2_with fail
              go_meet
              case rel => exact ⟨by rw [h1], by rw [h2], by rw [h3], hm5, hb05⟩
          | false =>
            have HMET := Lib.hid hmet; clear hmet
            go_wp2_with fail
            go_loopw [7, 8, 9, 12] (fun v7 v8 v9 v12 wr => ∃ k : Nat, k ≤ i ∧ v12 = .int .i64 k ∧ v7 = .string (S st.a) ∧ v8 = .string (S st.b) ∧ v9 = .bool false ∧ (T.take k).find? (fun t => H t = H x) = none ∧ MillAt wr (w.heap.size + 1) w.heap.size m st' ∧ Below w.heap.size w wr) (fun _ _ _ v12 _ => i - (intOf v12).toNat)
            case atStart => exact ⟨0, Nat.zero_le _, rfl, rfl, rfl, rfl, rfl, hm5, hb05⟩
            case round =>
              clear hm5 hb05 c5
              obtain ⟨k, hk, rfl, rfl, rfl, rfl, hnone, hm5, hb05⟩ := hrel
              by_cases hki : k < i
              · have hk0 : (0 : Int) ≤ (k : Int) := by omega
                have hkI : (k : Int) < (i : Int) := by omega
                have hkT : k < T.length := by omega
                have hkTI : (k : Int) < (T.length : Int) := by omega
                have hyl := HTS.out.1 _ (List.getElem_mem hkT)
                have hfa := Mill.find_at H T i k hki (by omega) (H x) hnone
                have hfm := Mill.find_more H T k hkT (H x) hnone
                have hcT := HC.out k hkT
                obtain ⟨y, hy⟩ : ∃ y, T[k]'hkT = y := ⟨_, rfl⟩
                rw [hy] at hyl hfa hfm hcT
                have hcX := HC.out i hlt1
                rw [HX.out] at hcX
                have d0 := (hb05.cell (p := ⟨b2, off2 + k, none⟩) hb2).trans hcT
                have HYL := Lib.hid hyl
                have HCC := Lib.hid (And.intro hcT hcX)
                have HFM := Lib.hid (And.intro hfa hfm)
                clear hy hyl hcT hcX hnone hfa hfm
                by_cases hH : H y = H x
                · have hq : (H y == H x) = true := by rw [hH]; simp
                  have hfind := HFM.out.1 hH
                  have HFIND := Lib.hid hfind; clear hfind
                  by_cases hyx : y = x
                  · obtain ⟨h1, h2, h3⟩ := HNI2.out.2.2.2.1 y HFIND.out hyx
                    rw [HMET.out] at h3
                    have HE := Lib.hid (And.intro h1 (And.intro h2 h3)); clear h1 h2 h3
                    have hq2 : (y == x) = true := by rw [hyx]; simp
                    clear hyx hH
                    go_wp2_with fail
                    refine (HS.out _ _ hb05 HYL.out).mono ?_
                    rintro r6 w6 ⟨rfl, hb6⟩
                    have hm6 := hm5.below hb6
                    have hb06 := hb05.trans (hb6.mono hb05.size)
                    have d1 := (hb06.cell (p := ⟨b2, off2 + k, none⟩) hb2).trans HCC.out.1
                    have d2 := (hb06.cell (p := ⟨b2, off2 + i, none⟩) hb2).trans HCC.out.2
                    clear d0 hb6 hm5 hb05
                    go_wp2_with fail
                    go_quiet (fail)
                    go_wp2_with fail
                    go_meet
                    case rel => exact ⟨by rw [HE.out.1], by rw [HE.out.2.1], by rw [HE.out.2.2], hm6.keep (Mv.of_below (below_drewN (Below.refl _ _) _) []) (by simp), below_drewN hb06 _⟩
                  · obtain ⟨h1, h2, h3⟩ := HNI2.out.2.2.2.2 y HFIND.out hyx HMET.out
                    have HE := Lib.hid (And.intro h1 (And.intro h2 h3)); clear h1 h2 h3
                    have hq2 : (y == x) = false := by rw [beq_eq_false_iff_ne]; exact hyx
                    clear hyx hH
                    go_wp2_with fail
                    refine (HS.out _ _ hb05 HYL.out).mono ?_
                    rintro r6 w6 ⟨rfl, hb6⟩
                    have hm6 := hm5.below hb6
                    have hb06 := hb05.trans (hb6.mono hb05.size)
                    have d1 := (hb06.cell (p := ⟨b2, off2 + k, none⟩) hb2).trans HCC.out.1
                    have d2 := (hb06.cell (p := ⟨b2, off2 + i, none⟩) hb2).trans HCC.out.2
                    clear d0 hb6 hm5 hb05
                    go_wp2_with fail
                    go_quiet (fail)
                    go_wp2_with fail
                    go_quiet (fail)
                    go_wp2_with fail
                    go_meet
                    case rel => exact ⟨by rw [HE.out.1], by rw [HE.out.2.1], by rw [HE.out.2.2], hm6.keep (Mv.of_below (below_drewN (below_drewN (Below.refl _ _) _) _) []) (by simp), below_drewN (below_drewN hb06 _) _⟩
                · have hq : (H y == H x) = false := by rw [beq_eq_false_iff_ne]; exact hH
                  have hnn := HFM.out.2 hH
                  have HNN := Lib.hid hnn; clear hnn hH
                  go_wp2_with fail
                  refine (HS.out _ _ hb05 HYL.out).mono ?_
                  rintro r6 w6 ⟨rfl, hb6⟩
                  have hm6 := hm5.below hb6
                  have hb06 := hb05.trans (hb6.mono hb05.size)
                  clear d0 hb6 hm5 hb05
                  go_wp2_with fail
                  go_roundw
                  case rel => exact ⟨k + 1, by omega, by go_num, rfl, rfl, rfl, HNN.out, hm6, hb06⟩
                  case measure => simp [intOf]; omega
              · have hke : k = i := by omega
                have hkI : ¬ (k : Int) < (i : Int) := by omega
                rw [hke] at hnone
                obtain ⟨h1, h2, h3⟩ := HNI2.out.2.2.1 hnone
                rw [HMET.out] at h3
                have HE := Lib.hid (And.intro h1 (And.intro h2 h3)); clear h1 h2 h3
                clear hnone
                go_wp2_with fail
                go_meet
                case rel => exact ⟨by rw [HE.out.1], by rw [HE.out.2.1], by rw [HE.out.2.2], hm5, hb05⟩
        case rest =>
          clear hm5 hb05 c5
          obtain ⟨rfl, rfl, rfl, hm6, hb6⟩ := hcut
          have hni := HNI2.out.1
          have hsm : st'.sums = i + 1 := by rw [hni.2.2.2, List.length_take]; omega
          have hfl := hni.2.2.1
          clear HNI2
          go_wp2_with fail
          refine (twins_any _ _ _ _ _ hm6).mono ?_
          rintro r7 w7 ⟨rfl, hb7⟩
          have hm7 := hm6.below hb7
          have hb07 := hb6.trans (hb7.mono hb6.size)
          clear hm6 hb6 hb7
          go_wp2_with fail
          refine (sums_any _ _ _ _ w7 hm7).mono ?_
          rw [hsm]
          rintro r8 w8 ⟨rfl, rfl⟩
          go_wp2_with fail
          refine (full_any _ _ _ _ w7 hm7).mono ?_
          rw [hfl]
          rintro r9 w9 ⟨rfl, rfl⟩
          go_wp2_with fail
          go_roundw
          case rel => exact ⟨i + 1, st', by omega, by omega, by go_num, rfl, rfl, rfl, hm7, hni, hb07⟩
          case measure => simp [intOf]; omega
      · have hend : ¬ (i : Int) < (T.length : Int) ∨ ((i : Int) < (T.length : Int) ∧ ¬ (i : Int) < 30) := by omega
        have hTl : (T.length : Int) ≤ 1000000000000000 := by have := HTS.out.2; omega
        have hi0 : (0 : Int) ≤ (i : Int) := by omega
        clear hni hlt
        rcases hend with h1 | ⟨h1, h2⟩
        · go_wp2_with fail
          refine (awakeMill_any _ (HT.out.below hb HT.out.2.2)).mono ?_
          rintro r7 w7 ⟨rfl, hb7⟩
          go_wp2_with fail
          go_ret
          exact ⟨rfl, hb.trans (hb7.mono hb.size)⟩
        · go_wp2_with fail
          refine (awakeMill_any _ (HT.out.below hb HT.out.2.2)).mono ?_
          rintro r7 w7 ⟨rfl, hb7⟩
          go_wp2_with fail
          go_ret
          exact ⟨rfl, hb.trans (hb7.mono hb.size)⟩
  · rw [HRR.out] at hr; cases hr

set_option maxRecDepth 100000 in
set_option maxHeartbeats 4000000 in
theorem millSums_none (A B : Option Addr) (l : List Mill.En) (cap cap2 : Nat) (hlc : l.length ≤ cap) (hcm : cap ≤ maxLen) (hfit : Mill.fit l) (w : World) (hE : Ents w A l) (hT : Tabs w) (m : List Mill.En) (hr : Mill.right m = true)
    (hl10 : m.length ≤ 10) (hF : Calls Tryd.prog 12 #[.slice A l.length cap] w (fun e w' => e = .returned (.slice A m.length cap) ∧ w = w')) (hfit10 : Mill.fit m) (hE10 : Ents w A m) :
    Calls Tryd.prog 4 #[.slice A l.length cap, .slice B 0 cap2] w fun e w' => e = .returned (.bool true) ∧ Below w.heap.size w w' := by
  have HF := Lib.hid hF
  have HW := Lib.hid (with_any A m cap (by omega) hfit10 w hE10 hT)
  have HR : Hid (∀ W, Below w.heap.size w W → Calls Tryd.prog 14 #[.slice A m.length cap] W (SamePost W (.bool (Mill.right m)))) := fun W hb => right_any A m cap (by omega) W (hE10.below hb)
  have HT := Lib.hid hT
  rw [hr] at HR
  clear hE10 hfit10 hcm hF hE hfit hlc hT
  have HRR := Lib.hid hr; clear hr
  go_enter Tryd.func4, Tryd.ntmps4
  go_wp2_with fail
  refine HF.out.mono ?_
  rintro r1 w1 ⟨rfl, rfl⟩
  go_wp2_with fail
  refine HW.out.mono ?_
  rintro r2 w2 ⟨hb2, ⟨_, rfl, hm2⟩ | ⟨hr, rfl⟩⟩
  · go_wp2_with fail
    refine (HR.out w2 hb2).mono ?_
    rintro r3 w3 ⟨rfl, rfl⟩
    go_wp2_with fail
    refine wp_loop_rounds 1 ?_
    rw [rounds_succ]
    go_wp2_with fail
    refine (awakeMill_any _ (HT.out.below hb2 HT.out.2.2)).mono ?_
    rintro r7 w7 ⟨rfl, hb7⟩
    go_wp2_with fail
    go_ret
    exact ⟨rfl, hb2.trans (hb7.mono hb2.size)⟩
  · rw [HRR.out] at hr; cases hr

set_option maxRecDepth 100000 in
theorem millSums_contract {H : Type} (enc : TypeId × Value → H) (W : World) (base : Nat) (args : Array Value) (ds gs : List (DataW H)) (before : List MemPlace)
    (hval : ∀ (j : Nat) t v, Tryd.f4.params[j]? = some t → args[j]? = some v → Value.okWide Tryd.prog W .any base t v)
    (hW : DataW.Whole enc Tryd.prog Tryd.f4.params.toList Rows.millSumsSpec.vars false W args.toList ds gs before)
    (hsz : (DataW.weightsEach Tryd.prog (Tryd.f4.params.toList ++ Rows.millSumsSpec.plain.varTypes Tryd.prog) (ds ++ gs)).all (· ≤ reachBytes) = true) (hT : Tabs W) :
    Calls Tryd.prog 4 args W fun e W' =>
      ((Rows.millSumsSpec.fn H (ds ++ gs)).results = [.lit (.bool true)] ∧ (Rows.millSumsSpec.fn H (ds ++ gs)).args = ds ∧ (Rows.millSumsSpec.fn H (ds ++ gs)).vars = []) ∧ e = .returned (.bool true) ∧ Below W.heap.size W W' := by
  obtain ⟨p, q, hA0, hV, rfl, hfz, hnd⟩ := hW
  have hA : DataW.TrodAll enc Tryd.prog W 0 (fun _ => true) true Tryd.f4.params.toList args.toList ds p := hA0
  rw [Tryd.params4] at hA hval hsz
  obtain ⟨v0, v1, d0, d1, p0, p1, rfl, rfl, rfl, h0, h1⟩ := trodAll_two hA
  obtain ⟨rfl, rfl⟩ := trodVars_none hV
  obtain ⟨A, len, cap, rfl⟩ := okWide_slice Tryd.underlying25 (hval 0 25 v0 rfl rfl)
  obtain ⟨B, len2, cap2, rfl⟩ := okWide_slice Tryd.underlying26 (hval 1 26 v1 rfl rfl)
  obtain ⟨fuel, hf⟩ := h0
  obtain ⟨fuel2, hf2⟩ := h1
  obtain ⟨l, rfl, hE, hfit, hlc, hcm⟩ := ents_open hf (fun n hn => by
    have h := List.all_eq_true.1 hsz n (DataW.weights_mem_each (j := 0) (t := 25) (d := d0) rfl rfl n hn)
    exact Nat.le_trans (by simpa using h) reach_le)
  obtain ⟨T, rfl, hrow, hTs, hTl⟩ := texts_args hf2 (fun n hn => by
    have h := List.all_eq_true.1 hsz n (DataW.weights_mem_each (j := 1) (t := 26) (d := d1) rfl rfl n hn)
    exact Nat.le_trans (by simpa using h) reach_le)
  obtain ⟨m, hl10, hF, hfit10, hE10⟩ := few_pack A l cap hlc hcm hfit W hE hT
  cases hr : Mill.right m with
  | false => exact (millSums_bad A B l T.length cap cap2 hlc hcm hfit W hE hT m hr hl10 hF hfit10 hE10).mono fun e W' h => ⟨⟨rfl, rfl, rfl⟩, h⟩
  | true =>
    by_cases hTn : T = []
    · subst hTn
      exact (millSums_none A B l cap cap2 hlc hcm hfit W hE hT m hr hl10 hF hfit10 hE10).mono fun e W' h => ⟨⟨rfl, rfl, rfl⟩, h⟩
    · obtain ⟨b2, off2, rfl, hb2, hrow⟩ := hrow hTn
      exact (millSums_good A l T b2 off2 cap cap2 hlc hcm hfit W hE hT m hr hl10 hF hfit10 hE10 hb2 hrow hTs hTl).mono fun e W' h => ⟨⟨rfl, rfl, rfl⟩, h⟩
end Go.Proofs.YtjajlofcpfgjhaaDoor
