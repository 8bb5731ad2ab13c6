/-
  The contract of StateHolds.
-/
import Derived.Test.YtojemaaljjibiaaStatePledges
namespace Go.Proofs.Ytojemaaljjibiaa
open Go.RowKit
set_option linter.unusedVariables false

/-- Of papers that came out of others nothing is lost that is held. -/
theorem Kept.get {M1 M2 : List EntX} {st : Sta} {v : Evt} (h1 : M1.map EntX.e = st.P) (h2 : M2.map EntX.e = (Sta.step st v).P) (k : Nat) (a : k < M1.length) (b : k < M2.length) : Sta.Kept (M1[k]).e (M2[k]).e :=
  Sta.step_kept st v k _ _ (by rw [← h1, List.getElem?_map, List.getElem?_eq_getElem a]; rfl) (by rw [← h2, List.getElem?_map, List.getElem?_eq_getElem b]; rfl)
set_option maxRecDepth 100000 in
set_option maxHeartbeats 16000000 in
theorem stateHolds_any {w : World} {La : List EvX} {A : Option Addr} {ca : Nat} (hra : RowV w [] A La) (hla : La.length ≤ ca) (hca : ca ≤ 9223372036854775807) :
    Calls Try.prog 6 #[.slice A La.length ca] w fun r w' => r = .returned (.bool true) ∧ Below w.heap.size w w' := by
  have HN := Lib.hid (stNew w [] (by simp))
  have HR := Lib.hid hra
  have HAW := Lib.hid sawake_any
  clear hra
  go_enter Try.func6, Try.ntmps6
  go_wp2_with fail
  refine HN.out.mono ?_
  rintro r w1 ⟨q, s0, rfl, h1, hs1, hb1⟩
  have HP0 : Hid (MadeS w q Sta.zero La none [] 0 0 w1) := Lib.hid ⟨hb1, s0, 0, h1, Nat.le_refl _, hs1, RowX.none _ _⟩
  clear h1 hs1 hb1 HN
  go_wp2_with fail
  go_loopg [4] 40 (fun n v4 wr => ∃ (k : Nat), k + n = 40 ∧ k ≤ La.length ∧ v4 = .int .i64 (k : Int) ∧ Hid (MadeS w q Sta.zero La none [] 0 k wr))
  case atStart => exact ⟨0, by omega, Nat.zero_le _, rfl, HP0⟩
  case round =>
    obtain ⟨k, hkn, hkL, rfl, HPS⟩ := hrel
    by_cases hlt : k < La.length ∧ k < 40
    · have hki : (k : Int) < (La.length : Int) := by omega
      have hki2 : (k : Int) < 40 := by omega
      have hk0 : (0 : Int) ≤ (k : Int) := by omega
      have hkc : (k : Int) < (ca : Int) := by omega
      have hinc : IntKind.i64.wrap ((k : Int) + 1) = (k : Int) + 1 := by rw [IntKind.wrap_i64]; omega
      obtain ⟨n, hn⟩ : ∃ n, gk = n + 1 := ⟨gk - 1, by omega⟩
      subst hn
      have hIk : Sta.Inv (Sta.run Sta.zero (fews La k)) := Sta.Inv.zero.run _
      obtain ⟨hbk, s1, n1, hq1, hn1, hs1, -⟩ := HPS.out
      have HE := Lib.hid (stEntries hq1 hIk)
      have HQ := Lib.hid (And.intro hbk (And.intro hq1 (And.intro hn1 hs1)))
      have HKN := Lib.hid (And.intro hkn hlt)
      clear hbk hq1 hn1 hs1 hkn hkL HPS HP0
      go_wp2_with fail
      refine HE.out.mono ?_
      rintro r w2 ⟨A1, c1, M1, rfl, hM1, hl1, hm1, hr1, hb2⟩
      have hms : MadeS w q Sta.zero La A1 M1 0 k w2 := ⟨HQ.out.1.trans (hb2.mono HQ.out.1.size), s1, n1, HQ.out.2.1.below hb2, HQ.out.2.2.1, HQ.out.2.2.2, by rw [List.append_nil] at hr1; exact hr1⟩
      have HM1 := Lib.hid (And.intro hM1 (And.intro hl1 hm1))
      clear hM1 hl1 hm1 hr1 hb2 HE HQ
      obtain ⟨b, off, hA, hbw, -, p0⟩ := RowV.get HR.out k hlt.1
      subst hA
      obtain ⟨x, hx⟩ : ∃ x, La[k] = x := ⟨_, rfl⟩
      rw [hx] at p0
      have hin0 := HR.out.ents x (by rw [← hx]; exact List.getElem_mem hlt.1)
      obtain ⟨s, hsl, hap⟩ := made_step hms Sta.Inv.zero (Nat.zero_le _) (by omega) hlt.1 hx hin0
      have hbW := hms.1
      have hfw := fewV_any (EntIn.below hin0 hbW) (q :: s) hsl
      have hstep : Sta.run Sta.zero (fews La (k + 1)) = Sta.step (Sta.run Sta.zero (fews La k)) (Ev.few x.v) := by rw [fews_succ hlt.1, Sta.run_snoc, hx]
      have HSTEP := Lib.hid hstep
      have pw : EvC w2 b (off + k * 14) x := fun j u hu => (hbW.cell (p := ⟨b, off + k * 14 + j, none⟩) hbw).trans (p0 j u hu)
      obtain ⟨⟨kind, ⟨id, cls, born, slot, L2, gone, H2⟩, seq, idx, name, size, root, now⟩, xA, xca, xB, xcb⟩ := x
      have c0 := pw 0 _ rfl
      have c1' := pw 1 _ rfl
      have c2 := pw 2 _ rfl
      have c3 := pw 3 _ rfl
      have c4 := pw 4 _ rfl
      have c5 := pw 5 _ rfl
      have c6 := pw 6 _ rfl
      have c7 := pw 7 _ rfl
      have c8 := pw 8 _ rfl
      have c9 := pw 9 _ rfl
      have c10 := pw 10 _ rfl
      have c11 := pw 11 _ rfl
      have c12 := pw 12 _ rfl
      have c13 := pw 13 _ rfl
      simp only [Nat.add_zero] at c0
      dsimp only at c0 c1' c2 c3 c4 c5 c6 c7 c8 c9 c10 c11 c12 c13 hfw hap HSTEP
      generalize Ev.few ⟨kind, ⟨id, cls, born, slot, L2, gone, H2⟩, seq, idx, name, size, root, now⟩ = u at hfw hap HSTEP
      unfold Evt.val at hfw
      dsimp only at hfw
      have HFW := Lib.hid hfw
      have HAP := Lib.hid hap
      clear hfw hap pw p0 hin0 hsl hx hbw hbW hms hstep
      go_wp2_with fail
      refine HFW.out.mono ?_
      rintro r w3 ⟨A2, B2, ca2, cb2, rfl, hin2, hb2⟩
      have HAP2 := Lib.hid (HAP.out w3 A2 B2 ca2 cb2 hin2 hb2)
      clear hin2 hb2 HFW HAP c0 c1' c2 c3 c4 c5 c6 c7 c8 c9 c10 c11 c12 c13
      go_wp2_with fail
      refine HAP2.out.mono ?_
      rintro r w4 ⟨rfl, hm4, -⟩
      clear HAP2
      obtain ⟨hb4, s4, n4, hq4, hn4, hs4, hrx4⟩ := hm4
      have hI4 : Sta.Inv (Sta.run Sta.zero (fews La (k + 1))) := Sta.Inv.zero.run _
      have HE := Lib.hid (stEntries hq4 hI4)
      have HQ4 := Lib.hid (And.intro hb4 (And.intro hq4 (And.intro hn4 (And.intro hs4 hrx4))))
      clear hb4 hq4 hn4 hs4 hrx4 hI4
      go_wp2_with fail
      refine HE.out.mono ?_
      rintro r w5 ⟨A3, c3, M2, rfl, hM2, hl2, hm2, hr2, hb5⟩
      rw [HSTEP.out] at hM2
      have HKEPT := Lib.hid (fun k a b => Kept.get HM1.out.1 hM2 k a b)
      have HMS : Hid (∀ W, Below w5.heap.size w5 W → MadeS w q Sta.zero La none [] 0 (k + 1) W) := Lib.hid (fun W hb => ⟨(HQ4.out.1.trans (hb5.mono HQ4.out.1.size)).trans (hb.mono (Nat.le_trans HQ4.out.1.size hb5.size)), s4, n4, (HQ4.out.2.1.below hb5).below hb, HQ4.out.2.2.1, HQ4.out.2.2.2.1, RowX.none _ _⟩)
      have HRR : Hid (∀ W, Below w5.heap.size w5 W → RowX W [] A1 M1 ∧ RowX W [] A3 M2) := Lib.hid (fun W hb => ⟨((HQ4.out.2.2.2.2.sub (t := []) (by simp)).below hb5).below hb, (hr2.sub (t := []) (by simp)).below hb⟩)
      have HLL := Lib.hid (And.intro HM1.out.2 (And.intro hl2 hm2))
      have hB5 := Below.refl w5.heap.size w5
      have HB5 := Lib.hid hB5
      clear hM2 hl2 hm2 hr2 hb5 HE HQ4 HM1 HSTEP hB5 hIk
      go_wp2_with fail
      go_loopg [7] M1.length (fun n v7 wr => ∃ kk : Nat, kk + n = M1.length ∧ v7 = .int .i64 (kk : Int) ∧ Hid (Below w5.heap.size w5 wr))
      case atStart => exact ⟨0, Nat.zero_add _, rfl, HB5⟩
      case round =>
        obtain ⟨kk, hkk, rfl, HBK⟩ := hrel
        have hk0 : (0 : Int) ≤ (kk : Int) := by omega
        by_cases hlt1 : kk < M1.length
        · have hki : (kk : Int) < (M1.length : Int) := by omega
          by_cases hlt2 : kk < M2.length
          · have hki2 : (kk : Int) < (M2.length : Int) := by omega
            obtain ⟨n3, hn3⟩ : ∃ n, gk = n + 1 := ⟨gk - 1, by omega⟩
            subst hn3
            have hkc : (kk : Int) < (c1 : Int) := by have := HLL.out.1.1; omega
            have hkc2 : (kk : Int) < (c3 : Int) := by have := HLL.out.2.1; omega
            have hinc1 : IntKind.i64.wrap ((kk : Int) + 1) = (kk : Int) + 1 := by have := HLL.out; rw [IntKind.wrap_i64]; omega
            obtain ⟨hx1, hx2⟩ := HRR.out wr HBK.out
            obtain ⟨b, off, hA1, -, -, p0⟩ := RowX.get hx1 kk hlt1
            obtain ⟨c, off2, hA2, -, -, p1⟩ := RowX.get hx2 kk hlt2
            have hkp := HKEPT.out kk hlt1 hlt2
            obtain ⟨x, hx⟩ : ∃ x, M1[kk] = x := ⟨_, rfl⟩
            obtain ⟨y, hy⟩ : ∃ y, M2[kk] = y := ⟨_, rfl⟩
            have HINW : Hid (∀ W, Below w5.heap.size w5 W → XAt W b (off + kk * 7) x ∧ XAt W c (off2 + kk * 7) y ∧ XIn W [] x ∧ XIn W [] y) := Lib.hid (fun W hb => by
              obtain ⟨hy1, hy2⟩ := HRR.out W hb
              obtain ⟨b', off', hA1', -, -, p0'⟩ := RowX.get hy1 kk hlt1
              obtain ⟨c', off2', hA2', -, -, p1'⟩ := RowX.get hy2 kk hlt2
              rw [hA1] at hA1'
              rw [hA2] at hA2'
              injection hA1' with hA1'
              injection hA2' with hA2'
              injection hA1' with e1 e2
              injection hA2' with e3 e4
              subst e1 e2 e3 e4
              rw [hx] at p0'
              rw [hy] at p1'
              exact ⟨p0', p1', hy1.ents x (hx ▸ List.getElem_mem hlt1), hy2.ents y (hy ▸ List.getElem_mem hlt2)⟩)
            rw [hx] at p0 hkp
            rw [hy] at p1 hkp
            subst hA1 hA2
            have HBD := Lib.hid HBK.out.drew
            have HKK := Lib.hid (And.intro hkk hlt1)
            clear hx1 hx2 hx hy hkk HRR HKEPT
            obtain ⟨⟨id1, cls1, born1, slot1, L1, gone1, H1⟩, xA, xca, xB, xcb⟩ := x
            obtain ⟨⟨id2, cls2, born2, slot2, L2, gone2, H2⟩, yA, yca, yB, ycb⟩ := y
            obtain ⟨-, -, -, -, -, e5, e6⟩ := p0
            obtain ⟨-, -, -, -, -, f5, -⟩ := p1
            dsimp only at e5 e6 f5 hkp
            by_cases hH : H1 = []
            · have hHl : (H1.length : Int) = 0 := by rw [hH]; rfl
              clear hkp hH HINW
              go_wp2_with fail
              go_roundg n3
              case measure => omega
              case rel => exact ⟨kk + 1, by have := HKK.out; omega, by go_num, HBK⟩
            · have hHl : ¬ (H1.length : Int) = 0 := by
                intro h
                exact hH (List.length_eq_zero_iff.1 (by omega))
              obtain ⟨hg, hL⟩ := hkp hH
              dsimp only at hg hL
              subst hg hL
              clear hkp hH
              go_wp2_with fail
              go_quiet (fail)
              clear e5 e6 f5 hHl
              go_wp2_with fail
              go_loopg [8] L2.length (fun n v8 W => ∃ j : Nat, j + n = L2.length ∧ v8 = .int .i64 (j : Int) ∧ Hid (Below w5.heap.size w5 W))
              case atStart => exact ⟨0, Nat.zero_add _, rfl, Lib.hid (evDrew HBK.out _)⟩
              case round =>
                obtain ⟨j, hjn, rfl, HBJ⟩ := hrel
                have hj0 : (0 : Int) ≤ (j : Int) := by omega
                obtain ⟨q0, q1, hi1, hi2⟩ := HINW.out _ HBJ.out
                obtain ⟨-, -, -, -, x4, -, -⟩ := q0
                obtain ⟨-, -, -, -, y4, -, -⟩ := q1
                dsimp only at x4 y4
                by_cases hj : j < L2.length
                · have hji : (j : Int) < (L2.length : Int) := by omega
                  obtain ⟨n4, hn4⟩ : ∃ n, gk = n + 1 := ⟨gk - 1, by omega⟩
                  subst hn4
                  have hm1 := hi1.la
                  have hm2 := hi1.ma
                  have hm3 := hi2.la
                  dsimp only at hm1 hm2 hm3
                  have hjc : (j : Int) < (xca : Int) := by omega
                  have hjc2 : (j : Int) < (yca : Int) := by omega
                  have hinc2 : IntKind.i64.wrap ((j : Int) + 1) = (j : Int) + 1 := by rw [IntKind.wrap_i64]; omega
                  obtain ⟨bs, os, hA3, -, -, g0, g1, g2, g3⟩ := RowP.get hi1.rl j hj
                  obtain ⟨bt, oq, hA4, -, -, k0, k1, k2, k3⟩ := RowP.get hi2.rl j hj
                  dsimp only at g0 g1 g2 g3 k0 k1 k2 k3 hA3 hA4
                  subst hA3 hA4
                  generalize L2[j] = z at g0 g1 g2 g3 k0 k1 k2 k3
                  obtain ⟨sn, sp, sc, se⟩ := z
                  dsimp only at g0 g1 g2 g3 k0 k1 k2 k3
                  have hE := fun W => run_slpneq sn sp sc se sn sp sc se W
                  have hG := fun op o1 o2 W => run_slpguard op o1 o2 sn sp sc se sn sp sc se W
                  rw [decide_eq_true rfl] at hE
                  have HJN := Lib.hid (And.intro hjn hj)
                  have HBE := Lib.hid HBJ.out.drew
                  clear hi1 hi2 hm1 hm2 hm3 hjn HINW hki hki2
                  go_wp2_with fail
                  go_quiet (fail)
                  clear x4 y4 g0 g1 g2 g3 k0 k1 k2 k3 hE hG
                  go_wp2_with fail
                  go_roundg n4
                  case measure => omega
                  case rel => exact ⟨j + 1, by have := HJN.out; omega, by go_num, Lib.hid (evDrew HBJ.out _)⟩
                · have hji : ¬ (j : Int) < (L2.length : Int) := by omega
                  clear hjn hi1 hi2 HINW
                  go_wp2_with fail
                  go_roundg n3
                  case measure => omega
                  case rel => exact ⟨kk + 1, by have := HKK.out; omega, by go_num, HBJ⟩
          · have hki2 : ¬ (kk : Int) < (M2.length : Int) := by omega
            clear hkk HRR HKEPT
            have HM3 := Lib.hid (HMS.out _ HBK.out)
            clear HMS
            go_wp2_with fail
            go_roundg n
            case measure => omega
            case rel => exact ⟨k + 1, by have := HKN.out; omega, by have := HKN.out; omega, by go_num, HM3⟩
        · have hki : ¬ (kk : Int) < (M1.length : Int) := by omega
          clear hkk HRR HKEPT
          have HM3 := Lib.hid (HMS.out _ HBK.out)
          clear HMS
          go_wp2_with fail
          go_roundg n
          case measure => omega
          case rel => exact ⟨k + 1, by have := HKN.out; omega, by have := HKN.out; omega, by go_num, HM3⟩
    · have HFB := Lib.hid HPS.out.1
      by_cases hL : k < La.length
      · have hki : (k : Int) < (La.length : Int) := by omega
        have hki2 : ¬ (k : Int) < 40 := by omega
        clear hkn HPS
        go_wp2_with fail
        refine (HAW.out _).mono ?_
        rintro r wz ⟨rfl, hbz⟩
        have HBZ := Lib.hid (HFB.out.trans (hbz.mono HFB.out.size))
        clear hbz
        go_wp2_with fail
        go_ret
        exact ⟨rfl, HBZ.out⟩
      · have hki : ¬ (k : Int) < (La.length : Int) := by omega
        clear hkn HPS
        go_wp2_with fail
        refine (HAW.out _).mono ?_
        rintro r wz ⟨rfl, hbz⟩
        have HBZ := Lib.hid (HFB.out.trans (hbz.mono HFB.out.size))
        clear hbz
        go_wp2_with fail
        go_ret
        exact ⟨rfl, HBZ.out⟩
end Go.Proofs.Ytojemaaljjibiaa
