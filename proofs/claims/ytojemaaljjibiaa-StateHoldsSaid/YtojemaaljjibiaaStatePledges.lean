/-
  The contract of StatePledges.
-/
import Derived.Test.YtojemaaljjibiaaStateSames
import Derived.Test.YtojemaaljjibiaaStaThree
namespace Go.Proofs.Ytojemaaljjibiaa
open Go.RowKit
set_option linter.unusedVariables false

/-- A paper's own variable. -/
abbrev XBox (W : World) (b : Nat) (x : EntX) : Prop := Has W b 33 #[.string (S x.e.id), .int .i64 x.e.cls, .int .i64 x.e.born, .int .i64 x.e.slot, .slice x.A x.e.L.length x.ca, .bool x.e.gone, .slice x.B x.e.H.length x.cb]
/-- Two slips are read. -/
abbrev PlS (b1 b2 bs bt os o oq p : Nat) (n xca yca : Nat) (tn tp : List UInt8) (se te : Bool) (W : World) : Prop :=
  W.cell? ⟨b1, 4, none⟩ = some (.slice (some ⟨bs, os, none⟩) n xca) ∧ W.cell? ⟨b2, 4, none⟩ = some (.slice (some ⟨bt, oq, none⟩) n yca) ∧ W.cell? ⟨bs, o, none⟩ = some (.string (S tn)) ∧ W.cell? ⟨bs, o + 1, none⟩ = some (.string (S tp)) ∧ W.cell? ⟨bs, o + 3, none⟩ = some (.bool se) ∧
    W.cell? ⟨bt, p, none⟩ = some (.string (S tn)) ∧ W.cell? ⟨bt, p + 1, none⟩ = some (.string (S tp)) ∧ W.cell? ⟨bt, p + 3, none⟩ = some (.bool te)
theorem Outs.get {M1 M2 : List EntX} {P R : List Ent} (h1 : M1.map EntX.e = P) (h2 : M2.map EntX.e = R) (h : Sta.Outs P R) : M1.length ≤ M2.length ∧ ∀ (k : Nat) (a : k < M1.length) (b : k < M2.length), Sta.Out (M1[k]).e (M2[k]).e := by
  subst h1 h2
  refine ⟨by simpa using h.1, fun k a b => h.2 k _ _ ?_ ?_⟩
  · rw [List.getElem?_map, List.getElem?_eq_getElem a]; rfl
  · rw [List.getElem?_map, List.getElem?_eq_getElem b]; rfl
set_option maxRecDepth 100000 in
set_option maxHeartbeats 16000000 in
theorem statePledges_any {w : World} {La Lb : List EvX} {A B : Option Addr} {ca cb : Nat} (hra : RowV w [] A La) (hla : La.length ≤ ca) (hca : ca ≤ 9223372036854775807) (hrb : RowV w [] B Lb) (hlb : Lb.length ≤ cb) (hcb : cb ≤ 9223372036854775807) :
    Calls Try.prog 5 #[.slice A La.length ca, .slice B Lb.length cb] w fun r w' => r = .returned (.bool true) ∧ Below w.heap.size w w' := by
  have h1 := smade_any hra hla hca 30 (by decide)
  rw [show ((30 : Nat) : Int) = 30 from rfl] at h1
  have HMA := Lib.hid h1
  have HR := Lib.hid hrb
  have HAW := Lib.hid sawake_any
  clear h1 hra hrb hla hca
  go_enter Try.func5, Try.ntmps5
  go_wp2_with fail
  refine HMA.out.mono ?_
  rintro r w1 ⟨q, rfl, hb1, s, n, hq, hn, hs, -⟩
  obtain ⟨st0, hst0⟩ : ∃ st, Sta.run Sta.zero (fews La (min 30 La.length)) = st := ⟨_, rfl⟩
  have HI : Hid (Sta.Inv st0 ∧ st0.Q.length ≤ 30) := Lib.hid ⟨hst0 ▸ Sta.Inv.zero.run _, by
    have e1 := Sta.run_Q (fews La (min 30 La.length)) Sta.zero
    have e2 := fews_len La (min 30 La.length)
    have e3 : Sta.zero.Q.length = 0 := rfl
    rw [hst0] at e1
    omega⟩
  rw [hst0] at hq
  have HE := Lib.hid (stEntries hq HI.out.1)
  have HQ := Lib.hid (And.intro hq (And.intro hs (And.intro hb1 (show n ≤ 30 by omega))))
  clear hq hb1 hn hs hst0 HMA
  go_wp2_with fail
  refine HE.out.mono ?_
  rintro r w2 ⟨A1, c1, M1, rfl, hM1, hl1, hm1, hr1, hb2⟩
  have HP0 : Hid (MadeS w q st0 Lb A1 M1 30 0 w2) := Lib.hid ⟨HQ.out.2.2.1.trans (hb2.mono HQ.out.2.2.1.size), s, n, HQ.out.1.below hb2, by have := HQ.out.2.2.2; omega, HQ.out.2.1, by rw [List.append_nil] at hr1; exact hr1⟩
  have HM1 := Lib.hid (And.intro hM1 (And.intro hl1 hm1))
  clear hM1 hl1 hm1 hr1 hb2 HE HQ
  go_upto_block 0 with fail
  go_cut [7] (fun _ W => Hid (MadeS w q st0 Lb A1 M1 30 (min 30 Lb.length) W))
  case first =>
    go_wp2_with fail
    go_loopg [7] 30 (fun n v6 wr => ∃ (k : Nat), k + n = 30 ∧ k ≤ Lb.length ∧ v6 = .int .i64 (k : Int) ∧ Hid (MadeS w q st0 Lb A1 M1 30 k wr))
    case atStart => exact ⟨0, by omega, Nat.zero_le _, rfl, HP0⟩
    case round =>
      obtain ⟨k, hkn, hkL, rfl, HPS⟩ := hrel
      by_cases hlt : k < Lb.length ∧ k < 30
      · have hki : (k : Int) < (Lb.length : Int) := by omega
        have hki2 : (k : Int) < 30 := by omega
        have hk0 : (0 : Int) ≤ (k : Int) := by omega
        have hkc : (k : Int) < (cb : Int) := by omega
        have hinc : IntKind.i64.wrap ((k : Int) + 1) = (k : Int) + 1 := by rw [IntKind.wrap_i64]; omega
        obtain ⟨n, hn⟩ : ∃ n, gk = n + 1 := ⟨gk - 1, by omega⟩
        subst hn
        obtain ⟨b, off, hA, hbw, -, p0⟩ := RowV.get HR.out k hlt.1
        subst hA
        obtain ⟨x, hx⟩ : ∃ x, Lb[k] = x := ⟨_, rfl⟩
        rw [hx] at p0
        have hin0 := HR.out.ents x (by rw [← hx]; exact List.getElem_mem hlt.1)
        obtain ⟨s, hsl, hap⟩ := made_step HPS.out HI.out.1 HI.out.2 (by omega) hlt.1 hx hin0
        have hbW := HPS.out.1
        have hfw := fewV_any (EntIn.below hin0 hbW) (q :: s) hsl
        have pw : EvC wr b (off + k * 14) x := fun j u hu => (hbW.cell (p := ⟨b, off + k * 14 + j, none⟩) hbw).trans (p0 j u hu)
        obtain ⟨⟨kind, ⟨id, cls, born, slot, L2, gone, H2⟩, seq, idx, name, size, root, now⟩, xA, xca, xB, xcb⟩ := x
        have c0 := pw 0 _ rfl
        have c1' := pw 1 _ rfl
        have c2 := pw 2 _ rfl
        have c3 := pw 3 _ rfl
        have c4 := pw 4 _ rfl
        have c5 := pw 5 _ rfl
        have c6 := pw 6 _ rfl
        have c7 := pw 7 _ rfl
        have c8 := pw 8 _ rfl
        have c9 := pw 9 _ rfl
        have c10 := pw 10 _ rfl
        have c11 := pw 11 _ rfl
        have c12 := pw 12 _ rfl
        have c13 := pw 13 _ rfl
        simp only [Nat.add_zero] at c0
        dsimp only at c0 c1' c2 c3 c4 c5 c6 c7 c8 c9 c10 c11 c12 c13 hfw hap
        generalize Ev.few ⟨kind, ⟨id, cls, born, slot, L2, gone, H2⟩, seq, idx, name, size, root, now⟩ = u at hfw hap
        unfold Evt.val at hfw
        dsimp only at hfw
        have HFW := Lib.hid hfw
        have HAP := Lib.hid hap
        have HKN := Lib.hid (And.intro hkn hlt)
        clear hfw hap hkn pw p0 hin0 hsl hx hbw hbW HPS HP0 hkL
        go_wp2_with fail
        refine HFW.out.mono ?_
        rintro r w2 ⟨A2, B2, ca2, cb2, rfl, hin2, hb2⟩
        have HAP2 := Lib.hid (HAP.out w2 A2 B2 ca2 cb2 hin2 hb2)
        clear hin2 hb2 HFW HAP c0 c1' c2 c3 c4 c5 c6 c7 c8 c9 c10 c11 c12 c13
        go_wp2_with fail
        refine HAP2.out.mono ?_
        rintro r w3 ⟨rfl, hm3, -⟩
        have HM3 := Lib.hid hm3
        clear hm3 HAP2
        go_wp2_with fail
        go_roundg n
        case measure => omega
        case rel => exact ⟨k + 1, by have := HKN.out; omega, by have := HKN.out; omega, by go_num, HM3⟩
      · have hmin : k = min 30 Lb.length := by omega
        have HF : Hid (MadeS w q st0 Lb A1 M1 30 (min 30 Lb.length) wr) := Lib.hid (by rw [← hmin]; exact HPS.out)
        by_cases hL : k < Lb.length
        · have hki : (k : Int) < (Lb.length : Int) := by omega
          have hki2 : ¬ (k : Int) < 30 := by omega
          clear hmin HPS
          go_wp2_with fail
          go_meet
          exact HF
        · have hki : ¬ (k : Int) < (Lb.length : Int) := by omega
          clear hmin HPS
          go_wp2_with fail
          go_meet
          exact HF
  case rest =>
    obtain ⟨hbc, s', n', hq', hn', hs', hrx⟩ := hcut.out
    have HO := Lib.hid (Sta.run_outs st0 (fews Lb (min 30 Lb.length)))
    have HI2 := HI.out.1.run (fews Lb (min 30 Lb.length))
    generalize Sta.run st0 (fews Lb (min 30 Lb.length)) = st1 at hq' HO HI2
    have HE := Lib.hid (stEntries hq' HI2)
    have HB := Lib.hid hbc
    have HX := Lib.hid hrx
    clear hbc hq' hn' hs' hrx HI2 hcut HP0 HI HR
    go_wp2_with fail
    refine HE.out.mono ?_
    rintro r w3 ⟨A2, c2, M2, rfl, hM2, hl2, hm2, hr2, hb3⟩
    obtain ⟨hlen, hout⟩ := Outs.get HM1.out.1 hM2 HO.out
    have HOUT := Lib.hid hout
    have HLL := Lib.hid (And.intro hlen (And.intro HM1.out.2 (And.intro hl2 hm2)))
    have HRR : Hid (∀ W, Below w3.heap.size w3 W → RowX W [] A1 M1 ∧ RowX W [] A2 M2 ∧ Below w.heap.size w W) := Lib.hid (fun W hb => ⟨((HX.out.sub (t := []) (by simp)).below hb3).below hb, (hr2.sub (t := []) (by simp)).below hb, (HB.out.trans (hb3.mono HB.out.size)).trans (hb.mono (Nat.le_trans HB.out.size hb3.size))⟩)
    have hnl : ¬ (M2.length : Int) < (M1.length : Int) := by omega
    clear hM2 hl2 hm2 hr2 hb3 hlen hout HM1 HE HB HX HO
    go_upto_region 10 with fail
    have hdec : decide (M2.length < M1.length) = false := decide_eq_false (by omega)
    simp only [hdec]
    clear hdec hnl
    go_wp2_with fail
    go_loopg [9] M1.length (fun n v9 wr => ∃ k : Nat, k + n = M1.length ∧ v9 = .int .i64 (k : Int) ∧ Hid (Below w3.heap.size w3 wr))
    case atStart => exact ⟨0, Nat.zero_add _, rfl, Lib.hid (Below.refl _ _)⟩
    case round =>
      obtain ⟨k, hkn, rfl, HBK⟩ := hrel
      have hk0 : (0 : Int) ≤ (k : Int) := by omega
      by_cases hlt : k < M1.length
      · have hki : (k : Int) < (M1.length : Int) := by omega
        obtain ⟨n, hn⟩ : ∃ n, gk = n + 1 := ⟨gk - 1, by omega⟩
        subst hn
        have hk2 : k < M2.length := by have := HLL.out.1; omega
        have hki2 : (k : Int) < (M2.length : Int) := by omega
        have hkc : (k : Int) < (c1 : Int) := by have := HLL.out.2.1.1; omega
        have hkc2 : (k : Int) < (c2 : Int) := by have := HLL.out.2.2.1; omega
        have hinc : IntKind.i64.wrap ((k : Int) + 1) = (k : Int) + 1 := by have := HLL.out; rw [IntKind.wrap_i64]; omega
        obtain ⟨hx1, hx2, -⟩ := HRR.out wr.drew HBK.out.drew
        obtain ⟨b, off, hA1, -, -, p0⟩ := RowX.get hx1 k hlt
        obtain ⟨c, off2, hA2, -, -, p1⟩ := RowX.get hx2 k hk2
        have hin1 := hx1.ents _ (List.getElem_mem hlt)
        have hin2 := hx2.ents _ (List.getElem_mem hk2)
        have hou := HOUT.out k hlt hk2
        obtain ⟨x, hx⟩ : ∃ x, M1[k] = x := ⟨_, rfl⟩
        obtain ⟨y, hy⟩ : ∃ y, M2[k] = y := ⟨_, rfl⟩
        rw [hx] at p0 hin1 hou
        rw [hy] at p1 hin2 hou
        have hS : TwoX b (off + k * 7) x c (off2 + k * 7) y wr.drew := ⟨p0, p1⟩
        have HOU := Lib.hid hou
        have HIN := Lib.hid (And.intro hin1 hin2)
        have HBK0 := Lib.hid HBK.out.drew
        have HKN := Lib.hid hkn
        have HINW : Hid (∀ W, Below w3.heap.size w3 W → XIn W [] x ∧ XIn W [] y) := Lib.hid (fun W hb => ⟨(HRR.out W hb).1.ents x (hx ▸ List.getElem_mem hlt), (HRR.out W hb).2.1.ents y (hy ▸ List.getElem_mem hk2)⟩)
        have HSB : Hid (∀ w9, Below wr.drew.heap.size wr.drew w9 → TwoX b (off + k * 7) x c (off2 + k * 7) y w9) := Lib.hid (fun w9 hb9 => by
          obtain ⟨hy1, hy2, -⟩ := HRR.out w9 (HBK.out.drew.trans (hb9.mono HBK.out.drew.size))
          obtain ⟨b', off', hA1', -, -, p0'⟩ := RowX.get hy1 k hlt
          obtain ⟨c', off2', hA2', -, -, p1'⟩ := RowX.get hy2 k hk2
          rw [hA1] at hA1'
          rw [hA2] at hA2'
          injection hA1' with hA1'
          injection hA2' with hA2'
          injection hA1' with e1 e2
          injection hA2' with e3 e4
          subst e1 e2 e3 e4
          rw [hx] at p0'
          rw [hy] at p1'
          exact ⟨p0', p1'⟩)
        subst hA1 hA2
        clear hx1 hx2 p0 p1 hin1 hin2 hou hx hy hkn HBK
        go_upto_region 13 with fail
        go_cut [10, 11] (fun v10 v11 W => ∃ b1 b2, v10 = .pointer (some ⟨b1, 0, none⟩) ∧ v11 = .pointer (some ⟨b2, 0, none⟩) ∧ Hid (XBox W b1 x ∧ XBox W b2 y ∧ Below w3.heap.size w3 W))
        case first =>
          refine wp_region_held_drew (S := TwoX b (off + k * 7) x c (off2 + k * 7) y) (by kernel_rfl) hS (fun hHeld => ?_)
          have HBD : Hid (Below wr.drew.heap.size wr.drew wr.drew) := Lib.hid (Below.refl _ _)
          generalize wr.drew = wd at hS hHeld HBK0 HSB HBD ⊢
          first
          | (refine take_wanted (i := 0) (v := ?_) rfl rfl (by kernel_rfl) (by kernel_rfl) (by kernel_rfl) (fun _ _ _ h => h) (by rfl) (by assumption) ?_ ?_; rotate_left; (focus (intro w hSw; (try dsimp only at hSw); go_simp; first | done | with_reducible rfl)); (simp only [Act.at, List.setIfInBounds_toArray, List.set_cons_zero, List.set_cons_succ]))
          | (refine take_unwanted (i := 0) rfl rfl (by kernel_rfl) (by kernel_rfl) (by kernel_rfl) (fun _ _ _ h => h) (by rfl) (by assumption) ?_; (simp only [Act.at, List.setIfInBounds_toArray, List.set_cons_zero, List.set_cons_succ]))
          first
          | (refine take_wanted (i := 1) (v := ?_) rfl rfl (by kernel_rfl) (by kernel_rfl) (by kernel_rfl) (fun _ _ _ h => h) (by rfl) (by assumption) ?_ ?_; rotate_left; (focus (intro w hSw; (try dsimp only at hSw); go_simp; first | done | with_reducible rfl)); (simp only [Act.at, List.setIfInBounds_toArray, List.set_cons_zero, List.set_cons_succ]))
          | (refine take_unwanted (i := 1) rfl rfl (by kernel_rfl) (by kernel_rfl) (by kernel_rfl) (fun _ _ _ h => h) (by rfl) (by assumption) ?_; (simp only [Act.at, List.setIfInBounds_toArray, List.set_cons_zero, List.set_cons_succ]))
          first
          | (refine take_wanted (i := 2) (v := ?_) rfl rfl (by kernel_rfl) (by kernel_rfl) (by kernel_rfl) (fun _ _ _ h => h) (by rfl) (by assumption) ?_ ?_; rotate_left; (focus (intro w hSw; (try dsimp only at hSw); go_simp; first | done | with_reducible rfl)); (simp only [Act.at, List.setIfInBounds_toArray, List.set_cons_zero, List.set_cons_succ]))
          | (refine take_unwanted (i := 2) rfl rfl (by kernel_rfl) (by kernel_rfl) (by kernel_rfl) (fun _ _ _ h => h) (by rfl) (by assumption) ?_; (simp only [Act.at, List.setIfInBounds_toArray, List.set_cons_zero, List.set_cons_succ]))
          first
          | (refine take_wanted (i := 3) (v := ?_) rfl rfl (by kernel_rfl) (by kernel_rfl) (by kernel_rfl) (fun _ _ _ h => h) (by rfl) (by assumption) ?_ ?_; rotate_left; (focus (intro w hSw; (try dsimp only at hSw); go_simp; first | done | with_reducible rfl)); (simp only [Act.at, List.setIfInBounds_toArray, List.set_cons_zero, List.set_cons_succ]))
          | (refine take_unwanted (i := 3) rfl rfl (by kernel_rfl) (by kernel_rfl) (by kernel_rfl) (fun _ _ _ h => h) (by rfl) (by assumption) ?_; (simp only [Act.at, List.setIfInBounds_toArray, List.set_cons_zero, List.set_cons_succ]))
          first
          | (refine take_wanted (i := 4) (v := ?_) rfl rfl (by kernel_rfl) (by kernel_rfl) (by kernel_rfl) (fun _ _ _ h => h) (by rfl) (by assumption) ?_ ?_; rotate_left; (focus (intro w hSw; (try dsimp only at hSw); go_simp; first | done | with_reducible rfl)); (simp only [Act.at, List.setIfInBounds_toArray, List.set_cons_zero, List.set_cons_succ]))
          | (refine take_unwanted (i := 4) rfl rfl (by kernel_rfl) (by kernel_rfl) (by kernel_rfl) (fun _ _ _ h => h) (by rfl) (by assumption) ?_; (simp only [Act.at, List.setIfInBounds_toArray, List.set_cons_zero, List.set_cons_succ]))
          first
          | (refine take_wanted (i := 5) (v := ?_) rfl rfl (by kernel_rfl) (by kernel_rfl) (by kernel_rfl) (fun _ _ _ h => h) (by rfl) (by assumption) ?_ ?_; rotate_left; (focus (intro w hSw; (try dsimp only at hSw); go_simp; first | done | with_reducible rfl)); (simp only [Act.at, List.setIfInBounds_toArray, List.set_cons_zero, List.set_cons_succ]))
          | (refine take_unwanted (i := 5) rfl rfl (by kernel_rfl) (by kernel_rfl) (by kernel_rfl) (fun _ _ _ h => h) (by rfl) (by assumption) ?_; (simp only [Act.at, List.setIfInBounds_toArray, List.set_cons_zero, List.set_cons_succ]))
          first
          | (refine take_wanted (i := 6) (v := ?_) rfl rfl (by kernel_rfl) (by kernel_rfl) (by kernel_rfl) (fun _ _ _ h => h) (by rfl) (by assumption) ?_ ?_; rotate_left; (focus (intro w hSw; (try dsimp only at hSw); go_simp; first | done | with_reducible rfl)); (simp only [Act.at, List.setIfInBounds_toArray, List.set_cons_zero, List.set_cons_succ]))
          | (refine take_unwanted (i := 6) rfl rfl (by kernel_rfl) (by kernel_rfl) (by kernel_rfl) (fun _ _ _ h => h) (by rfl) (by assumption) ?_; (simp only [Act.at, List.setIfInBounds_toArray, List.set_cons_zero, List.set_cons_succ]))
          first
          | (refine take_wanted (i := 7) (v := ?_) rfl rfl (by kernel_rfl) (by kernel_rfl) (by kernel_rfl) (fun _ _ _ h => h) (by rfl) (by assumption) ?_ ?_; rotate_left; (focus (intro w hSw; (try dsimp only at hSw); go_simp; first | done | with_reducible rfl)); (simp only [Act.at, List.setIfInBounds_toArray, List.set_cons_zero, List.set_cons_succ]))
          | (refine take_unwanted (i := 7) rfl rfl (by kernel_rfl) (by kernel_rfl) (by kernel_rfl) (fun _ _ _ h => h) (by rfl) (by assumption) ?_; (simp only [Act.at, List.setIfInBounds_toArray, List.set_cons_zero, List.set_cons_succ]))
          clear hki hki2 hkc hkc2 hinc hk0
          refine takeTwo (i := 8) (j := 9) (by kernel_rfl) rfl rfl (by rfl) (by rfl) (fun K hK => ?_) (fun K hK => ?_)
          · go_simp
            have hbl : Below wd.heap.size wd (wd.alloc (.cells #[.string ⟨#[]⟩, .int .i64 0, .int .i64 0, .int .i64 0, .slice none 0 0, .bool false, .slice none 0 0] 33)) := (Below.refl _ wd).alloc (Nat.le_refl _) _
            have HB1 := Lib.hid (HBD.out.trans (hbl.mono HBD.out.size))
            have hzb1 := Has.made wd 33 #[.string ⟨#[]⟩, .int .i64 0, .int .i64 0, .int .i64 0, .slice none 0 0, .bool false, .slice none 0 0]
            generalize wd.alloc (.cells #[.string ⟨#[]⟩, .int .i64 0, .int .i64 0, .int .i64 0, .slice none 0 0, .bool false, .slice none 0 0] 33) = W1 at HB1 hzb1  ⊢
            obtain ⟨b1, hbeb1⟩ : ∃ b, wd.heap.size = b := ⟨_, rfl⟩
            rw [hbeb1] at hzb1  ⊢
            have HGEb1 : Hid (wd.heap.size ≤ b1) := Lib.hid (by rw [← hbeb1]; exact HBD.out.size)
            clear hbeb1
            have Hb1 := Lib.hid hzb1
            have hS1 := HSB.out W1 HB1.out
            clear hzb1 hbl
            refine hK.out _ _ hS1 (fun hHeld => ?_)
            clear hK K
            try simp only [Act.put, List.setIfInBounds_toArray, List.set_cons_zero, List.set_cons_succ]
            refine takeOne (i := 9) (by kernel_rfl) rfl (by rfl) (fun K hK => ?_)
            go_simp
            have hbl : Below W1.heap.size W1 (W1.alloc (.cells #[.string ⟨#[]⟩, .int .i64 0, .int .i64 0, .int .i64 0, .slice none 0 0, .bool false, .slice none 0 0] 33)) := (Below.refl _ W1).alloc (Nat.le_refl _) _
            have HB2 := Lib.hid (HB1.out.trans (hbl.mono HB1.out.size))
            have hzb2 := Has.made W1 33 #[.string ⟨#[]⟩, .int .i64 0, .int .i64 0, .int .i64 0, .slice none 0 0, .bool false, .slice none 0 0]
            have Hb1n := Lib.hid (Hb1.out.of_alloc (.cells #[.string ⟨#[]⟩, .int .i64 0, .int .i64 0, .int .i64 0, .slice none 0 0, .bool false, .slice none 0 0] 33))
            have hneb1 : b1 ≠ W1.heap.size := fun e => by have := Hb1.out.lt; omega
            generalize W1.alloc (.cells #[.string ⟨#[]⟩, .int .i64 0, .int .i64 0, .int .i64 0, .slice none 0 0, .bool false, .slice none 0 0] 33) = W2 at HB2 hzb2 Hb1n ⊢
            obtain ⟨b2, hbeb2⟩ : ∃ b, W1.heap.size = b := ⟨_, rfl⟩
            rw [hbeb2] at hzb2 hneb1 ⊢
            have HGEb2 : Hid (wd.heap.size ≤ b2) := Lib.hid (by rw [← hbeb2]; exact HB1.out.size)
            clear hbeb2
            have Hb2 := Lib.hid hzb2
            have hS2 := HSB.out W2 HB2.out
            clear hzb2 hbl
            refine hK.out _ _ hS2 (fun hHeld => ?_)
            clear hK K
            try simp only [Act.put, List.setIfInBounds_toArray, List.set_cons_zero, List.set_cons_succ]
            refine takeOne (i := 10) (by kernel_rfl) rfl (by rfl) (fun K hK => ?_)
            have z0 : W2.cell? ⟨b1, 0, none⟩ = some (.string ⟨#[]⟩) := Hb1n.out.cell 0
            have f0 : W2.frozen? ⟨b1, 0, none⟩ = false := Hb1n.out.free 0
            have z1 : W2.cell? ⟨b1, 1, none⟩ = some (.int .i64 0) := Hb1n.out.cell 1
            have f1 : W2.frozen? ⟨b1, 1, none⟩ = false := Hb1n.out.free 1
            have z2 : W2.cell? ⟨b1, 2, none⟩ = some (.int .i64 0) := Hb1n.out.cell 2
            have f2 : W2.frozen? ⟨b1, 2, none⟩ = false := Hb1n.out.free 2
            have z3 : W2.cell? ⟨b1, 3, none⟩ = some (.int .i64 0) := Hb1n.out.cell 3
            have f3 : W2.frozen? ⟨b1, 3, none⟩ = false := Hb1n.out.free 3
            have z4 : W2.cell? ⟨b1, 4, none⟩ = some (.slice none 0 0) := Hb1n.out.cell 4
            have f4 : W2.frozen? ⟨b1, 4, none⟩ = false := Hb1n.out.free 4
            have z5 : W2.cell? ⟨b1, 5, none⟩ = some (.bool false) := Hb1n.out.cell 5
            have f5 : W2.frozen? ⟨b1, 5, none⟩ = false := Hb1n.out.free 5
            have z6 : W2.cell? ⟨b1, 6, none⟩ = some (.slice none 0 0) := Hb1n.out.cell 6
            have f6 : W2.frozen? ⟨b1, 6, none⟩ = false := Hb1n.out.free 6
            go_simp
            have hset : XBox (((((((W2.setCell ⟨b1, 0, none⟩ (.string (S x.e.id))).setCell ⟨b1, 1, none⟩ (.int .i64 x.e.cls)).setCell ⟨b1, 2, none⟩ (.int .i64 x.e.born)).setCell ⟨b1, 3, none⟩ (.int .i64 x.e.slot)).setCell ⟨b1, 4, none⟩ (.slice x.A x.e.L.length x.ca)).setCell ⟨b1, 5, none⟩ (.bool x.e.gone)).setCell ⟨b1, 6, none⟩ (.slice x.B x.e.H.length x.cb)) b1 x := set7 Hb1n.out _ _ _ _ _ _ _
            have hon : Only W2 (((((((W2.setCell ⟨b1, 0, none⟩ (.string (S x.e.id))).setCell ⟨b1, 1, none⟩ (.int .i64 x.e.cls)).setCell ⟨b1, 2, none⟩ (.int .i64 x.e.born)).setCell ⟨b1, 3, none⟩ (.int .i64 x.e.slot)).setCell ⟨b1, 4, none⟩ (.slice x.A x.e.L.length x.ca)).setCell ⟨b1, 5, none⟩ (.bool x.e.gone)).setCell ⟨b1, 6, none⟩ (.slice x.B x.e.H.length x.cb)) b1 := only7 W2 b1 _ _ _ _ _ _ _
            have Hb2n := Lib.hid ((Mv.of_only hon (s := [b1]) (by simp)).has Hb2.out (by rw [List.mem_singleton]; omega))
            have HB3 := Lib.hid (hon.below HB2.out HB2.out.size HGEb1.out)
            generalize (((((((W2.setCell ⟨b1, 0, none⟩ (.string (S x.e.id))).setCell ⟨b1, 1, none⟩ (.int .i64 x.e.cls)).setCell ⟨b1, 2, none⟩ (.int .i64 x.e.born)).setCell ⟨b1, 3, none⟩ (.int .i64 x.e.slot)).setCell ⟨b1, 4, none⟩ (.slice x.A x.e.L.length x.ca)).setCell ⟨b1, 5, none⟩ (.bool x.e.gone)).setCell ⟨b1, 6, none⟩ (.slice x.B x.e.H.length x.cb)) = W3 at hset hon HB3 Hb2n ⊢
            have Hb1x := Lib.hid hset
            have hS3 := HSB.out W3 HB3.out
            clear hset hon z0 z1 z2 z3 z4 z5 z6 f0 f1 f2 f3 f4 f5 f6
            refine hK.out _ _ hS3 (fun hHeld => ?_)
            clear hK K
            try simp only [Act.put, List.setIfInBounds_toArray, List.set_cons_zero, List.set_cons_succ]
            refine takeOne (i := 11) (by kernel_rfl) rfl (by rfl) (fun K hK => ?_)
            have z0 : W3.cell? ⟨b2, 0, none⟩ = some (.string ⟨#[]⟩) := Hb2n.out.cell 0
            have f0 : W3.frozen? ⟨b2, 0, none⟩ = false := Hb2n.out.free 0
            have z1 : W3.cell? ⟨b2, 1, none⟩ = some (.int .i64 0) := Hb2n.out.cell 1
            have f1 : W3.frozen? ⟨b2, 1, none⟩ = false := Hb2n.out.free 1
            have z2 : W3.cell? ⟨b2, 2, none⟩ = some (.int .i64 0) := Hb2n.out.cell 2
            have f2 : W3.frozen? ⟨b2, 2, none⟩ = false := Hb2n.out.free 2
            have z3 : W3.cell? ⟨b2, 3, none⟩ = some (.int .i64 0) := Hb2n.out.cell 3
            have f3 : W3.frozen? ⟨b2, 3, none⟩ = false := Hb2n.out.free 3
            have z4 : W3.cell? ⟨b2, 4, none⟩ = some (.slice none 0 0) := Hb2n.out.cell 4
            have f4 : W3.frozen? ⟨b2, 4, none⟩ = false := Hb2n.out.free 4
            have z5 : W3.cell? ⟨b2, 5, none⟩ = some (.bool false) := Hb2n.out.cell 5
            have f5 : W3.frozen? ⟨b2, 5, none⟩ = false := Hb2n.out.free 5
            have z6 : W3.cell? ⟨b2, 6, none⟩ = some (.slice none 0 0) := Hb2n.out.cell 6
            have f6 : W3.frozen? ⟨b2, 6, none⟩ = false := Hb2n.out.free 6
            go_simp
            have hset : XBox (((((((W3.setCell ⟨b2, 0, none⟩ (.string (S y.e.id))).setCell ⟨b2, 1, none⟩ (.int .i64 y.e.cls)).setCell ⟨b2, 2, none⟩ (.int .i64 y.e.born)).setCell ⟨b2, 3, none⟩ (.int .i64 y.e.slot)).setCell ⟨b2, 4, none⟩ (.slice y.A y.e.L.length y.ca)).setCell ⟨b2, 5, none⟩ (.bool y.e.gone)).setCell ⟨b2, 6, none⟩ (.slice y.B y.e.H.length y.cb)) b2 y := set7 Hb2n.out _ _ _ _ _ _ _
            have hon : Only W3 (((((((W3.setCell ⟨b2, 0, none⟩ (.string (S y.e.id))).setCell ⟨b2, 1, none⟩ (.int .i64 y.e.cls)).setCell ⟨b2, 2, none⟩ (.int .i64 y.e.born)).setCell ⟨b2, 3, none⟩ (.int .i64 y.e.slot)).setCell ⟨b2, 4, none⟩ (.slice y.A y.e.L.length y.ca)).setCell ⟨b2, 5, none⟩ (.bool y.e.gone)).setCell ⟨b2, 6, none⟩ (.slice y.B y.e.H.length y.cb)) b2 := only7 W3 b2 _ _ _ _ _ _ _
            have Hb1xn := Lib.hid ((Mv.of_only hon (s := [b2]) (by simp)).has Hb1x.out (by rw [List.mem_singleton]; omega))
            have HB4 := Lib.hid (hon.below HB3.out HB3.out.size HGEb2.out)
            generalize (((((((W3.setCell ⟨b2, 0, none⟩ (.string (S y.e.id))).setCell ⟨b2, 1, none⟩ (.int .i64 y.e.cls)).setCell ⟨b2, 2, none⟩ (.int .i64 y.e.born)).setCell ⟨b2, 3, none⟩ (.int .i64 y.e.slot)).setCell ⟨b2, 4, none⟩ (.slice y.A y.e.L.length y.ca)).setCell ⟨b2, 5, none⟩ (.bool y.e.gone)).setCell ⟨b2, 6, none⟩ (.slice y.B y.e.H.length y.cb)) = W4 at hset hon HB4 Hb1xn ⊢
            have Hb2x := Lib.hid hset
            have hS4 := HSB.out W4 HB4.out
            clear hset hon z0 z1 z2 z3 z4 z5 z6 f0 f1 f2 f3 f4 f5 f6
            refine hK.out _ _ hS4 (fun hHeld => ?_)
            clear hK K
            try simp only [Act.put, List.setIfInBounds_toArray, List.set_cons_zero, List.set_cons_succ]
            refine wpAnyH_done (by kernel_rfl) ?_ _
            go_wp2_with fail
            go_meet
            exact ⟨b1, b2, rfl, rfl, Lib.hid ⟨Hb1xn.out, Hb2x.out, HBK0.out.trans (HB4.out.mono HBK0.out.size)⟩⟩
          · go_simp
            have hbl : Below wd.heap.size wd (wd.alloc (.cells #[.string ⟨#[]⟩, .int .i64 0, .int .i64 0, .int .i64 0, .slice none 0 0, .bool false, .slice none 0 0] 33)) := (Below.refl _ wd).alloc (Nat.le_refl _) _
            have HB1 := Lib.hid (HBD.out.trans (hbl.mono HBD.out.size))
            have hzb2 := Has.made wd 33 #[.string ⟨#[]⟩, .int .i64 0, .int .i64 0, .int .i64 0, .slice none 0 0, .bool false, .slice none 0 0]
            generalize wd.alloc (.cells #[.string ⟨#[]⟩, .int .i64 0, .int .i64 0, .int .i64 0, .slice none 0 0, .bool false, .slice none 0 0] 33) = W1 at HB1 hzb2  ⊢
            obtain ⟨b2, hbeb2⟩ : ∃ b, wd.heap.size = b := ⟨_, rfl⟩
            rw [hbeb2] at hzb2  ⊢
            have HGEb2 : Hid (wd.heap.size ≤ b2) := Lib.hid (by rw [← hbeb2]; exact HBD.out.size)
            clear hbeb2
            have Hb2 := Lib.hid hzb2
            have hS1 := HSB.out W1 HB1.out
            clear hzb2 hbl
            refine hK.out _ _ hS1 (fun hHeld => ?_)
            clear hK K
            try simp only [Act.put, List.setIfInBounds_toArray, List.set_cons_zero, List.set_cons_succ]
            refine takeOne (i := 8) (by kernel_rfl) rfl (by rfl) (fun K hK => ?_)
            go_simp
            have hbl : Below W1.heap.size W1 (W1.alloc (.cells #[.string ⟨#[]⟩, .int .i64 0, .int .i64 0, .int .i64 0, .slice none 0 0, .bool false, .slice none 0 0] 33)) := (Below.refl _ W1).alloc (Nat.le_refl _) _
            have HB2 := Lib.hid (HB1.out.trans (hbl.mono HB1.out.size))
            have hzb1 := Has.made W1 33 #[.string ⟨#[]⟩, .int .i64 0, .int .i64 0, .int .i64 0, .slice none 0 0, .bool false, .slice none 0 0]
            have Hb2n := Lib.hid (Hb2.out.of_alloc (.cells #[.string ⟨#[]⟩, .int .i64 0, .int .i64 0, .int .i64 0, .slice none 0 0, .bool false, .slice none 0 0] 33))
            have hneb2 : b2 ≠ W1.heap.size := fun e => by have := Hb2.out.lt; omega
            generalize W1.alloc (.cells #[.string ⟨#[]⟩, .int .i64 0, .int .i64 0, .int .i64 0, .slice none 0 0, .bool false, .slice none 0 0] 33) = W2 at HB2 hzb1 Hb2n ⊢
            obtain ⟨b1, hbeb1⟩ : ∃ b, W1.heap.size = b := ⟨_, rfl⟩
            rw [hbeb1] at hzb1 hneb2 ⊢
            have HGEb1 : Hid (wd.heap.size ≤ b1) := Lib.hid (by rw [← hbeb1]; exact HB1.out.size)
            clear hbeb1
            have Hb1 := Lib.hid hzb1
            have hS2 := HSB.out W2 HB2.out
            clear hzb1 hbl
            refine hK.out _ _ hS2 (fun hHeld => ?_)
            clear hK K
            try simp only [Act.put, List.setIfInBounds_toArray, List.set_cons_zero, List.set_cons_succ]
            refine takeOne (i := 10) (by kernel_rfl) rfl (by rfl) (fun K hK => ?_)
            have z0 : W2.cell? ⟨b1, 0, none⟩ = some (.string ⟨#[]⟩) := Hb1.out.cell 0
            have f0 : W2.frozen? ⟨b1, 0, none⟩ = false := Hb1.out.free 0
            have z1 : W2.cell? ⟨b1, 1, none⟩ = some (.int .i64 0) := Hb1.out.cell 1
            have f1 : W2.frozen? ⟨b1, 1, none⟩ = false := Hb1.out.free 1
            have z2 : W2.cell? ⟨b1, 2, none⟩ = some (.int .i64 0) := Hb1.out.cell 2
            have f2 : W2.frozen? ⟨b1, 2, none⟩ = false := Hb1.out.free 2
            have z3 : W2.cell? ⟨b1, 3, none⟩ = some (.int .i64 0) := Hb1.out.cell 3
            have f3 : W2.frozen? ⟨b1, 3, none⟩ = false := Hb1.out.free 3
            have z4 : W2.cell? ⟨b1, 4, none⟩ = some (.slice none 0 0) := Hb1.out.cell 4
            have f4 : W2.frozen? ⟨b1, 4, none⟩ = false := Hb1.out.free 4
            have z5 : W2.cell? ⟨b1, 5, none⟩ = some (.bool false) := Hb1.out.cell 5
            have f5 : W2.frozen? ⟨b1, 5, none⟩ = false := Hb1.out.free 5
            have z6 : W2.cell? ⟨b1, 6, none⟩ = some (.slice none 0 0) := Hb1.out.cell 6
            have f6 : W2.frozen? ⟨b1, 6, none⟩ = false := Hb1.out.free 6
            go_simp
            have hset : XBox (((((((W2.setCell ⟨b1, 0, none⟩ (.string (S x.e.id))).setCell ⟨b1, 1, none⟩ (.int .i64 x.e.cls)).setCell ⟨b1, 2, none⟩ (.int .i64 x.e.born)).setCell ⟨b1, 3, none⟩ (.int .i64 x.e.slot)).setCell ⟨b1, 4, none⟩ (.slice x.A x.e.L.length x.ca)).setCell ⟨b1, 5, none⟩ (.bool x.e.gone)).setCell ⟨b1, 6, none⟩ (.slice x.B x.e.H.length x.cb)) b1 x := set7 Hb1.out _ _ _ _ _ _ _
            have hon : Only W2 (((((((W2.setCell ⟨b1, 0, none⟩ (.string (S x.e.id))).setCell ⟨b1, 1, none⟩ (.int .i64 x.e.cls)).setCell ⟨b1, 2, none⟩ (.int .i64 x.e.born)).setCell ⟨b1, 3, none⟩ (.int .i64 x.e.slot)).setCell ⟨b1, 4, none⟩ (.slice x.A x.e.L.length x.ca)).setCell ⟨b1, 5, none⟩ (.bool x.e.gone)).setCell ⟨b1, 6, none⟩ (.slice x.B x.e.H.length x.cb)) b1 := only7 W2 b1 _ _ _ _ _ _ _
            have Hb2nn := Lib.hid ((Mv.of_only hon (s := [b1]) (by simp)).has Hb2n.out (by rw [List.mem_singleton]; omega))
            have HB3 := Lib.hid (hon.below HB2.out HB2.out.size HGEb1.out)
            generalize (((((((W2.setCell ⟨b1, 0, none⟩ (.string (S x.e.id))).setCell ⟨b1, 1, none⟩ (.int .i64 x.e.cls)).setCell ⟨b1, 2, none⟩ (.int .i64 x.e.born)).setCell ⟨b1, 3, none⟩ (.int .i64 x.e.slot)).setCell ⟨b1, 4, none⟩ (.slice x.A x.e.L.length x.ca)).setCell ⟨b1, 5, none⟩ (.bool x.e.gone)).setCell ⟨b1, 6, none⟩ (.slice x.B x.e.H.length x.cb)) = W3 at hset hon HB3 Hb2nn ⊢
            have Hb1x := Lib.hid hset
            have hS3 := HSB.out W3 HB3.out
            clear hset hon z0 z1 z2 z3 z4 z5 z6 f0 f1 f2 f3 f4 f5 f6
            refine hK.out _ _ hS3 (fun hHeld => ?_)
            clear hK K
            try simp only [Act.put, List.setIfInBounds_toArray, List.set_cons_zero, List.set_cons_succ]
            refine takeOne (i := 11) (by kernel_rfl) rfl (by rfl) (fun K hK => ?_)
            have z0 : W3.cell? ⟨b2, 0, none⟩ = some (.string ⟨#[]⟩) := Hb2nn.out.cell 0
            have f0 : W3.frozen? ⟨b2, 0, none⟩ = false := Hb2nn.out.free 0
            have z1 : W3.cell? ⟨b2, 1, none⟩ = some (.int .i64 0) := Hb2nn.out.cell 1
            have f1 : W3.frozen? ⟨b2, 1, none⟩ = false := Hb2nn.out.free 1
            have z2 : W3.cell? ⟨b2, 2, none⟩ = some (.int .i64 0) := Hb2nn.out.cell 2
            have f2 : W3.frozen? ⟨b2, 2, none⟩ = false := Hb2nn.out.free 2
            have z3 : W3.cell? ⟨b2, 3, none⟩ = some (.int .i64 0) := Hb2nn.out.cell 3
            have f3 : W3.frozen? ⟨b2, 3, none⟩ = false := Hb2nn.out.free 3
            have z4 : W3.cell? ⟨b2, 4, none⟩ = some (.slice none 0 0) := Hb2nn.out.cell 4
            have f4 : W3.frozen? ⟨b2, 4, none⟩ = false := Hb2nn.out.free 4
            have z5 : W3.cell? ⟨b2, 5, none⟩ = some (.bool false) := Hb2nn.out.cell 5
            have f5 : W3.frozen? ⟨b2, 5, none⟩ = false := Hb2nn.out.free 5
            have z6 : W3.cell? ⟨b2, 6, none⟩ = some (.slice none 0 0) := Hb2nn.out.cell 6
            have f6 : W3.frozen? ⟨b2, 6, none⟩ = false := Hb2nn.out.free 6
            go_simp
            have hset : XBox (((((((W3.setCell ⟨b2, 0, none⟩ (.string (S y.e.id))).setCell ⟨b2, 1, none⟩ (.int .i64 y.e.cls)).setCell ⟨b2, 2, none⟩ (.int .i64 y.e.born)).setCell ⟨b2, 3, none⟩ (.int .i64 y.e.slot)).setCell ⟨b2, 4, none⟩ (.slice y.A y.e.L.length y.ca)).setCell ⟨b2, 5, none⟩ (.bool y.e.gone)).setCell ⟨b2, 6, none⟩ (.slice y.B y.e.H.length y.cb)) b2 y := set7 Hb2nn.out _ _ _ _ _ _ _
            have hon : Only W3 (((((((W3.setCell ⟨b2, 0, none⟩ (.string (S y.e.id))).setCell ⟨b2, 1, none⟩ (.int .i64 y.e.cls)).setCell ⟨b2, 2, none⟩ (.int .i64 y.e.born)).setCell ⟨b2, 3, none⟩ (.int .i64 y.e.slot)).setCell ⟨b2, 4, none⟩ (.slice y.A y.e.L.length y.ca)).setCell ⟨b2, 5, none⟩ (.bool y.e.gone)).setCell ⟨b2, 6, none⟩ (.slice y.B y.e.H.length y.cb)) b2 := only7 W3 b2 _ _ _ _ _ _ _
            have Hb1xn := Lib.hid ((Mv.of_only hon (s := [b2]) (by simp)).has Hb1x.out (by rw [List.mem_singleton]; omega))
            have HB4 := Lib.hid (hon.below HB3.out HB3.out.size HGEb2.out)
            generalize (((((((W3.setCell ⟨b2, 0, none⟩ (.string (S y.e.id))).setCell ⟨b2, 1, none⟩ (.int .i64 y.e.cls)).setCell ⟨b2, 2, none⟩ (.int .i64 y.e.born)).setCell ⟨b2, 3, none⟩ (.int .i64 y.e.slot)).setCell ⟨b2, 4, none⟩ (.slice y.A y.e.L.length y.ca)).setCell ⟨b2, 5, none⟩ (.bool y.e.gone)).setCell ⟨b2, 6, none⟩ (.slice y.B y.e.H.length y.cb)) = W4 at hset hon HB4 Hb1xn ⊢
            have Hb2x := Lib.hid hset
            have hS4 := HSB.out W4 HB4.out
            clear hset hon z0 z1 z2 z3 z4 z5 z6 f0 f1 f2 f3 f4 f5 f6
            refine hK.out _ _ hS4 (fun hHeld => ?_)
            clear hK K
            try simp only [Act.put, List.setIfInBounds_toArray, List.set_cons_zero, List.set_cons_succ]
            refine wpAnyH_done (by kernel_rfl) ?_ _
            go_wp2_with fail
            go_meet
            exact ⟨b1, b2, rfl, rfl, Lib.hid ⟨Hb1xn.out, Hb2x.out, HBK0.out.trans (HB4.out.mono HBK0.out.size)⟩⟩
        case rest =>
          obtain ⟨b1, b2, rfl, rfl, HBX⟩ := hcut
          clear hS HIN HSB HBK0
          obtain ⟨hX, hY, hbw⟩ := HBX.out
          generalize wc = W3 at hX hY hbw ⊢
          have HB3 := Lib.hid hbw
          obtain ⟨⟨id, cls, born, slot, L, gone, H⟩, xA, xca, xB, xcb⟩ := x
          obtain ⟨⟨id2, cls2, born2, slot2, L2, gone2, H2⟩, yA, yca, yB, ycb⟩ := y
          obtain ⟨o1, o2, o3, o4, o5, o6, o7⟩ := HOU.out
          dsimp only at o1 o2 o3 o4 o5 o6 o7 hX hY HINW
          subst o1 o2 o3 o4
          have HSLP := Lib.hid o7
          have HX : Hid (b1 < W3.heap.size ∧ b2 < W3.heap.size ∧ W3.cell? ⟨b1, 4, none⟩ = some (.slice xA L.length xca) ∧ W3.cell? ⟨b2, 4, none⟩ = some (.slice yA L.length yca)) := Lib.hid ⟨hX.lt, hY.lt, hX.cell 4, by rw [← o5]; exact hY.cell 4⟩
          have HLN := Lib.hid o5
          have x0 : W3.cell? ⟨b1, 0, none⟩ = some (.string (S id2)) := hX.cell 0
          have x1 : W3.cell? ⟨b1, 1, none⟩ = some (.int .i64 cls2) := hX.cell 1
          have x2 : W3.cell? ⟨b1, 2, none⟩ = some (.int .i64 born2) := hX.cell 2
          have x4 := HX.out.2.2.1
          have x5 : W3.cell? ⟨b1, 5, none⟩ = some (.bool gone) := hX.cell 5
          have y0 : W3.cell? ⟨b2, 0, none⟩ = some (.string (S id2)) := hY.cell 0
          have y1 : W3.cell? ⟨b2, 1, none⟩ = some (.int .i64 cls2) := hY.cell 1
          have y2 : W3.cell? ⟨b2, 2, none⟩ = some (.int .i64 born2) := hY.cell 2
          have y4 := HX.out.2.2.2
          have y5 : W3.cell? ⟨b2, 5, none⟩ = some (.bool gone2) := hY.cell 5
          clear hX hY hbw HBX o5 o7 HOU hk2 hki2 hkc hkc2
          go_upto_region 14 with fail
          go_cut [91] (fun v91 W => v91 = .bool false ∧ W = W3)
          case first =>
            cases gone with
            | false =>
              clear o6
              go_wp2_with fail
              go_meet
              exact ⟨rfl, rfl⟩
            | true =>
              obtain rfl : gone2 = true := o6 rfl
              clear o6
              go_wp2_with fail
              go_meet
              exact ⟨rfl, rfl⟩
          case rest =>
            obtain ⟨rfl, rfl⟩ := hcut
            clear x0 x1 x2 x5 y0 y1 y2 y5 o6
            go_wp2_with fail
            go_loopg [12] L.length (fun n v12 wr => ∃ j : Nat, j + n = L.length ∧ v12 = .int .i64 (j : Int) ∧ Hid (Below wc.heap.size wc wr))
            case atStart => exact ⟨0, Nat.zero_add _, rfl, Lib.hid (Below.refl _ _)⟩
            case round =>
              obtain ⟨j, hjn, rfl, HBJ⟩ := hrel
              have x4 := (HBJ.out.cell (p := ⟨b1, 4, none⟩) HX.out.1).trans HX.out.2.2.1
              have y4 := (HBJ.out.cell (p := ⟨b2, 4, none⟩) HX.out.2.1).trans HX.out.2.2.2
              by_cases hj : j < L.length
              · have hji : (j : Int) < (L.length : Int) := by omega
                have hj0 : (0 : Int) ≤ (j : Int) := by omega
                obtain ⟨n2, hn2⟩ : ∃ n2, gk = n2 + 1 := ⟨gk - 1, by omega⟩
                subst hn2
                have hj2 : j < L2.length := by have := HLN.out; omega
                obtain ⟨hi1, hi2⟩ := HINW.out _ (HB3.out.trans (HBJ.out.drew.mono HB3.out.size))
                have hm1 := hi1.la
                have hm2 := hi1.ma
                have hm3 := hi2.la
                dsimp only at hm1 hm2 hm3
                have hji2 : (j : Int) < (L2.length : Int) := by omega
                have hjc : (j : Int) < (xca : Int) := by omega
                have hjc2 : (j : Int) < (yca : Int) := by omega
                have hinc2 : IntKind.i64.wrap ((j : Int) + 1) = (j : Int) + 1 := by rw [IntKind.wrap_i64]; omega
                obtain ⟨bs, os, hA3, -, -, g0, g1, -, g3⟩ := RowP.get hi1.rl j hj
                obtain ⟨bt, oq, hA4, -, -, k0, k1, -, k3⟩ := RowP.get hi2.rl j hj2
                have hsl := HSLP.out j _ _ (List.getElem?_eq_getElem hj) (List.getElem?_eq_getElem hj2)
                obtain ⟨z, hsx⟩ : ∃ z, L[j] = z := ⟨_, rfl⟩
                obtain ⟨y, hsy⟩ : ∃ z, L2[j] = z := ⟨_, rfl⟩
                rw [hsx] at g0 g1 g3 hsl
                rw [hsy] at k0 k1 k3 hsl
                obtain ⟨sn, sp, sc, se⟩ := z
                obtain ⟨tn, tp, tc, te⟩ := y
                dsimp only at g0 g1 g3 k0 k1 k3 hsl hA3 hA4
                obtain ⟨u1, u2, u3⟩ := hsl
                subst u1 u2 hA3 hA4
                have HKJ := Lib.hid hjn
                have hS : PlS b1 b2 bs bt os (os + j * 4) oq (oq + j * 4) L.length xca yca tn tp se te wr.drew := ⟨x4, y4, g0, g1, g3, k0, k1, k3⟩
                have HBD := Lib.hid HBJ.out.drew
                clear hi1 hi2 hm1 hm2 hm3 g0 g1 g3 k0 k1 k3 hsx hsy hjn hinc hk0 hki
                go_upto_region 19 with fail
                clear x4 y4
                go_cut [143] (fun v143 W => v143 = .bool false ∧ Hid (Below wc.heap.size wc W))
                case first =>
                  cases se with
                  | false =>
                    clear u3
                    refine wp_region_held_drew (S := PlS b1 b2 bs bt os (os + j * 4) oq (oq + j * 4) L.length xca yca tn tp false te) (by kernel_rfl) hS (fun hHeld => ?_)
                    generalize wr.drew = wd at hS hHeld HBD ⊢
                    first
                    | (refine take_wanted (i := 0) (v := ?_) rfl rfl (by kernel_rfl) (by kernel_rfl) (by kernel_rfl) (fun _ _ _ h => h) (by rfl) (by assumption) ?_ ?_; rotate_left; (focus (intro w hSw; (try dsimp only at hSw); go_simp; first | done | with_reducible rfl)); (simp only [Act.at, List.setIfInBounds_toArray, List.set_cons_zero, List.set_cons_succ]))
                    | (refine take_unwanted (i := 0) rfl rfl (by kernel_rfl) (by kernel_rfl) (by kernel_rfl) (fun _ _ _ h => h) (by rfl) (by assumption) ?_; (simp only [Act.at, List.setIfInBounds_toArray, List.set_cons_zero, List.set_cons_succ]))
                    first
                    | (refine take_wanted (i := 1) (v := ?_) rfl rfl (by kernel_rfl) (by kernel_rfl) (by kernel_rfl) (fun _ _ _ h => h) (by rfl) (by assumption) ?_ ?_; rotate_left; (focus (intro w hSw; (try dsimp only at hSw); go_simp; first | done | with_reducible rfl)); (simp only [Act.at, List.setIfInBounds_toArray, List.set_cons_zero, List.set_cons_succ]))
                    | (refine take_unwanted (i := 1) rfl rfl (by kernel_rfl) (by kernel_rfl) (by kernel_rfl) (fun _ _ _ h => h) (by rfl) (by assumption) ?_; (simp only [Act.at, List.setIfInBounds_toArray, List.set_cons_zero, List.set_cons_succ]))
                    first
                    | (refine take_wanted (i := 2) (v := ?_) rfl rfl (by kernel_rfl) (by kernel_rfl) (by kernel_rfl) (fun _ _ _ h => h) (by rfl) (by assumption) ?_ ?_; rotate_left; (focus (intro w hSw; (try dsimp only at hSw); go_simp; first | done | with_reducible rfl)); (simp only [Act.at, List.setIfInBounds_toArray, List.set_cons_zero, List.set_cons_succ]))
                    | (refine take_unwanted (i := 2) rfl rfl (by kernel_rfl) (by kernel_rfl) (by kernel_rfl) (fun _ _ _ h => h) (by rfl) (by assumption) ?_; (simp only [Act.at, List.setIfInBounds_toArray, List.set_cons_zero, List.set_cons_succ]))
                    first
                    | (refine take_wanted (i := 3) (v := ?_) rfl rfl (by kernel_rfl) (by kernel_rfl) (by kernel_rfl) (fun _ _ _ h => h) (by rfl) (by assumption) ?_ ?_; rotate_left; (focus (intro w hSw; (try dsimp only at hSw); go_simp; first | done | with_reducible rfl)); (simp only [Act.at, List.setIfInBounds_toArray, List.set_cons_zero, List.set_cons_succ]))
                    | (refine take_unwanted (i := 3) rfl rfl (by kernel_rfl) (by kernel_rfl) (by kernel_rfl) (fun _ _ _ h => h) (by rfl) (by assumption) ?_; (simp only [Act.at, List.setIfInBounds_toArray, List.set_cons_zero, List.set_cons_succ]))
                    first
                    | (refine take_wanted (i := 4) (v := ?_) rfl rfl (by kernel_rfl) (by kernel_rfl) (by kernel_rfl) (fun _ _ _ h => h) (by rfl) (by assumption) ?_ ?_; rotate_left; (focus (intro w hSw; (try dsimp only at hSw); go_simp; first | done | with_reducible rfl)); (simp only [Act.at, List.setIfInBounds_toArray, List.set_cons_zero, List.set_cons_succ]))
                    | (refine take_unwanted (i := 4) rfl rfl (by kernel_rfl) (by kernel_rfl) (by kernel_rfl) (fun _ _ _ h => h) (by rfl) (by assumption) ?_; (simp only [Act.at, List.setIfInBounds_toArray, List.set_cons_zero, List.set_cons_succ]))
                    first
                    | (refine take_wanted (i := 5) (v := ?_) rfl rfl (by kernel_rfl) (by kernel_rfl) (by kernel_rfl) (fun _ _ _ h => h) (by rfl) (by assumption) ?_ ?_; rotate_left; (focus (intro w hSw; (try dsimp only at hSw); go_simp; first | done | with_reducible rfl)); (simp only [Act.at, List.setIfInBounds_toArray, List.set_cons_zero, List.set_cons_succ]))
                    | (refine take_unwanted (i := 5) rfl rfl (by kernel_rfl) (by kernel_rfl) (by kernel_rfl) (fun _ _ _ h => h) (by rfl) (by assumption) ?_; (simp only [Act.at, List.setIfInBounds_toArray, List.set_cons_zero, List.set_cons_succ]))
                    first
                    | (refine take_wanted (i := 6) (v := ?_) rfl rfl (by kernel_rfl) (by kernel_rfl) (by kernel_rfl) (fun _ _ _ h => h) (by rfl) (by assumption) ?_ ?_; rotate_left; (focus (intro w hSw; (try dsimp only at hSw); go_simp; first | done | with_reducible rfl)); (simp only [Act.at, List.setIfInBounds_toArray, List.set_cons_zero, List.set_cons_succ]))
                    | (refine take_unwanted (i := 6) rfl rfl (by kernel_rfl) (by kernel_rfl) (by kernel_rfl) (fun _ _ _ h => h) (by rfl) (by assumption) ?_; (simp only [Act.at, List.setIfInBounds_toArray, List.set_cons_zero, List.set_cons_succ]))
                    first
                    | (refine take_wanted (i := 7) (v := ?_) rfl rfl (by kernel_rfl) (by kernel_rfl) (by kernel_rfl) (fun _ _ _ h => h) (by rfl) (by assumption) ?_ ?_; rotate_left; (focus (intro w hSw; (try dsimp only at hSw); go_simp; first | done | with_reducible rfl)); (simp only [Act.at, List.setIfInBounds_toArray, List.set_cons_zero, List.set_cons_succ]))
                    | (refine take_unwanted (i := 7) rfl rfl (by kernel_rfl) (by kernel_rfl) (by kernel_rfl) (fun _ _ _ h => h) (by rfl) (by assumption) ?_; (simp only [Act.at, List.setIfInBounds_toArray, List.set_cons_zero, List.set_cons_succ]))
                    first
                    | (refine take_wanted (i := 8) (v := ?_) rfl rfl (by kernel_rfl) (by kernel_rfl) (by kernel_rfl) (fun _ _ _ h => h) (by rfl) (by assumption) ?_ ?_; rotate_left; (focus (intro w hSw; (try dsimp only at hSw); go_simp; first | done | with_reducible rfl)); (simp only [Act.at, List.setIfInBounds_toArray, List.set_cons_zero, List.set_cons_succ]))
                    | (refine take_unwanted (i := 8) rfl rfl (by kernel_rfl) (by kernel_rfl) (by kernel_rfl) (fun _ _ _ h => h) (by rfl) (by assumption) ?_; (simp only [Act.at, List.setIfInBounds_toArray, List.set_cons_zero, List.set_cons_succ]))
                    first
                    | (refine take_wanted (i := 9) (v := ?_) rfl rfl (by kernel_rfl) (by kernel_rfl) (by kernel_rfl) (fun _ _ _ h => h) (by rfl) (by assumption) ?_ ?_; rotate_left; (focus (intro w hSw; (try dsimp only at hSw); go_simp; first | done | with_reducible rfl)); (simp only [Act.at, List.setIfInBounds_toArray, List.set_cons_zero, List.set_cons_succ]))
                    | (refine take_unwanted (i := 9) rfl rfl (by kernel_rfl) (by kernel_rfl) (by kernel_rfl) (fun _ _ _ h => h) (by rfl) (by assumption) ?_; (simp only [Act.at, List.setIfInBounds_toArray, List.set_cons_zero, List.set_cons_succ]))
                    first
                    | (refine take_wanted (i := 10) (v := ?_) rfl rfl (by kernel_rfl) (by kernel_rfl) (by kernel_rfl) (fun _ _ _ h => h) (by rfl) (by assumption) ?_ ?_; rotate_left; (focus (intro w hSw; (try dsimp only at hSw); go_simp; first | done | with_reducible rfl)); (simp only [Act.at, List.setIfInBounds_toArray, List.set_cons_zero, List.set_cons_succ]))
                    | (refine take_unwanted (i := 10) rfl rfl (by kernel_rfl) (by kernel_rfl) (by kernel_rfl) (fun _ _ _ h => h) (by rfl) (by assumption) ?_; (simp only [Act.at, List.setIfInBounds_toArray, List.set_cons_zero, List.set_cons_succ]))
                    first
                    | (refine take_wanted (i := 11) (v := ?_) rfl rfl (by kernel_rfl) (by kernel_rfl) (by kernel_rfl) (fun _ _ _ h => h) (by rfl) (by assumption) ?_ ?_; rotate_left; (focus (intro w hSw; (try dsimp only at hSw); go_simp; first | done | with_reducible rfl)); (simp only [Act.at, List.setIfInBounds_toArray, List.set_cons_zero, List.set_cons_succ]))
                    | (refine take_unwanted (i := 11) rfl rfl (by kernel_rfl) (by kernel_rfl) (by kernel_rfl) (fun _ _ _ h => h) (by rfl) (by assumption) ?_; (simp only [Act.at, List.setIfInBounds_toArray, List.set_cons_zero, List.set_cons_succ]))
                    first
                    | (refine take_wanted (i := 12) (v := ?_) rfl rfl (by kernel_rfl) (by kernel_rfl) (by kernel_rfl) (fun _ _ _ h => h) (by rfl) (by assumption) ?_ ?_; rotate_left; (focus (intro w hSw; (try dsimp only at hSw); go_simp; first | done | with_reducible rfl)); (simp only [Act.at, List.setIfInBounds_toArray, List.set_cons_zero, List.set_cons_succ]))
                    | (refine take_unwanted (i := 12) rfl rfl (by kernel_rfl) (by kernel_rfl) (by kernel_rfl) (fun _ _ _ h => h) (by rfl) (by assumption) ?_; (simp only [Act.at, List.setIfInBounds_toArray, List.set_cons_zero, List.set_cons_succ]))
                    first
                    | (refine take_wanted (i := 13) (v := ?_) rfl rfl (by kernel_rfl) (by kernel_rfl) (by kernel_rfl) (fun _ _ _ h => h) (by rfl) (by assumption) ?_ ?_; rotate_left; (focus (intro w hSw; (try dsimp only at hSw); go_simp; first | done | with_reducible rfl)); (simp only [Act.at, List.setIfInBounds_toArray, List.set_cons_zero, List.set_cons_succ]))
                    | (refine take_unwanted (i := 13) rfl rfl (by kernel_rfl) (by kernel_rfl) (by kernel_rfl) (fun _ _ _ h => h) (by rfl) (by assumption) ?_; (simp only [Act.at, List.setIfInBounds_toArray, List.set_cons_zero, List.set_cons_succ]))
                    first
                    | (refine take_wanted (i := 14) (v := ?_) rfl rfl (by kernel_rfl) (by kernel_rfl) (by kernel_rfl) (fun _ _ _ h => h) (by rfl) (by assumption) ?_ ?_; rotate_left; (focus (intro w hSw; (try dsimp only at hSw); go_simp; first | done | with_reducible rfl)); (simp only [Act.at, List.setIfInBounds_toArray, List.set_cons_zero, List.set_cons_succ]))
                    | (refine take_unwanted (i := 14) rfl rfl (by kernel_rfl) (by kernel_rfl) (by kernel_rfl) (fun _ _ _ h => h) (by rfl) (by assumption) ?_; (simp only [Act.at, List.setIfInBounds_toArray, List.set_cons_zero, List.set_cons_succ]))
                    first
                    | (refine take_wanted (i := 15) (v := ?_) rfl rfl (by kernel_rfl) (by kernel_rfl) (by kernel_rfl) (fun _ _ _ h => h) (by rfl) (by assumption) ?_ ?_; rotate_left; (focus (intro w hSw; (try dsimp only at hSw); go_simp; first | done | with_reducible rfl)); (simp only [Act.at, List.setIfInBounds_toArray, List.set_cons_zero, List.set_cons_succ]))
                    | (refine take_unwanted (i := 15) rfl rfl (by kernel_rfl) (by kernel_rfl) (by kernel_rfl) (fun _ _ _ h => h) (by rfl) (by assumption) ?_; (simp only [Act.at, List.setIfInBounds_toArray, List.set_cons_zero, List.set_cons_succ]))
                    first
                    | (refine take_wanted (i := 16) (v := ?_) rfl rfl (by kernel_rfl) (by kernel_rfl) (by kernel_rfl) (fun _ _ _ h => h) (by rfl) (by assumption) ?_ ?_; rotate_left; (focus (intro w hSw; (try dsimp only at hSw); go_simp; first | done | with_reducible rfl)); (simp only [Act.at, List.setIfInBounds_toArray, List.set_cons_zero, List.set_cons_succ]))
                    | (refine take_unwanted (i := 16) rfl rfl (by kernel_rfl) (by kernel_rfl) (by kernel_rfl) (fun _ _ _ h => h) (by rfl) (by assumption) ?_; (simp only [Act.at, List.setIfInBounds_toArray, List.set_cons_zero, List.set_cons_succ]))
                    first
                    | (refine take_wanted (i := 17) (v := ?_) rfl rfl (by kernel_rfl) (by kernel_rfl) (by kernel_rfl) (fun _ _ _ h => h) (by rfl) (by assumption) ?_ ?_; rotate_left; (focus (intro w hSw; (try dsimp only at hSw); go_simp; first | done | with_reducible rfl)); (simp only [Act.at, List.setIfInBounds_toArray, List.set_cons_zero, List.set_cons_succ]))
                    | (refine take_unwanted (i := 17) rfl rfl (by kernel_rfl) (by kernel_rfl) (by kernel_rfl) (fun _ _ _ h => h) (by rfl) (by assumption) ?_; (simp only [Act.at, List.setIfInBounds_toArray, List.set_cons_zero, List.set_cons_succ]))
                    first
                    | (refine take_wanted (i := 18) (v := ?_) rfl rfl (by kernel_rfl) (by kernel_rfl) (by kernel_rfl) (fun _ _ _ h => h) (by rfl) (by assumption) ?_ ?_; rotate_left; (focus (intro w hSw; (try dsimp only at hSw); go_simp; first | done | with_reducible rfl)); (simp only [Act.at, List.setIfInBounds_toArray, List.set_cons_zero, List.set_cons_succ]))
                    | (refine take_unwanted (i := 18) rfl rfl (by kernel_rfl) (by kernel_rfl) (by kernel_rfl) (fun _ _ _ h => h) (by rfl) (by assumption) ?_; (simp only [Act.at, List.setIfInBounds_toArray, List.set_cons_zero, List.set_cons_succ]))
                    first
                    | (refine take_wanted (i := 19) (v := ?_) rfl rfl (by kernel_rfl) (by kernel_rfl) (by kernel_rfl) (fun _ _ _ h => h) (by rfl) (by assumption) ?_ ?_; rotate_left; (focus (intro w hSw; (try dsimp only at hSw); go_simp; first | done | with_reducible rfl)); (simp only [Act.at, List.setIfInBounds_toArray, List.set_cons_zero, List.set_cons_succ]))
                    | (refine take_unwanted (i := 19) rfl rfl (by kernel_rfl) (by kernel_rfl) (by kernel_rfl) (fun _ _ _ h => h) (by rfl) (by assumption) ?_; (simp only [Act.at, List.setIfInBounds_toArray, List.set_cons_zero, List.set_cons_succ]))
                    first
                    | (refine take_wanted (i := 20) (v := ?_) rfl rfl (by kernel_rfl) (by kernel_rfl) (by kernel_rfl) (fun _ _ _ h => h) (by rfl) (by assumption) ?_ ?_; rotate_left; (focus (intro w hSw; (try dsimp only at hSw); go_simp; first | done | with_reducible rfl)); (simp only [Act.at, List.setIfInBounds_toArray, List.set_cons_zero, List.set_cons_succ]))
                    | (refine take_unwanted (i := 20) rfl rfl (by kernel_rfl) (by kernel_rfl) (by kernel_rfl) (fun _ _ _ h => h) (by rfl) (by assumption) ?_; (simp only [Act.at, List.setIfInBounds_toArray, List.set_cons_zero, List.set_cons_succ]))
                    first
                    | (refine take_wanted (i := 21) (v := ?_) rfl rfl (by kernel_rfl) (by kernel_rfl) (by kernel_rfl) (fun _ _ _ h => h) (by rfl) (by assumption) ?_ ?_; rotate_left; (focus (intro w hSw; (try dsimp only at hSw); go_simp; first | done | with_reducible rfl)); (simp only [Act.at, List.setIfInBounds_toArray, List.set_cons_zero, List.set_cons_succ]))
                    | (refine take_unwanted (i := 21) rfl rfl (by kernel_rfl) (by kernel_rfl) (by kernel_rfl) (fun _ _ _ h => h) (by rfl) (by assumption) ?_; (simp only [Act.at, List.setIfInBounds_toArray, List.set_cons_zero, List.set_cons_succ]))
                    first
                    | (refine take_wanted (i := 22) (v := ?_) rfl rfl (by kernel_rfl) (by kernel_rfl) (by kernel_rfl) (fun _ _ _ h => h) (by rfl) (by assumption) ?_ ?_; rotate_left; (focus (intro w hSw; (try dsimp only at hSw); go_simp; first | done | with_reducible rfl)); (simp only [Act.at, List.setIfInBounds_toArray, List.set_cons_zero, List.set_cons_succ]))
                    | (refine take_unwanted (i := 22) rfl rfl (by kernel_rfl) (by kernel_rfl) (by kernel_rfl) (fun _ _ _ h => h) (by rfl) (by assumption) ?_; (simp only [Act.at, List.setIfInBounds_toArray, List.set_cons_zero, List.set_cons_succ]))
                    first
                    | (refine take_wanted (i := 23) (v := ?_) rfl rfl (by kernel_rfl) (by kernel_rfl) (by kernel_rfl) (fun _ _ _ h => h) (by rfl) (by assumption) ?_ ?_; rotate_left; (focus (intro w hSw; (try dsimp only at hSw); go_simp; first | done | with_reducible rfl)); (simp only [Act.at, List.setIfInBounds_toArray, List.set_cons_zero, List.set_cons_succ]))
                    | (refine take_unwanted (i := 23) rfl rfl (by kernel_rfl) (by kernel_rfl) (by kernel_rfl) (fun _ _ _ h => h) (by rfl) (by assumption) ?_; (simp only [Act.at, List.setIfInBounds_toArray, List.set_cons_zero, List.set_cons_succ]))
                    first
                    | (refine take_wanted (i := 24) (v := ?_) rfl rfl (by kernel_rfl) (by kernel_rfl) (by kernel_rfl) (fun _ _ _ h => h) (by rfl) (by assumption) ?_ ?_; rotate_left; (focus (intro w hSw; (try dsimp only at hSw); go_simp; first | done | with_reducible rfl)); (simp only [Act.at, List.setIfInBounds_toArray, List.set_cons_zero, List.set_cons_succ]))
                    | (refine take_unwanted (i := 24) rfl rfl (by kernel_rfl) (by kernel_rfl) (by kernel_rfl) (fun _ _ _ h => h) (by rfl) (by assumption) ?_; (simp only [Act.at, List.setIfInBounds_toArray, List.set_cons_zero, List.set_cons_succ]))
                    first
                    | (refine take_wanted (i := 25) (v := ?_) rfl rfl (by kernel_rfl) (by kernel_rfl) (by kernel_rfl) (fun _ _ _ h => h) (by rfl) (by assumption) ?_ ?_; rotate_left; (focus (intro w hSw; (try dsimp only at hSw); go_simp; first | done | with_reducible rfl)); (simp only [Act.at, List.setIfInBounds_toArray, List.set_cons_zero, List.set_cons_succ]))
                    | (refine take_unwanted (i := 25) rfl rfl (by kernel_rfl) (by kernel_rfl) (by kernel_rfl) (fun _ _ _ h => h) (by rfl) (by assumption) ?_; (simp only [Act.at, List.setIfInBounds_toArray, List.set_cons_zero, List.set_cons_succ]))
                    first
                    | (refine take_wanted (i := 26) (v := ?_) rfl rfl (by kernel_rfl) (by kernel_rfl) (by kernel_rfl) (fun _ _ _ h => h) (by rfl) (by assumption) ?_ ?_; rotate_left; (focus (intro w hSw; (try dsimp only at hSw); go_simp; first | done | with_reducible rfl)); (simp only [Act.at, List.setIfInBounds_toArray, List.set_cons_zero, List.set_cons_succ]))
                    | (refine take_unwanted (i := 26) rfl rfl (by kernel_rfl) (by kernel_rfl) (by kernel_rfl) (fun _ _ _ h => h) (by rfl) (by assumption) ?_; (simp only [Act.at, List.setIfInBounds_toArray, List.set_cons_zero, List.set_cons_succ]))
                    first
                    | (refine take_wanted (i := 27) (v := ?_) rfl rfl (by kernel_rfl) (by kernel_rfl) (by kernel_rfl) (fun _ _ _ h => h) (by rfl) (by assumption) ?_ ?_; rotate_left; (focus (intro w hSw; (try dsimp only at hSw); go_simp; first | done | with_reducible rfl)); (simp only [Act.at, List.setIfInBounds_toArray, List.set_cons_zero, List.set_cons_succ]))
                    | (refine take_unwanted (i := 27) rfl rfl (by kernel_rfl) (by kernel_rfl) (by kernel_rfl) (fun _ _ _ h => h) (by rfl) (by assumption) ?_; (simp only [Act.at, List.setIfInBounds_toArray, List.set_cons_zero, List.set_cons_succ]))
                    first
                    | (refine take_wanted (i := 28) (v := ?_) rfl rfl (by kernel_rfl) (by kernel_rfl) (by kernel_rfl) (fun _ _ _ h => h) (by rfl) (by assumption) ?_ ?_; rotate_left; (focus (intro w hSw; (try dsimp only at hSw); go_simp; first | done | with_reducible rfl)); (simp only [Act.at, List.setIfInBounds_toArray, List.set_cons_zero, List.set_cons_succ]))
                    | (refine take_unwanted (i := 28) rfl rfl (by kernel_rfl) (by kernel_rfl) (by kernel_rfl) (fun _ _ _ h => h) (by rfl) (by assumption) ?_; (simp only [Act.at, List.setIfInBounds_toArray, List.set_cons_zero, List.set_cons_succ]))
                    first
                    | (refine take_wanted (i := 29) (v := ?_) rfl rfl (by kernel_rfl) (by kernel_rfl) (by kernel_rfl) (fun _ _ _ h => h) (by rfl) (by assumption) ?_ ?_; rotate_left; (focus (intro w hSw; (try dsimp only at hSw); go_simp; first | done | with_reducible rfl)); (simp only [Act.at, List.setIfInBounds_toArray, List.set_cons_zero, List.set_cons_succ]))
                    | (refine take_unwanted (i := 29) rfl rfl (by kernel_rfl) (by kernel_rfl) (by kernel_rfl) (fun _ _ _ h => h) (by rfl) (by assumption) ?_; (simp only [Act.at, List.setIfInBounds_toArray, List.set_cons_zero, List.set_cons_succ]))
                    first
                    | (refine take_wanted (i := 30) (v := ?_) rfl rfl (by kernel_rfl) (by kernel_rfl) (by kernel_rfl) (fun _ _ _ h => h) (by rfl) (by assumption) ?_ ?_; rotate_left; (focus (intro w hSw; (try dsimp only at hSw); go_simp; first | done | with_reducible rfl)); (simp only [Act.at, List.setIfInBounds_toArray, List.set_cons_zero, List.set_cons_succ]))
                    | (refine take_unwanted (i := 30) rfl rfl (by kernel_rfl) (by kernel_rfl) (by kernel_rfl) (fun _ _ _ h => h) (by rfl) (by assumption) ?_; (simp only [Act.at, List.setIfInBounds_toArray, List.set_cons_zero, List.set_cons_succ]))
                    first
                    | (refine take_wanted (i := 31) (v := ?_) rfl rfl (by kernel_rfl) (by kernel_rfl) (by kernel_rfl) (fun _ _ _ h => h) (by rfl) (by assumption) ?_ ?_; rotate_left; (focus (intro w hSw; (try dsimp only at hSw); go_simp; first | done | with_reducible rfl)); (simp only [Act.at, List.setIfInBounds_toArray, List.set_cons_zero, List.set_cons_succ]))
                    | (refine take_unwanted (i := 31) rfl rfl (by kernel_rfl) (by kernel_rfl) (by kernel_rfl) (fun _ _ _ h => h) (by rfl) (by assumption) ?_; (simp only [Act.at, List.setIfInBounds_toArray, List.set_cons_zero, List.set_cons_succ]))
                    first
                    | (refine take_wanted (i := 32) (v := ?_) rfl rfl (by kernel_rfl) (by kernel_rfl) (by kernel_rfl) (fun _ _ _ h => h) (by rfl) (by assumption) ?_ ?_; rotate_left; (focus (intro w hSw; (try dsimp only at hSw); go_simp; first | done | with_reducible rfl)); (simp only [Act.at, List.setIfInBounds_toArray, List.set_cons_zero, List.set_cons_succ]))
                    | (refine take_unwanted (i := 32) rfl rfl (by kernel_rfl) (by kernel_rfl) (by kernel_rfl) (fun _ _ _ h => h) (by rfl) (by assumption) ?_; (simp only [Act.at, List.setIfInBounds_toArray, List.set_cons_zero, List.set_cons_succ]))
                    first
                    | (refine take_wanted (i := 33) (v := ?_) rfl rfl (by kernel_rfl) (by kernel_rfl) (by kernel_rfl) (fun _ _ _ h => h) (by rfl) (by assumption) ?_ ?_; rotate_left; (focus (intro w hSw; (try dsimp only at hSw); go_simp; first | done | with_reducible rfl)); (simp only [Act.at, List.setIfInBounds_toArray, List.set_cons_zero, List.set_cons_succ]))
                    | (refine take_unwanted (i := 33) rfl rfl (by kernel_rfl) (by kernel_rfl) (by kernel_rfl) (fun _ _ _ h => h) (by rfl) (by assumption) ?_; (simp only [Act.at, List.setIfInBounds_toArray, List.set_cons_zero, List.set_cons_succ]))
                    first
                    | (refine take_wanted (i := 34) (v := ?_) rfl rfl (by kernel_rfl) (by kernel_rfl) (by kernel_rfl) (fun _ _ _ h => h) (by rfl) (by assumption) ?_ ?_; rotate_left; (focus (intro w hSw; (try dsimp only at hSw); go_simp; first | done | with_reducible rfl)); (simp only [Act.at, List.setIfInBounds_toArray, List.set_cons_zero, List.set_cons_succ]))
                    | (refine take_unwanted (i := 34) rfl rfl (by kernel_rfl) (by kernel_rfl) (by kernel_rfl) (fun _ _ _ h => h) (by rfl) (by assumption) ?_; (simp only [Act.at, List.setIfInBounds_toArray, List.set_cons_zero, List.set_cons_succ]))
                    first
                    | (refine take_wanted (i := 35) (v := ?_) rfl rfl (by kernel_rfl) (by kernel_rfl) (by kernel_rfl) (fun _ _ _ h => h) (by rfl) (by assumption) ?_ ?_; rotate_left; (focus (intro w hSw; (try dsimp only at hSw); go_simp; first | done | with_reducible rfl)); (simp only [Act.at, List.setIfInBounds_toArray, List.set_cons_zero, List.set_cons_succ]))
                    | (refine take_unwanted (i := 35) rfl rfl (by kernel_rfl) (by kernel_rfl) (by kernel_rfl) (fun _ _ _ h => h) (by rfl) (by assumption) ?_; (simp only [Act.at, List.setIfInBounds_toArray, List.set_cons_zero, List.set_cons_succ]))
                    first
                    | (refine take_wanted (i := 36) (v := ?_) rfl rfl (by kernel_rfl) (by kernel_rfl) (by kernel_rfl) (fun _ _ _ h => h) (by rfl) (by assumption) ?_ ?_; rotate_left; (focus (intro w hSw; (try dsimp only at hSw); go_simp; first | done | with_reducible rfl)); (simp only [Act.at, List.setIfInBounds_toArray, List.set_cons_zero, List.set_cons_succ]))
                    | (refine take_unwanted (i := 36) rfl rfl (by kernel_rfl) (by kernel_rfl) (by kernel_rfl) (fun _ _ _ h => h) (by rfl) (by assumption) ?_; (simp only [Act.at, List.setIfInBounds_toArray, List.set_cons_zero, List.set_cons_succ]))
                    first
                    | (refine take_wanted (i := 37) (v := ?_) rfl rfl (by kernel_rfl) (by kernel_rfl) (by kernel_rfl) (fun _ _ _ h => h) (by rfl) (by assumption) ?_ ?_; rotate_left; (focus (intro w hSw; (try dsimp only at hSw); go_simp; first | done | with_reducible rfl)); (simp only [Act.at, List.setIfInBounds_toArray, List.set_cons_zero, List.set_cons_succ]))
                    | (refine take_unwanted (i := 37) rfl rfl (by kernel_rfl) (by kernel_rfl) (by kernel_rfl) (fun _ _ _ h => h) (by rfl) (by assumption) ?_; (simp only [Act.at, List.setIfInBounds_toArray, List.set_cons_zero, List.set_cons_succ]))
                    first
                    | (refine take_wanted (i := 38) (v := ?_) rfl rfl (by kernel_rfl) (by kernel_rfl) (by kernel_rfl) (fun _ _ _ h => h) (by rfl) (by assumption) ?_ ?_; rotate_left; (focus (intro w hSw; (try dsimp only at hSw); go_simp; first | done | with_reducible rfl)); (simp only [Act.at, List.setIfInBounds_toArray, List.set_cons_zero, List.set_cons_succ]))
                    | (refine take_unwanted (i := 38) rfl rfl (by kernel_rfl) (by kernel_rfl) (by kernel_rfl) (fun _ _ _ h => h) (by rfl) (by assumption) ?_; (simp only [Act.at, List.setIfInBounds_toArray, List.set_cons_zero, List.set_cons_succ]))
                    first
                    | (refine take_wanted (i := 39) (v := ?_) rfl rfl (by kernel_rfl) (by kernel_rfl) (by kernel_rfl) (fun _ _ _ h => h) (by rfl) (by assumption) ?_ ?_; rotate_left; (focus (intro w hSw; (try dsimp only at hSw); go_simp; first | done | with_reducible rfl)); (simp only [Act.at, List.setIfInBounds_toArray, List.set_cons_zero, List.set_cons_succ]))
                    | (refine take_unwanted (i := 39) rfl rfl (by kernel_rfl) (by kernel_rfl) (by kernel_rfl) (fun _ _ _ h => h) (by rfl) (by assumption) ?_; (simp only [Act.at, List.setIfInBounds_toArray, List.set_cons_zero, List.set_cons_succ]))
                    first
                    | (refine take_wanted (i := 40) (v := ?_) rfl rfl (by kernel_rfl) (by kernel_rfl) (by kernel_rfl) (fun _ _ _ h => h) (by rfl) (by assumption) ?_ ?_; rotate_left; (focus (intro w hSw; (try dsimp only at hSw); go_simp; first | done | with_reducible rfl)); (simp only [Act.at, List.setIfInBounds_toArray, List.set_cons_zero, List.set_cons_succ]))
                    | (refine take_unwanted (i := 40) rfl rfl (by kernel_rfl) (by kernel_rfl) (by kernel_rfl) (fun _ _ _ h => h) (by rfl) (by assumption) ?_; (simp only [Act.at, List.setIfInBounds_toArray, List.set_cons_zero, List.set_cons_succ]))
                    first
                    | (refine take_wanted (i := 41) (v := ?_) rfl rfl (by kernel_rfl) (by kernel_rfl) (by kernel_rfl) (fun _ _ _ h => h) (by rfl) (by assumption) ?_ ?_; rotate_left; (focus (intro w hSw; (try dsimp only at hSw); go_simp; first | done | with_reducible rfl)); (simp only [Act.at, List.setIfInBounds_toArray, List.set_cons_zero, List.set_cons_succ]))
                    | (refine take_unwanted (i := 41) rfl rfl (by kernel_rfl) (by kernel_rfl) (by kernel_rfl) (fun _ _ _ h => h) (by rfl) (by assumption) ?_; (simp only [Act.at, List.setIfInBounds_toArray, List.set_cons_zero, List.set_cons_succ]))
                    first
                    | (refine take_wanted (i := 42) (v := ?_) rfl rfl (by kernel_rfl) (by kernel_rfl) (by kernel_rfl) (fun _ _ _ h => h) (by rfl) (by assumption) ?_ ?_; rotate_left; (focus (intro w hSw; (try dsimp only at hSw); go_simp; first | done | with_reducible rfl)); (simp only [Act.at, List.setIfInBounds_toArray, List.set_cons_zero, List.set_cons_succ]))
                    | (refine take_unwanted (i := 42) rfl rfl (by kernel_rfl) (by kernel_rfl) (by kernel_rfl) (fun _ _ _ h => h) (by rfl) (by assumption) ?_; (simp only [Act.at, List.setIfInBounds_toArray, List.set_cons_zero, List.set_cons_succ]))
                    first
                    | (refine take_wanted (i := 43) (v := ?_) rfl rfl (by kernel_rfl) (by kernel_rfl) (by kernel_rfl) (fun _ _ _ h => h) (by rfl) (by assumption) ?_ ?_; rotate_left; (focus (intro w hSw; (try dsimp only at hSw); go_simp; first | done | with_reducible rfl)); (simp only [Act.at, List.setIfInBounds_toArray, List.set_cons_zero, List.set_cons_succ]))
                    | (refine take_unwanted (i := 43) rfl rfl (by kernel_rfl) (by kernel_rfl) (by kernel_rfl) (fun _ _ _ h => h) (by rfl) (by assumption) ?_; (simp only [Act.at, List.setIfInBounds_toArray, List.set_cons_zero, List.set_cons_succ]))
                    first
                    | (refine take_wanted (i := 44) (v := ?_) rfl rfl (by kernel_rfl) (by kernel_rfl) (by kernel_rfl) (fun _ _ _ h => h) (by rfl) (by assumption) ?_ ?_; rotate_left; (focus (intro w hSw; (try dsimp only at hSw); go_simp; first | done | with_reducible rfl)); (simp only [Act.at, List.setIfInBounds_toArray, List.set_cons_zero, List.set_cons_succ]))
                    | (refine take_unwanted (i := 44) rfl rfl (by kernel_rfl) (by kernel_rfl) (by kernel_rfl) (fun _ _ _ h => h) (by rfl) (by assumption) ?_; (simp only [Act.at, List.setIfInBounds_toArray, List.set_cons_zero, List.set_cons_succ]))
                    refine wpAnyH_done (by kernel_rfl) ?_ _
                    go_wp2_with fail
                    go_meet
                    exact ⟨rfl, HBD⟩
                  | true =>
                    obtain rfl : te = true := u3 rfl
                    clear u3
                    refine wp_region_held_drew (S := PlS b1 b2 bs bt os (os + j * 4) oq (oq + j * 4) L.length xca yca tn tp true true) (by kernel_rfl) hS (fun hHeld => ?_)
                    generalize wr.drew = wd at hS hHeld HBD ⊢
                    first
                    | (refine take_wanted (i := 0) (v := ?_) rfl rfl (by kernel_rfl) (by kernel_rfl) (by kernel_rfl) (fun _ _ _ h => h) (by rfl) (by assumption) ?_ ?_; rotate_left; (focus (intro w hSw; (try dsimp only at hSw); go_simp; first | done | with_reducible rfl)); (simp only [Act.at, List.setIfInBounds_toArray, List.set_cons_zero, List.set_cons_succ]))
                    | (refine take_unwanted (i := 0) rfl rfl (by kernel_rfl) (by kernel_rfl) (by kernel_rfl) (fun _ _ _ h => h) (by rfl) (by assumption) ?_; (simp only [Act.at, List.setIfInBounds_toArray, List.set_cons_zero, List.set_cons_succ]))
                    first
                    | (refine take_wanted (i := 1) (v := ?_) rfl rfl (by kernel_rfl) (by kernel_rfl) (by kernel_rfl) (fun _ _ _ h => h) (by rfl) (by assumption) ?_ ?_; rotate_left; (focus (intro w hSw; (try dsimp only at hSw); go_simp; first | done | with_reducible rfl)); (simp only [Act.at, List.setIfInBounds_toArray, List.set_cons_zero, List.set_cons_succ]))
                    | (refine take_unwanted (i := 1) rfl rfl (by kernel_rfl) (by kernel_rfl) (by kernel_rfl) (fun _ _ _ h => h) (by rfl) (by assumption) ?_; (simp only [Act.at, List.setIfInBounds_toArray, List.set_cons_zero, List.set_cons_succ]))
                    first
                    | (refine take_wanted (i := 2) (v := ?_) rfl rfl (by kernel_rfl) (by kernel_rfl) (by kernel_rfl) (fun _ _ _ h => h) (by rfl) (by assumption) ?_ ?_; rotate_left; (focus (intro w hSw; (try dsimp only at hSw); go_simp; first | done | with_reducible rfl)); (simp only [Act.at, List.setIfInBounds_toArray, List.set_cons_zero, List.set_cons_succ]))
                    | (refine take_unwanted (i := 2) rfl rfl (by kernel_rfl) (by kernel_rfl) (by kernel_rfl) (fun _ _ _ h => h) (by rfl) (by assumption) ?_; (simp only [Act.at, List.setIfInBounds_toArray, List.set_cons_zero, List.set_cons_succ]))
                    first
                    | (refine take_wanted (i := 3) (v := ?_) rfl rfl (by kernel_rfl) (by kernel_rfl) (by kernel_rfl) (fun _ _ _ h => h) (by rfl) (by assumption) ?_ ?_; rotate_left; (focus (intro w hSw; (try dsimp only at hSw); go_simp; first | done | with_reducible rfl)); (simp only [Act.at, List.setIfInBounds_toArray, List.set_cons_zero, List.set_cons_succ]))
                    | (refine take_unwanted (i := 3) rfl rfl (by kernel_rfl) (by kernel_rfl) (by kernel_rfl) (fun _ _ _ h => h) (by rfl) (by assumption) ?_; (simp only [Act.at, List.setIfInBounds_toArray, List.set_cons_zero, List.set_cons_succ]))
                    first
                    | (refine take_wanted (i := 4) (v := ?_) rfl rfl (by kernel_rfl) (by kernel_rfl) (by kernel_rfl) (fun _ _ _ h => h) (by rfl) (by assumption) ?_ ?_; rotate_left; (focus (intro w hSw; (try dsimp only at hSw); go_simp; first | done | with_reducible rfl)); (simp only [Act.at, List.setIfInBounds_toArray, List.set_cons_zero, List.set_cons_succ]))
                    | (refine take_unwanted (i := 4) rfl rfl (by kernel_rfl) (by kernel_rfl) (by kernel_rfl) (fun _ _ _ h => h) (by rfl) (by assumption) ?_; (simp only [Act.at, List.setIfInBounds_toArray, List.set_cons_zero, List.set_cons_succ]))
                    first
                    | (refine take_wanted (i := 5) (v := ?_) rfl rfl (by kernel_rfl) (by kernel_rfl) (by kernel_rfl) (fun _ _ _ h => h) (by rfl) (by assumption) ?_ ?_; rotate_left; (focus (intro w hSw; (try dsimp only at hSw); go_simp; first | done | with_reducible rfl)); (simp only [Act.at, List.setIfInBounds_toArray, List.set_cons_zero, List.set_cons_succ]))
                    | (refine take_unwanted (i := 5) rfl rfl (by kernel_rfl) (by kernel_rfl) (by kernel_rfl) (fun _ _ _ h => h) (by rfl) (by assumption) ?_; (simp only [Act.at, List.setIfInBounds_toArray, List.set_cons_zero, List.set_cons_succ]))
                    first
                    | (refine take_wanted (i := 6) (v := ?_) rfl rfl (by kernel_rfl) (by kernel_rfl) (by kernel_rfl) (fun _ _ _ h => h) (by rfl) (by assumption) ?_ ?_; rotate_left; (focus (intro w hSw; (try dsimp only at hSw); go_simp; first | done | with_reducible rfl)); (simp only [Act.at, List.setIfInBounds_toArray, List.set_cons_zero, List.set_cons_succ]))
                    | (refine take_unwanted (i := 6) rfl rfl (by kernel_rfl) (by kernel_rfl) (by kernel_rfl) (fun _ _ _ h => h) (by rfl) (by assumption) ?_; (simp only [Act.at, List.setIfInBounds_toArray, List.set_cons_zero, List.set_cons_succ]))
                    first
                    | (refine take_wanted (i := 7) (v := ?_) rfl rfl (by kernel_rfl) (by kernel_rfl) (by kernel_rfl) (fun _ _ _ h => h) (by rfl) (by assumption) ?_ ?_; rotate_left; (focus (intro w hSw; (try dsimp only at hSw); go_simp; first | done | with_reducible rfl)); (simp only [Act.at, List.setIfInBounds_toArray, List.set_cons_zero, List.set_cons_succ]))
                    | (refine take_unwanted (i := 7) rfl rfl (by kernel_rfl) (by kernel_rfl) (by kernel_rfl) (fun _ _ _ h => h) (by rfl) (by assumption) ?_; (simp only [Act.at, List.setIfInBounds_toArray, List.set_cons_zero, List.set_cons_succ]))
                    first
                    | (refine take_wanted (i := 8) (v := ?_) rfl rfl (by kernel_rfl) (by kernel_rfl) (by kernel_rfl) (fun _ _ _ h => h) (by rfl) (by assumption) ?_ ?_; rotate_left; (focus (intro w hSw; (try dsimp only at hSw); go_simp; first | done | with_reducible rfl)); (simp only [Act.at, List.setIfInBounds_toArray, List.set_cons_zero, List.set_cons_succ]))
                    | (refine take_unwanted (i := 8) rfl rfl (by kernel_rfl) (by kernel_rfl) (by kernel_rfl) (fun _ _ _ h => h) (by rfl) (by assumption) ?_; (simp only [Act.at, List.setIfInBounds_toArray, List.set_cons_zero, List.set_cons_succ]))
                    first
                    | (refine take_wanted (i := 9) (v := ?_) rfl rfl (by kernel_rfl) (by kernel_rfl) (by kernel_rfl) (fun _ _ _ h => h) (by rfl) (by assumption) ?_ ?_; rotate_left; (focus (intro w hSw; (try dsimp only at hSw); go_simp; first | done | with_reducible rfl)); (simp only [Act.at, List.setIfInBounds_toArray, List.set_cons_zero, List.set_cons_succ]))
                    | (refine take_unwanted (i := 9) rfl rfl (by kernel_rfl) (by kernel_rfl) (by kernel_rfl) (fun _ _ _ h => h) (by rfl) (by assumption) ?_; (simp only [Act.at, List.setIfInBounds_toArray, List.set_cons_zero, List.set_cons_succ]))
                    first
                    | (refine take_wanted (i := 10) (v := ?_) rfl rfl (by kernel_rfl) (by kernel_rfl) (by kernel_rfl) (fun _ _ _ h => h) (by rfl) (by assumption) ?_ ?_; rotate_left; (focus (intro w hSw; (try dsimp only at hSw); go_simp; first | done | with_reducible rfl)); (simp only [Act.at, List.setIfInBounds_toArray, List.set_cons_zero, List.set_cons_succ]))
                    | (refine take_unwanted (i := 10) rfl rfl (by kernel_rfl) (by kernel_rfl) (by kernel_rfl) (fun _ _ _ h => h) (by rfl) (by assumption) ?_; (simp only [Act.at, List.setIfInBounds_toArray, List.set_cons_zero, List.set_cons_succ]))
                    first
                    | (refine take_wanted (i := 11) (v := ?_) rfl rfl (by kernel_rfl) (by kernel_rfl) (by kernel_rfl) (fun _ _ _ h => h) (by rfl) (by assumption) ?_ ?_; rotate_left; (focus (intro w hSw; (try dsimp only at hSw); go_simp; first | done | with_reducible rfl)); (simp only [Act.at, List.setIfInBounds_toArray, List.set_cons_zero, List.set_cons_succ]))
                    | (refine take_unwanted (i := 11) rfl rfl (by kernel_rfl) (by kernel_rfl) (by kernel_rfl) (fun _ _ _ h => h) (by rfl) (by assumption) ?_; (simp only [Act.at, List.setIfInBounds_toArray, List.set_cons_zero, List.set_cons_succ]))
                    first
                    | (refine take_wanted (i := 12) (v := ?_) rfl rfl (by kernel_rfl) (by kernel_rfl) (by kernel_rfl) (fun _ _ _ h => h) (by rfl) (by assumption) ?_ ?_; rotate_left; (focus (intro w hSw; (try dsimp only at hSw); go_simp; first | done | with_reducible rfl)); (simp only [Act.at, List.setIfInBounds_toArray, List.set_cons_zero, List.set_cons_succ]))
                    | (refine take_unwanted (i := 12) rfl rfl (by kernel_rfl) (by kernel_rfl) (by kernel_rfl) (fun _ _ _ h => h) (by rfl) (by assumption) ?_; (simp only [Act.at, List.setIfInBounds_toArray, List.set_cons_zero, List.set_cons_succ]))
                    first
                    | (refine take_wanted (i := 13) (v := ?_) rfl rfl (by kernel_rfl) (by kernel_rfl) (by kernel_rfl) (fun _ _ _ h => h) (by rfl) (by assumption) ?_ ?_; rotate_left; (focus (intro w hSw; (try dsimp only at hSw); go_simp; first | done | with_reducible rfl)); (simp only [Act.at, List.setIfInBounds_toArray, List.set_cons_zero, List.set_cons_succ]))
                    | (refine take_unwanted (i := 13) rfl rfl (by kernel_rfl) (by kernel_rfl) (by kernel_rfl) (fun _ _ _ h => h) (by rfl) (by assumption) ?_; (simp only [Act.at, List.setIfInBounds_toArray, List.set_cons_zero, List.set_cons_succ]))
                    first
                    | (refine take_wanted (i := 14) (v := ?_) rfl rfl (by kernel_rfl) (by kernel_rfl) (by kernel_rfl) (fun _ _ _ h => h) (by rfl) (by assumption) ?_ ?_; rotate_left; (focus (intro w hSw; (try dsimp only at hSw); go_simp; first | done | with_reducible rfl)); (simp only [Act.at, List.setIfInBounds_toArray, List.set_cons_zero, List.set_cons_succ]))
                    | (refine take_unwanted (i := 14) rfl rfl (by kernel_rfl) (by kernel_rfl) (by kernel_rfl) (fun _ _ _ h => h) (by rfl) (by assumption) ?_; (simp only [Act.at, List.setIfInBounds_toArray, List.set_cons_zero, List.set_cons_succ]))
                    first
                    | (refine take_wanted (i := 15) (v := ?_) rfl rfl (by kernel_rfl) (by kernel_rfl) (by kernel_rfl) (fun _ _ _ h => h) (by rfl) (by assumption) ?_ ?_; rotate_left; (focus (intro w hSw; (try dsimp only at hSw); go_simp; first | done | with_reducible rfl)); (simp only [Act.at, List.setIfInBounds_toArray, List.set_cons_zero, List.set_cons_succ]))
                    | (refine take_unwanted (i := 15) rfl rfl (by kernel_rfl) (by kernel_rfl) (by kernel_rfl) (fun _ _ _ h => h) (by rfl) (by assumption) ?_; (simp only [Act.at, List.setIfInBounds_toArray, List.set_cons_zero, List.set_cons_succ]))
                    first
                    | (refine take_wanted (i := 16) (v := ?_) rfl rfl (by kernel_rfl) (by kernel_rfl) (by kernel_rfl) (fun _ _ _ h => h) (by rfl) (by assumption) ?_ ?_; rotate_left; (focus (intro w hSw; (try dsimp only at hSw); go_simp; first | done | with_reducible rfl)); (simp only [Act.at, List.setIfInBounds_toArray, List.set_cons_zero, List.set_cons_succ]))
                    | (refine take_unwanted (i := 16) rfl rfl (by kernel_rfl) (by kernel_rfl) (by kernel_rfl) (fun _ _ _ h => h) (by rfl) (by assumption) ?_; (simp only [Act.at, List.setIfInBounds_toArray, List.set_cons_zero, List.set_cons_succ]))
                    first
                    | (refine take_wanted (i := 17) (v := ?_) rfl rfl (by kernel_rfl) (by kernel_rfl) (by kernel_rfl) (fun _ _ _ h => h) (by rfl) (by assumption) ?_ ?_; rotate_left; (focus (intro w hSw; (try dsimp only at hSw); go_simp; first | done | with_reducible rfl)); (simp only [Act.at, List.setIfInBounds_toArray, List.set_cons_zero, List.set_cons_succ]))
                    | (refine take_unwanted (i := 17) rfl rfl (by kernel_rfl) (by kernel_rfl) (by kernel_rfl) (fun _ _ _ h => h) (by rfl) (by assumption) ?_; (simp only [Act.at, List.setIfInBounds_toArray, List.set_cons_zero, List.set_cons_succ]))
                    first
                    | (refine take_wanted (i := 18) (v := ?_) rfl rfl (by kernel_rfl) (by kernel_rfl) (by kernel_rfl) (fun _ _ _ h => h) (by rfl) (by assumption) ?_ ?_; rotate_left; (focus (intro w hSw; (try dsimp only at hSw); go_simp; first | done | with_reducible rfl)); (simp only [Act.at, List.setIfInBounds_toArray, List.set_cons_zero, List.set_cons_succ]))
                    | (refine take_unwanted (i := 18) rfl rfl (by kernel_rfl) (by kernel_rfl) (by kernel_rfl) (fun _ _ _ h => h) (by rfl) (by assumption) ?_; (simp only [Act.at, List.setIfInBounds_toArray, List.set_cons_zero, List.set_cons_succ]))
                    first
                    | (refine take_wanted (i := 19) (v := ?_) rfl rfl (by kernel_rfl) (by kernel_rfl) (by kernel_rfl) (fun _ _ _ h => h) (by rfl) (by assumption) ?_ ?_; rotate_left; (focus (intro w hSw; (try dsimp only at hSw); go_simp; first | done | with_reducible rfl)); (simp only [Act.at, List.setIfInBounds_toArray, List.set_cons_zero, List.set_cons_succ]))
                    | (refine take_unwanted (i := 19) rfl rfl (by kernel_rfl) (by kernel_rfl) (by kernel_rfl) (fun _ _ _ h => h) (by rfl) (by assumption) ?_; (simp only [Act.at, List.setIfInBounds_toArray, List.set_cons_zero, List.set_cons_succ]))
                    first
                    | (refine take_wanted (i := 20) (v := ?_) rfl rfl (by kernel_rfl) (by kernel_rfl) (by kernel_rfl) (fun _ _ _ h => h) (by rfl) (by assumption) ?_ ?_; rotate_left; (focus (intro w hSw; (try dsimp only at hSw); go_simp; first | done | with_reducible rfl)); (simp only [Act.at, List.setIfInBounds_toArray, List.set_cons_zero, List.set_cons_succ]))
                    | (refine take_unwanted (i := 20) rfl rfl (by kernel_rfl) (by kernel_rfl) (by kernel_rfl) (fun _ _ _ h => h) (by rfl) (by assumption) ?_; (simp only [Act.at, List.setIfInBounds_toArray, List.set_cons_zero, List.set_cons_succ]))
                    first
                    | (refine take_wanted (i := 21) (v := ?_) rfl rfl (by kernel_rfl) (by kernel_rfl) (by kernel_rfl) (fun _ _ _ h => h) (by rfl) (by assumption) ?_ ?_; rotate_left; (focus (intro w hSw; (try dsimp only at hSw); go_simp; first | done | with_reducible rfl)); (simp only [Act.at, List.setIfInBounds_toArray, List.set_cons_zero, List.set_cons_succ]))
                    | (refine take_unwanted (i := 21) rfl rfl (by kernel_rfl) (by kernel_rfl) (by kernel_rfl) (fun _ _ _ h => h) (by rfl) (by assumption) ?_; (simp only [Act.at, List.setIfInBounds_toArray, List.set_cons_zero, List.set_cons_succ]))
                    first
                    | (refine take_wanted (i := 22) (v := ?_) rfl rfl (by kernel_rfl) (by kernel_rfl) (by kernel_rfl) (fun _ _ _ h => h) (by rfl) (by assumption) ?_ ?_; rotate_left; (focus (intro w hSw; (try dsimp only at hSw); go_simp; first | done | with_reducible rfl)); (simp only [Act.at, List.setIfInBounds_toArray, List.set_cons_zero, List.set_cons_succ]))
                    | (refine take_unwanted (i := 22) rfl rfl (by kernel_rfl) (by kernel_rfl) (by kernel_rfl) (fun _ _ _ h => h) (by rfl) (by assumption) ?_; (simp only [Act.at, List.setIfInBounds_toArray, List.set_cons_zero, List.set_cons_succ]))
                    first
                    | (refine take_wanted (i := 23) (v := ?_) rfl rfl (by kernel_rfl) (by kernel_rfl) (by kernel_rfl) (fun _ _ _ h => h) (by rfl) (by assumption) ?_ ?_; rotate_left; (focus (intro w hSw; (try dsimp only at hSw); go_simp; first | done | with_reducible rfl)); (simp only [Act.at, List.setIfInBounds_toArray, List.set_cons_zero, List.set_cons_succ]))
                    | (refine take_unwanted (i := 23) rfl rfl (by kernel_rfl) (by kernel_rfl) (by kernel_rfl) (fun _ _ _ h => h) (by rfl) (by assumption) ?_; (simp only [Act.at, List.setIfInBounds_toArray, List.set_cons_zero, List.set_cons_succ]))
                    first
                    | (refine take_wanted (i := 24) (v := ?_) rfl rfl (by kernel_rfl) (by kernel_rfl) (by kernel_rfl) (fun _ _ _ h => h) (by rfl) (by assumption) ?_ ?_; rotate_left; (focus (intro w hSw; (try dsimp only at hSw); go_simp; first | done | with_reducible rfl)); (simp only [Act.at, List.setIfInBounds_toArray, List.set_cons_zero, List.set_cons_succ]))
                    | (refine take_unwanted (i := 24) rfl rfl (by kernel_rfl) (by kernel_rfl) (by kernel_rfl) (fun _ _ _ h => h) (by rfl) (by assumption) ?_; (simp only [Act.at, List.setIfInBounds_toArray, List.set_cons_zero, List.set_cons_succ]))
                    first
                    | (refine take_wanted (i := 25) (v := ?_) rfl rfl (by kernel_rfl) (by kernel_rfl) (by kernel_rfl) (fun _ _ _ h => h) (by rfl) (by assumption) ?_ ?_; rotate_left; (focus (intro w hSw; (try dsimp only at hSw); go_simp; first | done | with_reducible rfl)); (simp only [Act.at, List.setIfInBounds_toArray, List.set_cons_zero, List.set_cons_succ]))
                    | (refine take_unwanted (i := 25) rfl rfl (by kernel_rfl) (by kernel_rfl) (by kernel_rfl) (fun _ _ _ h => h) (by rfl) (by assumption) ?_; (simp only [Act.at, List.setIfInBounds_toArray, List.set_cons_zero, List.set_cons_succ]))
                    first
                    | (refine take_wanted (i := 26) (v := ?_) rfl rfl (by kernel_rfl) (by kernel_rfl) (by kernel_rfl) (fun _ _ _ h => h) (by rfl) (by assumption) ?_ ?_; rotate_left; (focus (intro w hSw; (try dsimp only at hSw); go_simp; first | done | with_reducible rfl)); (simp only [Act.at, List.setIfInBounds_toArray, List.set_cons_zero, List.set_cons_succ]))
                    | (refine take_unwanted (i := 26) rfl rfl (by kernel_rfl) (by kernel_rfl) (by kernel_rfl) (fun _ _ _ h => h) (by rfl) (by assumption) ?_; (simp only [Act.at, List.setIfInBounds_toArray, List.set_cons_zero, List.set_cons_succ]))
                    first
                    | (refine take_wanted (i := 27) (v := ?_) rfl rfl (by kernel_rfl) (by kernel_rfl) (by kernel_rfl) (fun _ _ _ h => h) (by rfl) (by assumption) ?_ ?_; rotate_left; (focus (intro w hSw; (try dsimp only at hSw); go_simp; first | done | with_reducible rfl)); (simp only [Act.at, List.setIfInBounds_toArray, List.set_cons_zero, List.set_cons_succ]))
                    | (refine take_unwanted (i := 27) rfl rfl (by kernel_rfl) (by kernel_rfl) (by kernel_rfl) (fun _ _ _ h => h) (by rfl) (by assumption) ?_; (simp only [Act.at, List.setIfInBounds_toArray, List.set_cons_zero, List.set_cons_succ]))
                    first
                    | (refine take_wanted (i := 28) (v := ?_) rfl rfl (by kernel_rfl) (by kernel_rfl) (by kernel_rfl) (fun _ _ _ h => h) (by rfl) (by assumption) ?_ ?_; rotate_left; (focus (intro w hSw; (try dsimp only at hSw); go_simp; first | done | with_reducible rfl)); (simp only [Act.at, List.setIfInBounds_toArray, List.set_cons_zero, List.set_cons_succ]))
                    | (refine take_unwanted (i := 28) rfl rfl (by kernel_rfl) (by kernel_rfl) (by kernel_rfl) (fun _ _ _ h => h) (by rfl) (by assumption) ?_; (simp only [Act.at, List.setIfInBounds_toArray, List.set_cons_zero, List.set_cons_succ]))
                    first
                    | (refine take_wanted (i := 29) (v := ?_) rfl rfl (by kernel_rfl) (by kernel_rfl) (by kernel_rfl) (fun _ _ _ h => h) (by rfl) (by assumption) ?_ ?_; rotate_left; (focus (intro w hSw; (try dsimp only at hSw); go_simp; first | done | with_reducible rfl)); (simp only [Act.at, List.setIfInBounds_toArray, List.set_cons_zero, List.set_cons_succ]))
                    | (refine take_unwanted (i := 29) rfl rfl (by kernel_rfl) (by kernel_rfl) (by kernel_rfl) (fun _ _ _ h => h) (by rfl) (by assumption) ?_; (simp only [Act.at, List.setIfInBounds_toArray, List.set_cons_zero, List.set_cons_succ]))
                    first
                    | (refine take_wanted (i := 30) (v := ?_) rfl rfl (by kernel_rfl) (by kernel_rfl) (by kernel_rfl) (fun _ _ _ h => h) (by rfl) (by assumption) ?_ ?_; rotate_left; (focus (intro w hSw; (try dsimp only at hSw); go_simp; first | done | with_reducible rfl)); (simp only [Act.at, List.setIfInBounds_toArray, List.set_cons_zero, List.set_cons_succ]))
                    | (refine take_unwanted (i := 30) rfl rfl (by kernel_rfl) (by kernel_rfl) (by kernel_rfl) (fun _ _ _ h => h) (by rfl) (by assumption) ?_; (simp only [Act.at, List.setIfInBounds_toArray, List.set_cons_zero, List.set_cons_succ]))
                    first
                    | (refine take_wanted (i := 31) (v := ?_) rfl rfl (by kernel_rfl) (by kernel_rfl) (by kernel_rfl) (fun _ _ _ h => h) (by rfl) (by assumption) ?_ ?_; rotate_left; (focus (intro w hSw; (try dsimp only at hSw); go_simp; first | done | with_reducible rfl)); (simp only [Act.at, List.setIfInBounds_toArray, List.set_cons_zero, List.set_cons_succ]))
                    | (refine take_unwanted (i := 31) rfl rfl (by kernel_rfl) (by kernel_rfl) (by kernel_rfl) (fun _ _ _ h => h) (by rfl) (by assumption) ?_; (simp only [Act.at, List.setIfInBounds_toArray, List.set_cons_zero, List.set_cons_succ]))
                    first
                    | (refine take_wanted (i := 32) (v := ?_) rfl rfl (by kernel_rfl) (by kernel_rfl) (by kernel_rfl) (fun _ _ _ h => h) (by rfl) (by assumption) ?_ ?_; rotate_left; (focus (intro w hSw; (try dsimp only at hSw); go_simp; first | done | with_reducible rfl)); (simp only [Act.at, List.setIfInBounds_toArray, List.set_cons_zero, List.set_cons_succ]))
                    | (refine take_unwanted (i := 32) rfl rfl (by kernel_rfl) (by kernel_rfl) (by kernel_rfl) (fun _ _ _ h => h) (by rfl) (by assumption) ?_; (simp only [Act.at, List.setIfInBounds_toArray, List.set_cons_zero, List.set_cons_succ]))
                    first
                    | (refine take_wanted (i := 33) (v := ?_) rfl rfl (by kernel_rfl) (by kernel_rfl) (by kernel_rfl) (fun _ _ _ h => h) (by rfl) (by assumption) ?_ ?_; rotate_left; (focus (intro w hSw; (try dsimp only at hSw); go_simp; first | done | with_reducible rfl)); (simp only [Act.at, List.setIfInBounds_toArray, List.set_cons_zero, List.set_cons_succ]))
                    | (refine take_unwanted (i := 33) rfl rfl (by kernel_rfl) (by kernel_rfl) (by kernel_rfl) (fun _ _ _ h => h) (by rfl) (by assumption) ?_; (simp only [Act.at, List.setIfInBounds_toArray, List.set_cons_zero, List.set_cons_succ]))
                    first
                    | (refine take_wanted (i := 34) (v := ?_) rfl rfl (by kernel_rfl) (by kernel_rfl) (by kernel_rfl) (fun _ _ _ h => h) (by rfl) (by assumption) ?_ ?_; rotate_left; (focus (intro w hSw; (try dsimp only at hSw); go_simp; first | done | with_reducible rfl)); (simp only [Act.at, List.setIfInBounds_toArray, List.set_cons_zero, List.set_cons_succ]))
                    | (refine take_unwanted (i := 34) rfl rfl (by kernel_rfl) (by kernel_rfl) (by kernel_rfl) (fun _ _ _ h => h) (by rfl) (by assumption) ?_; (simp only [Act.at, List.setIfInBounds_toArray, List.set_cons_zero, List.set_cons_succ]))
                    first
                    | (refine take_wanted (i := 35) (v := ?_) rfl rfl (by kernel_rfl) (by kernel_rfl) (by kernel_rfl) (fun _ _ _ h => h) (by rfl) (by assumption) ?_ ?_; rotate_left; (focus (intro w hSw; (try dsimp only at hSw); go_simp; first | done | with_reducible rfl)); (simp only [Act.at, List.setIfInBounds_toArray, List.set_cons_zero, List.set_cons_succ]))
                    | (refine take_unwanted (i := 35) rfl rfl (by kernel_rfl) (by kernel_rfl) (by kernel_rfl) (fun _ _ _ h => h) (by rfl) (by assumption) ?_; (simp only [Act.at, List.setIfInBounds_toArray, List.set_cons_zero, List.set_cons_succ]))
                    first
                    | (refine take_wanted (i := 36) (v := ?_) rfl rfl (by kernel_rfl) (by kernel_rfl) (by kernel_rfl) (fun _ _ _ h => h) (by rfl) (by assumption) ?_ ?_; rotate_left; (focus (intro w hSw; (try dsimp only at hSw); go_simp; first | done | with_reducible rfl)); (simp only [Act.at, List.setIfInBounds_toArray, List.set_cons_zero, List.set_cons_succ]))
                    | (refine take_unwanted (i := 36) rfl rfl (by kernel_rfl) (by kernel_rfl) (by kernel_rfl) (fun _ _ _ h => h) (by rfl) (by assumption) ?_; (simp only [Act.at, List.setIfInBounds_toArray, List.set_cons_zero, List.set_cons_succ]))
                    first
                    | (refine take_wanted (i := 37) (v := ?_) rfl rfl (by kernel_rfl) (by kernel_rfl) (by kernel_rfl) (fun _ _ _ h => h) (by rfl) (by assumption) ?_ ?_; rotate_left; (focus (intro w hSw; (try dsimp only at hSw); go_simp; first | done | with_reducible rfl)); (simp only [Act.at, List.setIfInBounds_toArray, List.set_cons_zero, List.set_cons_succ]))
                    | (refine take_unwanted (i := 37) rfl rfl (by kernel_rfl) (by kernel_rfl) (by kernel_rfl) (fun _ _ _ h => h) (by rfl) (by assumption) ?_; (simp only [Act.at, List.setIfInBounds_toArray, List.set_cons_zero, List.set_cons_succ]))
                    first
                    | (refine take_wanted (i := 38) (v := ?_) rfl rfl (by kernel_rfl) (by kernel_rfl) (by kernel_rfl) (fun _ _ _ h => h) (by rfl) (by assumption) ?_ ?_; rotate_left; (focus (intro w hSw; (try dsimp only at hSw); go_simp; first | done | with_reducible rfl)); (simp only [Act.at, List.setIfInBounds_toArray, List.set_cons_zero, List.set_cons_succ]))
                    | (refine take_unwanted (i := 38) rfl rfl (by kernel_rfl) (by kernel_rfl) (by kernel_rfl) (fun _ _ _ h => h) (by rfl) (by assumption) ?_; (simp only [Act.at, List.setIfInBounds_toArray, List.set_cons_zero, List.set_cons_succ]))
                    first
                    | (refine take_wanted (i := 39) (v := ?_) rfl rfl (by kernel_rfl) (by kernel_rfl) (by kernel_rfl) (fun _ _ _ h => h) (by rfl) (by assumption) ?_ ?_; rotate_left; (focus (intro w hSw; (try dsimp only at hSw); go_simp; first | done | with_reducible rfl)); (simp only [Act.at, List.setIfInBounds_toArray, List.set_cons_zero, List.set_cons_succ]))
                    | (refine take_unwanted (i := 39) rfl rfl (by kernel_rfl) (by kernel_rfl) (by kernel_rfl) (fun _ _ _ h => h) (by rfl) (by assumption) ?_; (simp only [Act.at, List.setIfInBounds_toArray, List.set_cons_zero, List.set_cons_succ]))
                    first
                    | (refine take_wanted (i := 40) (v := ?_) rfl rfl (by kernel_rfl) (by kernel_rfl) (by kernel_rfl) (fun _ _ _ h => h) (by rfl) (by assumption) ?_ ?_; rotate_left; (focus (intro w hSw; (try dsimp only at hSw); go_simp; first | done | with_reducible rfl)); (simp only [Act.at, List.setIfInBounds_toArray, List.set_cons_zero, List.set_cons_succ]))
                    | (refine take_unwanted (i := 40) rfl rfl (by kernel_rfl) (by kernel_rfl) (by kernel_rfl) (fun _ _ _ h => h) (by rfl) (by assumption) ?_; (simp only [Act.at, List.setIfInBounds_toArray, List.set_cons_zero, List.set_cons_succ]))
                    first
                    | (refine take_wanted (i := 41) (v := ?_) rfl rfl (by kernel_rfl) (by kernel_rfl) (by kernel_rfl) (fun _ _ _ h => h) (by rfl) (by assumption) ?_ ?_; rotate_left; (focus (intro w hSw; (try dsimp only at hSw); go_simp; first | done | with_reducible rfl)); (simp only [Act.at, List.setIfInBounds_toArray, List.set_cons_zero, List.set_cons_succ]))
                    | (refine take_unwanted (i := 41) rfl rfl (by kernel_rfl) (by kernel_rfl) (by kernel_rfl) (fun _ _ _ h => h) (by rfl) (by assumption) ?_; (simp only [Act.at, List.setIfInBounds_toArray, List.set_cons_zero, List.set_cons_succ]))
                    first
                    | (refine take_wanted (i := 42) (v := ?_) rfl rfl (by kernel_rfl) (by kernel_rfl) (by kernel_rfl) (fun _ _ _ h => h) (by rfl) (by assumption) ?_ ?_; rotate_left; (focus (intro w hSw; (try dsimp only at hSw); go_simp; first | done | with_reducible rfl)); (simp only [Act.at, List.setIfInBounds_toArray, List.set_cons_zero, List.set_cons_succ]))
                    | (refine take_unwanted (i := 42) rfl rfl (by kernel_rfl) (by kernel_rfl) (by kernel_rfl) (fun _ _ _ h => h) (by rfl) (by assumption) ?_; (simp only [Act.at, List.setIfInBounds_toArray, List.set_cons_zero, List.set_cons_succ]))
                    first
                    | (refine take_wanted (i := 43) (v := ?_) rfl rfl (by kernel_rfl) (by kernel_rfl) (by kernel_rfl) (fun _ _ _ h => h) (by rfl) (by assumption) ?_ ?_; rotate_left; (focus (intro w hSw; (try dsimp only at hSw); go_simp; first | done | with_reducible rfl)); (simp only [Act.at, List.setIfInBounds_toArray, List.set_cons_zero, List.set_cons_succ]))
                    | (refine take_unwanted (i := 43) rfl rfl (by kernel_rfl) (by kernel_rfl) (by kernel_rfl) (fun _ _ _ h => h) (by rfl) (by assumption) ?_; (simp only [Act.at, List.setIfInBounds_toArray, List.set_cons_zero, List.set_cons_succ]))
                    first
                    | (refine take_wanted (i := 44) (v := ?_) rfl rfl (by kernel_rfl) (by kernel_rfl) (by kernel_rfl) (fun _ _ _ h => h) (by rfl) (by assumption) ?_ ?_; rotate_left; (focus (intro w hSw; (try dsimp only at hSw); go_simp; first | done | with_reducible rfl)); (simp only [Act.at, List.setIfInBounds_toArray, List.set_cons_zero, List.set_cons_succ]))
                    | (refine take_unwanted (i := 44) rfl rfl (by kernel_rfl) (by kernel_rfl) (by kernel_rfl) (fun _ _ _ h => h) (by rfl) (by assumption) ?_; (simp only [Act.at, List.setIfInBounds_toArray, List.set_cons_zero, List.set_cons_succ]))
                    refine wpAnyH_done (by kernel_rfl) ?_ _
                    go_wp2_with fail
                    go_meet
                    exact ⟨rfl, HBD⟩
                case rest =>
                  obtain ⟨rfl, HBN⟩ := hcut
                  clear hS u3
                  go_wp2_with fail
                  go_roundg n2
                  case measure => omega
                  case rel => exact ⟨j + 1, by have := HKJ.out; omega, by go_num, HBN⟩
              · obtain hje : j = L.length := by omega
                have hji : ¬ (j : Int) < (L.length : Int) := by omega
                have HBN := Lib.hid (HB3.out.trans (HBJ.out.mono HB3.out.size))
                clear hjn hje
                go_wp2_with fail
                go_roundg n
                case measure => omega
                case rel => exact ⟨k + 1, by have := HKN.out; omega, by go_num, HBN⟩
      · obtain hk1 : k = M1.length := by omega
        have hki : ¬ (k : Int) < (M1.length : Int) := by omega
        have HFB := Lib.hid (HRR.out _ HBK.out).2.2
        clear hk1 hkn
        go_wp2_with fail
        refine (HAW.out _).mono ?_
        rintro r wz ⟨rfl, hbz⟩
        have HBZ := Lib.hid (HFB.out.trans (hbz.mono HFB.out.size))
        clear hbz
        go_wp2_with fail
        go_ret
        exact ⟨rfl, HBZ.out⟩
end Go.Proofs.Ytojemaaljjibiaa
