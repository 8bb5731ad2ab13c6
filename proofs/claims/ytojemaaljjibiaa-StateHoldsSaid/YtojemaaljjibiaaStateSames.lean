/-
  The contract of StateSames.
-/
import Derived.Test.YtojemaaljjibiaaEvGm
import Derived.Test.YtojemaaljjibiaaAws
import Derived.Test.YtojemaaljjibiaaStaThree
namespace Go.Proofs.Ytojemaaljjibiaa
open Go.RowKit
set_option linter.unusedVariables false

theorem takes_step {α β : Type} {L : List α} {R : List β} {γ : Type} (f : α → γ) (g : β → γ) {k : Nat} (h1 : k < L.length) (h2 : k < R.length) : (L.take (k + 1)).map f = (R.take (k + 1)).map g ↔ (L.take k).map f = (R.take k).map g ∧ f L[k] = g R[k] := by
  rw [List.take_succ_eq_append_getElem h1, List.take_succ_eq_append_getElem h2, List.map_append, List.map_append, List.map_singleton, List.map_singleton]
  have hl : ((L.take k).map f).length = ((R.take k).map g).length := by rw [List.length_map, List.length_map, List.length_take, List.length_take]; omega
  constructor
  · intro h
    have := List.append_inj h hl
    exact ⟨this.1, by simpa using this.2⟩
  · intro h
    rw [h.1, h.2]
theorem takes_all {α β : Type} {L : List α} {R : List β} {γ : Type} (f : α → γ) (g : β → γ) (h : L.length = R.length) : (L.take L.length).map f = (R.take L.length).map g ↔ L.map f = R.map g := by
  rw [List.take_of_length_le (Nat.le_refl _), List.take_of_length_le (by omega)]
theorem takes_of {α β : Type} {L : List α} {R : List β} {γ : Type} {f : α → γ} {g : β → γ} (h : L.map f = R.map g) (k : Nat) : (L.take k).map f = (R.take k).map g := by rw [List.map_take, List.map_take, h]
/-- Two papers are read. -/
abbrev TwoX (b o : Nat) (x : EntX) (c p : Nat) (y : EntX) (W : World) : Prop :=
  (W.cell? ⟨b, o, none⟩ = some (.string (S x.e.id)) ∧ W.cell? ⟨b, o + 1, none⟩ = some (.int .i64 x.e.cls) ∧ W.cell? ⟨b, o + 2, none⟩ = some (.int .i64 x.e.born) ∧ W.cell? ⟨b, o + 3, none⟩ = some (.int .i64 x.e.slot) ∧
    W.cell? ⟨b, o + 4, none⟩ = some (.slice x.A x.e.L.length x.ca) ∧ W.cell? ⟨b, o + 5, none⟩ = some (.bool x.e.gone) ∧ W.cell? ⟨b, o + 6, none⟩ = some (.slice x.B x.e.H.length x.cb)) ∧
  (W.cell? ⟨c, p, none⟩ = some (.string (S y.e.id)) ∧ W.cell? ⟨c, p + 1, none⟩ = some (.int .i64 y.e.cls) ∧ W.cell? ⟨c, p + 2, none⟩ = some (.int .i64 y.e.born) ∧ W.cell? ⟨c, p + 3, none⟩ = some (.int .i64 y.e.slot) ∧
    W.cell? ⟨c, p + 4, none⟩ = some (.slice y.A y.e.L.length y.ca) ∧ W.cell? ⟨c, p + 5, none⟩ = some (.bool y.e.gone) ∧ W.cell? ⟨c, p + 6, none⟩ = some (.slice y.B y.e.H.length y.cb))
/-- Two checkpoints are read. -/
abbrev TwoQ (b o : Nat) (x : Pt) (c p : Nat) (y : Pt) (W : World) : Prop :=
  W.cell? ⟨b, o, none⟩ = some (.int .i64 x.size) ∧ W.cell? ⟨b, o + 1, none⟩ = some (.string (S x.root)) ∧ W.cell? ⟨c, p, none⟩ = some (.int .i64 y.size) ∧ W.cell? ⟨c, p + 1, none⟩ = some (.string (S y.root))
theorem bools_eq {a b : Bool} {p : Prop} (h1 : a = true ↔ p) (h2 : b = true ↔ p) : a = b := Bool.eq_iff_iff.2 (h1.trans h2.symm)
theorem idx2 {α : Type} {L : List α} {m k : Nat} (h : Hid (L.length = m)) (hk : k < L.length) : (k : Int) < (m : Int) := by have := h.out; omega
set_option maxRecDepth 100000 in
set_option maxHeartbeats 16000000 in
theorem stateSames_any {w : World} {La Lb : List EvX} {A B : Option Addr} {ca cb : Nat} (hra : RowV w [] A La) (hla : La.length ≤ ca) (hca : ca ≤ 9223372036854775807) (hrb : RowV w [] B Lb) (hlb : Lb.length ≤ cb) (hcb : cb ≤ 9223372036854775807) :
    Calls Try.prog 7 #[.slice A La.length ca, .slice B Lb.length cb] w fun r w' => r = .returned (.bool true) ∧ Below w.heap.size w w' := by
  have h1 := smade_any hra hla hca 30 (by decide)
  rw [show ((30 : Nat) : Int) = 30 from rfl] at h1
  have HMA := Lib.hid h1
  have HMB : Hid (∀ W, Below w.heap.size w W → Calls Try.prog 18 #[.slice B Lb.length cb, .int .i64 30] W fun r w' => ∃ q, r = .returned (.pointer (some ⟨q, 0, none⟩)) ∧ MadeS W q Sta.zero Lb none [] 0 (min 30 Lb.length) w') := Lib.hid (fun W hb => by
    have h2 := smade_any (hrb.below hb) hlb hcb 30 (by decide)
    rwa [show ((30 : Nat) : Int) = 30 from rfl] at h2)
  clear h1 hra hrb hla hlb hca hcb
  go_enter Try.func7, Try.ntmps7
  go_wp2_with fail
  refine HMA.out.mono ?_
  rintro r w1 ⟨q1, rfl, hb1, s1, n1, hq1, -, -, -⟩
  obtain ⟨st1, hst1⟩ : ∃ st, Sta.run Sta.zero (fews La (min 30 La.length)) = st := ⟨_, rfl⟩
  have HI1 : Hid (Sta.Inv st1 ∧ st1.Q.length ≤ 1000) := Lib.hid ⟨hst1 ▸ Sta.Inv.zero.run _, by
    have e1 := Sta.run_Q (fews La (min 30 La.length)) Sta.zero
    have e2 := fews_len La (min 30 La.length)
    have e3 : Sta.zero.Q.length = 0 := rfl
    rw [hst1] at e1
    omega⟩
  rw [hst1] at hq1
  have HMB1 := Lib.hid (HMB.out w1 hb1)
  have HQ1 := Lib.hid hq1
  have HB1 := Lib.hid hb1
  clear hq1 hb1 hst1 HMA HMB
  go_wp2_with fail
  refine HMB1.out.mono ?_
  rintro r w2 ⟨q2, rfl, hb2, s2, n2, hq2, -, -, -⟩
  obtain ⟨st2, hst2⟩ : ∃ st, Sta.run Sta.zero (fews Lb (min 30 Lb.length)) = st := ⟨_, rfl⟩
  have HI2 : Hid (Sta.Inv st2 ∧ st2.Q.length ≤ 1000) := Lib.hid ⟨hst2 ▸ Sta.Inv.zero.run _, by
    have e1 := Sta.run_Q (fews Lb (min 30 Lb.length)) Sta.zero
    have e2 := fews_len Lb (min 30 Lb.length)
    have e3 : Sta.zero.Q.length = 0 := rfl
    rw [hst2] at e1
    omega⟩
  rw [hst2] at hq2
  have HST : Hid (∀ W, Below w2.heap.size w2 W → StAt W q1 s1 [] st1 n1 ∧ StAt W q2 s2 [] st2 n2 ∧ Below w.heap.size w W) := Lib.hid (fun W hb => ⟨(HQ1.out.below hb2).below hb, hq2.below hb, (HB1.out.trans (hb2.mono HB1.out.size)).trans (hb.mono (Nat.le_trans HB1.out.size hb2.size))⟩)
  clear hq2 hb2 hst2 HMB1 HQ1 HB1
  have HE1 := Lib.hid (stEntries (HST.out w2 (Below.refl _ _)).1 HI1.out.1)
  go_wp2_with fail
  refine HE1.out.mono ?_
  rintro r w3 ⟨A1, c1, M1, rfl, hM1, hl1, hm1, hr1, hb3⟩
  have HE2 := Lib.hid (stEntries (HST.out w3 hb3).2.1 HI2.out.1)
  have HM1 := Lib.hid (And.intro hM1 (And.intro hl1 hm1))
  have HR1 := Lib.hid (hr1.sub (t := []) (by simp))
  have HB3 := Lib.hid hb3
  clear hM1 hl1 hm1 hr1 hb3 HE1
  go_wp2_with fail
  refine HE2.out.mono ?_
  rintro r w4 ⟨A2, c2, M2, rfl, hM2, hl2, hm2, hr2, hb4⟩
  have hb4' := HB3.out.trans (hb4.mono HB3.out.size)
  have HP1 := Lib.hid (stPoints (HST.out w4 hb4').1 HI1.out.2)
  have HM2 := Lib.hid (And.intro hM2 (And.intro hl2 hm2))
  have HR2 := Lib.hid (And.intro (HR1.out.below hb4) (hr2.sub (t := []) (by simp)))
  have HB4 := Lib.hid hb4'
  clear hM2 hl2 hm2 hr2 hb4 hb4' HE2 HR1 HB3
  go_wp2_with fail
  refine HP1.out.mono ?_
  rintro r w5 ⟨B1, d1, rfl, hl3, hm3, hr3, hb5⟩
  have hb5' := HB4.out.trans (hb5.mono HB4.out.size)
  have HP2 := Lib.hid (stPoints (HST.out w5 hb5').2.1 HI2.out.2)
  have HM3 := Lib.hid (And.intro hl3 hm3)
  have HR3 := Lib.hid (And.intro (HR2.out.1.below hb5) (And.intro (HR2.out.2.below hb5) (RowC.sub (t := []) hr3 (by simp))))
  have HB5 := Lib.hid hb5'
  clear hl3 hm3 hr3 hb5 hb5' HP1 HR2 HB4
  go_wp2_with fail
  refine HP2.out.mono ?_
  rintro r w6 ⟨B2, d2, rfl, hl4, hm4, hr4, hb6⟩
  have hb6' := HB5.out.trans (hb6.mono HB5.out.size)
  obtain ⟨Q1, hQ1⟩ : ∃ Q, st1.Q = Q := ⟨_, rfl⟩
  obtain ⟨Q2, hQ2⟩ : ∃ Q, st2.Q = Q := ⟨_, rfl⟩
  rw [hQ2] at hl4 hr4 ⊢
  rw [hQ1] at HR3 HM3 ⊢
  have HM4 := Lib.hid (And.intro hl4 hm4)
  have HR : Hid (∀ W, Below w6.heap.size w6 W → RowX W [] A1 M1 ∧ RowX W [] A2 M2 ∧ RowQt W [] B1 Q1 ∧ RowQt W [] B2 Q2) := Lib.hid (fun W hb => ⟨(HR3.out.1.below hb6).below hb, (HR3.out.2.1.below hb6).below hb, (RowC.below HR3.out.2.2 hb6).below hb, (RowC.sub (t := []) hr4 (by simp)).below hb⟩)
  have HNOW := Lib.hid (fun W (hb : Below w6.heap.size w6 W) => And.intro (stNow (HST.out W (hb6'.trans (hb.mono hb6'.size))).1) (stNow (HST.out W (hb6'.trans (hb.mono hb6'.size))).2.1))
  have HSAME := Lib.hid (fun W (hb : Below w6.heap.size w6 W) => And.intro (stSame (HST.out W (hb6'.trans (hb.mono hb6'.size))).1 HI1.out.1 HI1.out.2 (HST.out W (hb6'.trans (hb.mono hb6'.size))).2.1 HI2.out.1 HI2.out.2) (And.intro (stSame (HST.out W (hb6'.trans (hb.mono hb6'.size))).2.1 HI2.out.1 HI2.out.2 (HST.out W (hb6'.trans (hb.mono hb6'.size))).1 HI1.out.1 HI1.out.2) (stSame (HST.out W (hb6'.trans (hb.mono hb6'.size))).1 HI1.out.1 HI1.out.2 (HST.out W (hb6'.trans (hb.mono hb6'.size))).1 HI1.out.1 HI1.out.2)))
  have HFIN := Lib.hid (fun W (hb : Below w6.heap.size w6 W) => (HST.out W (hb6'.trans (hb.mono hb6'.size))).2.2)
  have HEQ : Hid (M1.map EntX.e = M2.map EntX.e ∧ Q1 = Q2 ∧ st1.now = st2.now ↔ st1 = st2) := Lib.hid (by
    have e1 := HM1.out.1
    have e2 := HM2.out.1
    obtain ⟨P1, _, _⟩ := st1
    obtain ⟨P2, _, _⟩ := st2
    dsimp only at *
    rw [e1, e2, hQ1, hQ2]
    constructor
    · rintro ⟨h1, h2, h3⟩; rw [h1, h2, h3]
    · intro h; injection h with h1 h2 h3; exact ⟨h1, h2, h3⟩)
  have HL : Hid (M1.length ≤ 64 ∧ M2.length ≤ 64 ∧ Q1.length ≤ 1000 ∧ Q2.length ≤ 1000) := Lib.hid (by
    have e1 := congrArg List.length HM1.out.1
    have e2 := congrArg List.length HM2.out.1
    rw [List.length_map] at e1 e2
    have e3 := HI1.out.1.few
    have e4 := HI2.out.1.few
    have e5 := HI1.out.2
    have e6 := HI2.out.2
    rw [hQ1] at e5
    rw [hQ2] at e6
    omega)
  obtain ⟨t1, ht1⟩ : ∃ t, st1.now = t := ⟨_, rfl⟩
  obtain ⟨t2, ht2⟩ : ∃ t, st2.now = t := ⟨_, rfl⟩
  rw [ht1, ht2] at HEQ HNOW
  obtain ⟨res, hres⟩ : ∃ r : Bool, decide (st1 = st2) = r := ⟨_, rfl⟩
  have HRES : Hid (res = true ↔ M1.map EntX.e = M2.map EntX.e ∧ Q1 = Q2 ∧ t1 = t2) := Lib.hid (by rw [← hres, decide_eq_true_iff]; exact HEQ.out.symm)
  have hres2 : decide (st2 = st1) = res := by rw [← hres]; exact decide_eq_decide.2 eq_comm
  rw [hres, hres2, decide_eq_true rfl] at HSAME
  have HMM := Lib.hid (And.intro HM1.out.2 (And.intro HM2.out.2 (And.intro HM3.out HM4.out)))
  clear hb6 hb6' hQ1 hQ2 hl4 hm4 hr4 ht1 ht2 hres hres2 HEQ HP2 HR3 HST HI1 HI2 HM1 HM2 HM3 HM4 HB5
  obtain ⟨m1, em1⟩ : ∃ m, M1.length = m := ⟨_, rfl⟩
  obtain ⟨m2, em2⟩ : ∃ m, M2.length = m := ⟨_, rfl⟩
  obtain ⟨l1, el1⟩ : ∃ m, Q1.length = m := ⟨_, rfl⟩
  obtain ⟨l2, el2⟩ : ∃ m, Q2.length = m := ⟨_, rfl⟩
  rw [em1, em2, el1, el2]
  have HM1 := Lib.hid em1
  have HM2 := Lib.hid em2
  have HN1 := Lib.hid el1
  have HN2 := Lib.hid el2
  clear em1 em2 el1 el2
  obtain ⟨tp, htp⟩ : ∃ p : Prop, (t1 = t2) = p := ⟨_, rfl⟩
  rw [htp] at HRES
  have HTP := Lib.hid htp
  clear htp
  have HAW := Lib.hid sawake_any
  have hcase : (¬ m1 = m2) ∨ (m1 = m2 ∧ ¬ l1 = l2) ∨ (m1 = m2 ∧ l1 = l2 ∧ ¬ t1 = t2) ∨ (m1 = m2 ∧ l1 = l2 ∧ t1 = t2) := by omega
  rcases hcase with e1 | ⟨e1, e2⟩ | ⟨e1, e2, e3⟩ | ⟨e1, e2, e3⟩
  · have k1 : ((m1 : Int) == (m2 : Int)) = false := by rw [beq_eq_false_iff_ne]; omega
    have HBW : Hid (Below w6.heap.size w6 w6) := Lib.hid (Below.refl _ _)
    have HW0 : Hid (false = true ↔ (M1.length = M2.length ∧ Q1.length = Q2.length ∧ tp)) := Lib.hid ⟨by simp, fun h => absurd (by rw [← HM1.out, ← HM2.out]; exact h.1) e1⟩
    clear e1
    go_upto_region 6 with fail
    clear k1 HNOW HTP
    go_upto_block 0 with fail
    go_cut [11] (fun v11 W => ∃ wb : Bool, v11 = .bool wb ∧ Hid ((wb = true ↔ (M1.map EntX.e = M2.map EntX.e ∧ Q1.length = Q2.length ∧ tp)) ∧ Below w6.heap.size w6 W))
    case first =>
      go_wp2_with fail
      go_loopg [11, 12] m1 (fun n v11 v12 wr => ∃ (k : Nat) (wb : Bool), k + n = m1 ∧ v12 = .int .i64 (k : Int) ∧ v11 = .bool wb ∧ Hid ((wb = true ↔ ((M1.length = M2.length ∧ Q1.length = Q2.length ∧ tp) ∧ (M1.take k).map EntX.e = (M2.take k).map EntX.e)) ∧ Below w6.heap.size w6 wr))
      case atStart => exact ⟨0, _, Nat.zero_add _, rfl, rfl, Lib.hid ⟨by simpa using HW0.out, HBW.out⟩⟩
      case round =>
        obtain ⟨k, wb, hkn, rfl, rfl, HWB⟩ := hrel
        have hk0 : (0 : Int) ≤ (k : Int) := by omega
        by_cases hlt : k < M1.length
        · have hki : (k : Int) < (m1 : Int) := by have := HM1.out; omega
          cases wb with
          | false =>
            have HX : Hid ((false = true ↔ (M1.map EntX.e = M2.map EntX.e ∧ Q1.length = Q2.length ∧ tp)) ∧ Below w6.heap.size w6 wr) := Lib.hid ⟨⟨by simp, fun h => absurd (HWB.out.1.2 ⟨⟨by have := congrArg List.length h.1; rwa [List.length_map, List.length_map] at this, h.2⟩, takes_of h.1 k⟩) (by simp)⟩, HWB.out.2⟩
            clear HWB
            go_wp2_with fail
            go_meet
            exact ⟨false, rfl, HX⟩
          | true =>
            obtain ⟨n, hn⟩ : ∃ n, gk = n + 1 := ⟨gk - 1, by have := HM1.out; omega⟩
            subst hn
            have hbase := HWB.out.1.1 rfl
            have hk2 : k < M2.length := by have := hbase.1.1; omega
            have hki2 := idx2 HM2 hk2
            have hkc : (k : Int) < (c1 : Int) := by have := HMM.out.1.1; omega
            have hkc2 : (k : Int) < (c2 : Int) := by have := HMM.out.2.1.1; omega
            have hinc : IntKind.i64.wrap ((k : Int) + 1) = (k : Int) + 1 := by have := HL.out; rw [IntKind.wrap_i64]; omega
            obtain ⟨hx1, hx2, -, -⟩ := HR.out wr.drew HWB.out.2.drew
            obtain ⟨b, off, hA1, -, -, p0⟩ := RowX.get hx1 k hlt
            obtain ⟨c, off2, hA2, -, -, p1⟩ := RowX.get hx2 k hk2
            have hin1 := hx1.ents _ (List.getElem_mem hlt)
            have hin2 := hx2.ents _ (List.getElem_mem hk2)
            have hst := takes_step (L := M1) (R := M2) EntX.e EntX.e hlt hk2
            obtain ⟨x, hx⟩ : ∃ x, M1[k] = x := ⟨_, rfl⟩
            obtain ⟨y, hy⟩ : ∃ y, M2[k] = y := ⟨_, rfl⟩
            rw [hx] at p0 hin1 hst
            rw [hy] at p1 hin2 hst
            have hS : TwoX b (off + k * 7) x c (off2 + k * 7) y wr.drew := ⟨p0, p1⟩
            have HREL : Hid (∀ W, Below w6.heap.size w6 W → (decide (x.e = y.e) = true ↔ ((M1.length = M2.length ∧ Q1.length = Q2.length ∧ tp) ∧ (M1.take (k + 1)).map EntX.e = (M2.take (k + 1)).map EntX.e)) ∧ Below w6.heap.size w6 W) := Lib.hid (fun W hb => ⟨by rw [decide_eq_true_iff, hst]; exact ⟨fun h => ⟨hbase.1, hbase.2, h⟩, fun h => h.2.2⟩, hb⟩)
            have HSE := Lib.hid (esameE_any hin1 hin2)
            have HBD := Lib.hid HWB.out.2.drew
            have HKN := Lib.hid hkn
            have HSB : Hid (∀ w9, Below wr.drew.heap.size wr.drew w9 → TwoX b (off + k * 7) x c (off2 + k * 7) y w9) := Lib.hid (fun w9 hb9 => by
              obtain ⟨hy1, hy2, -, -⟩ := HR.out w9 (HWB.out.2.drew.trans (hb9.mono HWB.out.2.drew.size))
              obtain ⟨b', off', hA1', -, -, p0'⟩ := RowX.get hy1 k hlt
              obtain ⟨c', off2', hA2', -, -, p1'⟩ := RowX.get hy2 k hk2
              rw [hA1] at hA1'
              rw [hA2] at hA2'
              injection hA1' with hA1'
              injection hA2' with hA2'
              injection hA1' with e1 e2
              injection hA2' with e3 e4
              subst e1 e2 e3 e4
              rw [hx] at p0'
              rw [hy] at p1'
              exact ⟨p0', p1'⟩)
            subst hA1 hA2
            clear hx1 hx2 p0 p1 hin1 hin2 hst hx hy hbase HWB hkn HW0 HBW
            go_upto_region 9 with fail
            refine wp_region_held_drew (S := TwoX b (off + k * 7) x c (off2 + k * 7) y) (by kernel_rfl) hS (fun hHeld => ?_)
            generalize wr.drew = wd at hS hHeld HSE HBD HSB ⊢
            first
            | (refine take_wanted (i := 0) (v := ?_) rfl rfl (by kernel_rfl) (by kernel_rfl) (by kernel_rfl) (fun _ _ _ h => h) (by rfl) (by assumption) ?_ ?_; rotate_left; (focus (intro w hSw; (try dsimp only at hSw); go_simp; first | done | with_reducible rfl)); (simp only [Act.at, List.setIfInBounds_toArray, List.set_cons_zero, List.set_cons_succ]))
            | (refine take_unwanted (i := 0) rfl rfl (by kernel_rfl) (by kernel_rfl) (by kernel_rfl) (fun _ _ _ h => h) (by rfl) (by assumption) ?_; (simp only [Act.at, List.setIfInBounds_toArray, List.set_cons_zero, List.set_cons_succ]))
            first
            | (refine take_wanted (i := 1) (v := ?_) rfl rfl (by kernel_rfl) (by kernel_rfl) (by kernel_rfl) (fun _ _ _ h => h) (by rfl) (by assumption) ?_ ?_; rotate_left; (focus (intro w hSw; (try dsimp only at hSw); go_simp; first | done | with_reducible rfl)); (simp only [Act.at, List.setIfInBounds_toArray, List.set_cons_zero, List.set_cons_succ]))
            | (refine take_unwanted (i := 1) rfl rfl (by kernel_rfl) (by kernel_rfl) (by kernel_rfl) (fun _ _ _ h => h) (by rfl) (by assumption) ?_; (simp only [Act.at, List.setIfInBounds_toArray, List.set_cons_zero, List.set_cons_succ]))
            first
            | (refine take_wanted (i := 2) (v := ?_) rfl rfl (by kernel_rfl) (by kernel_rfl) (by kernel_rfl) (fun _ _ _ h => h) (by rfl) (by assumption) ?_ ?_; rotate_left; (focus (intro w hSw; (try dsimp only at hSw); go_simp; first | done | with_reducible rfl)); (simp only [Act.at, List.setIfInBounds_toArray, List.set_cons_zero, List.set_cons_succ]))
            | (refine take_unwanted (i := 2) rfl rfl (by kernel_rfl) (by kernel_rfl) (by kernel_rfl) (fun _ _ _ h => h) (by rfl) (by assumption) ?_; (simp only [Act.at, List.setIfInBounds_toArray, List.set_cons_zero, List.set_cons_succ]))
            first
            | (refine take_wanted (i := 3) (v := ?_) rfl rfl (by kernel_rfl) (by kernel_rfl) (by kernel_rfl) (fun _ _ _ h => h) (by rfl) (by assumption) ?_ ?_; rotate_left; (focus (intro w hSw; (try dsimp only at hSw); go_simp; first | done | with_reducible rfl)); (simp only [Act.at, List.setIfInBounds_toArray, List.set_cons_zero, List.set_cons_succ]))
            | (refine take_unwanted (i := 3) rfl rfl (by kernel_rfl) (by kernel_rfl) (by kernel_rfl) (fun _ _ _ h => h) (by rfl) (by assumption) ?_; (simp only [Act.at, List.setIfInBounds_toArray, List.set_cons_zero, List.set_cons_succ]))
            first
            | (refine take_wanted (i := 4) (v := ?_) rfl rfl (by kernel_rfl) (by kernel_rfl) (by kernel_rfl) (fun _ _ _ h => h) (by rfl) (by assumption) ?_ ?_; rotate_left; (focus (intro w hSw; (try dsimp only at hSw); go_simp; first | done | with_reducible rfl)); (simp only [Act.at, List.setIfInBounds_toArray, List.set_cons_zero, List.set_cons_succ]))
            | (refine take_unwanted (i := 4) rfl rfl (by kernel_rfl) (by kernel_rfl) (by kernel_rfl) (fun _ _ _ h => h) (by rfl) (by assumption) ?_; (simp only [Act.at, List.setIfInBounds_toArray, List.set_cons_zero, List.set_cons_succ]))
            first
            | (refine take_wanted (i := 5) (v := ?_) rfl rfl (by kernel_rfl) (by kernel_rfl) (by kernel_rfl) (fun _ _ _ h => h) (by rfl) (by assumption) ?_ ?_; rotate_left; (focus (intro w hSw; (try dsimp only at hSw); go_simp; first | done | with_reducible rfl)); (simp only [Act.at, List.setIfInBounds_toArray, List.set_cons_zero, List.set_cons_succ]))
            | (refine take_unwanted (i := 5) rfl rfl (by kernel_rfl) (by kernel_rfl) (by kernel_rfl) (fun _ _ _ h => h) (by rfl) (by assumption) ?_; (simp only [Act.at, List.setIfInBounds_toArray, List.set_cons_zero, List.set_cons_succ]))
            first
            | (refine take_wanted (i := 6) (v := ?_) rfl rfl (by kernel_rfl) (by kernel_rfl) (by kernel_rfl) (fun _ _ _ h => h) (by rfl) (by assumption) ?_ ?_; rotate_left; (focus (intro w hSw; (try dsimp only at hSw); go_simp; first | done | with_reducible rfl)); (simp only [Act.at, List.setIfInBounds_toArray, List.set_cons_zero, List.set_cons_succ]))
            | (refine take_unwanted (i := 6) rfl rfl (by kernel_rfl) (by kernel_rfl) (by kernel_rfl) (fun _ _ _ h => h) (by rfl) (by assumption) ?_; (simp only [Act.at, List.setIfInBounds_toArray, List.set_cons_zero, List.set_cons_succ]))
            first
            | (refine take_wanted (i := 7) (v := ?_) rfl rfl (by kernel_rfl) (by kernel_rfl) (by kernel_rfl) (fun _ _ _ h => h) (by rfl) (by assumption) ?_ ?_; rotate_left; (focus (intro w hSw; (try dsimp only at hSw); go_simp; first | done | with_reducible rfl)); (simp only [Act.at, List.setIfInBounds_toArray, List.set_cons_zero, List.set_cons_succ]))
            | (refine take_unwanted (i := 7) rfl rfl (by kernel_rfl) (by kernel_rfl) (by kernel_rfl) (fun _ _ _ h => h) (by rfl) (by assumption) ?_; (simp only [Act.at, List.setIfInBounds_toArray, List.set_cons_zero, List.set_cons_succ]))
            refine take_call (i := 8) (by kernel_rfl) rfl rfl (by rfl) (fun K hK => ?_)
            go_simp
            refine HSE.out.mono ?_
            rintro r w9 ⟨rfl, hb9⟩
            have hS9 := HSB.out w9 hb9
            have HR9 := Lib.hid (HREL.out w9 (HBD.out.trans (hb9.mono HBD.out.size)))
            generalize decide (x.e = y.e) = wn at HR9 ⊢
            clear hb9 HREL HBD HSE HSB
            refine hK.out _ _ hS9 (fun hHeld => ?_)
            clear hK K
            try simp only [Act.put, List.setIfInBounds_toArray, List.set_cons_zero, List.set_cons_succ]
            first
            | (refine take_wanted (i := 9) (v := ?_) rfl rfl (by kernel_rfl) (by kernel_rfl) (by kernel_rfl) (fun _ _ _ h => h) (by rfl) (by assumption) ?_ ?_; rotate_left; (focus (intro w hSw; (try dsimp only at hSw); go_simp; first | done | with_reducible rfl)); (simp only [Act.at, List.setIfInBounds_toArray, List.set_cons_zero, List.set_cons_succ]))
            | (refine take_unwanted (i := 9) rfl rfl (by kernel_rfl) (by kernel_rfl) (by kernel_rfl) (fun _ _ _ h => h) (by rfl) (by assumption) ?_; (simp only [Act.at, List.setIfInBounds_toArray, List.set_cons_zero, List.set_cons_succ]))
            refine wpAnyH_done (by kernel_rfl) ?_ _
            clear hS9
            go_wp2_with fail
            go_roundg n
            case measure => omega
            case rel => exact ⟨k + 1, _, by have := HKN.out; omega, by go_num, rfl, HR9⟩
        · obtain hk1 : k = M1.length := by have := HM1.out; omega
          have hki : ¬ (k : Int) < (m1 : Int) := by have := HM1.out; omega
          rw [hk1] at HWB
          have HX : Hid ((wb = true ↔ (M1.map EntX.e = M2.map EntX.e ∧ Q1.length = Q2.length ∧ tp)) ∧ Below w6.heap.size w6 wr) := Lib.hid ⟨HWB.out.1.trans ⟨fun h => ⟨(takes_all _ _ h.1.1).1 h.2, h.1.2⟩, fun h => ⟨⟨by have := congrArg List.length h.1; rwa [List.length_map, List.length_map] at this, h.2⟩, takes_of h.1 _⟩⟩, HWB.out.2⟩
          clear HWB hk1
          go_wp2_with fail
          go_meet
          exact ⟨wb, rfl, HX⟩
    case rest =>
      obtain ⟨wb, rfl, HWB1⟩ := hcut
      go_upto_block 2 with fail
      go_cut [11] (fun v11 W => ∃ wb2 : Bool, v11 = .bool wb2 ∧ Hid (wb2 = res ∧ Below w6.heap.size w6 W))
      case first =>
        go_wp2_with fail
        go_loopg [11, 13] l1 (fun n v11 v13 wr => ∃ (k : Nat) (wq : Bool), k + n = l1 ∧ v13 = .int .i64 (k : Int) ∧ v11 = .bool wq ∧ Hid ((wq = true ↔ ((M1.map EntX.e = M2.map EntX.e ∧ Q1.length = Q2.length ∧ tp) ∧ (Q1.take k).map id = (Q2.take k).map id)) ∧ Below w6.heap.size w6 wr))
        case atStart => exact ⟨0, _, Nat.zero_add _, rfl, rfl, Lib.hid ⟨by simpa using HWB1.out.1, HWB1.out.2⟩⟩
        case round =>
          obtain ⟨k, wq, hkn, rfl, rfl, HWQ⟩ := hrel
          have hk0 : (0 : Int) ≤ (k : Int) := by omega
          by_cases hlt : k < Q1.length
          · have hki : (k : Int) < (l1 : Int) := by have := HN1.out; omega
            cases wq with
            | false =>
              have HX : Hid (false = res ∧ Below w6.heap.size w6 wr) := Lib.hid ⟨bools_eq HWQ.out.1 (HRES.out.trans ⟨fun h => ⟨⟨h.1, by rw [h.2.1], h.2.2⟩, by rw [h.2.1]⟩, fun h => absurd (HWQ.out.1.2 h) (by simp)⟩), HWQ.out.2⟩
              clear HWQ
              go_wp2_with fail
              go_meet
              exact ⟨false, rfl, HX⟩
            | true =>
              obtain ⟨n, hn⟩ : ∃ n, gk = n + 1 := ⟨gk - 1, by have := HN1.out; omega⟩
              subst hn
              have hbase := HWQ.out.1.1 rfl
              have hk2 : k < Q2.length := by have := hbase.1.2.1; omega
              have hki2 := idx2 HN2 hk2
              have hkc : (k : Int) < (d1 : Int) := by have := HMM.out.2.2.1.1; omega
              have hkc2 : (k : Int) < (d2 : Int) := by have := HMM.out.2.2.2.1; omega
              have hinc : IntKind.i64.wrap ((k : Int) + 1) = (k : Int) + 1 := by have := HL.out; rw [IntKind.wrap_i64]; omega
              obtain ⟨-, -, hx1, hx2⟩ := HR.out wr.drew HWQ.out.2.drew
              obtain ⟨b, off, hA1, -, -, p0, p1⟩ := RowQt.get hx1 k hlt
              obtain ⟨c, off2, hA2, -, -, p2, p3⟩ := RowQt.get hx2 k hk2
              have hst := takes_step (L := Q1) (R := Q2) id id hlt hk2
              obtain ⟨x, hx⟩ : ∃ x, Q1[k] = x := ⟨_, rfl⟩
              obtain ⟨y, hy⟩ : ∃ y, Q2[k] = y := ⟨_, rfl⟩
              rw [hx] at p0 p1 hst
              rw [hy] at p2 p3 hst
              obtain ⟨xn, xr⟩ := x
              obtain ⟨yn, yr⟩ := y
              dsimp only [id] at p0 p1 p2 p3 hst
              have hS : TwoQ b (off + k * 2) ⟨xn, xr⟩ c (off2 + k * 2) ⟨yn, yr⟩ wr.drew := ⟨p0, p1, p2, p3⟩
              have HREL : Hid ((decide (xn = yn ∧ xr = yr) = true ↔ ((M1.map EntX.e = M2.map EntX.e ∧ Q1.length = Q2.length ∧ tp) ∧ (Q1.take (k + 1)).map id = (Q2.take (k + 1)).map id)) ∧ Below w6.heap.size w6 wr.drew) := Lib.hid ⟨by
                rw [decide_eq_true_iff]
                refine ⟨fun h => ⟨hbase.1, hst.2 ⟨hbase.2, by rw [h.1, h.2]⟩⟩, fun h => ?_⟩
                have := (hst.1 h.2).2
                injection this with e1 e2
                exact ⟨e1, e2⟩, HWQ.out.2.drew⟩
              have HKN := Lib.hid hkn
              have hP := fun W => run_pteq xn xr yn yr W
              have hG := fun op o1 o2 W => run_ptguard op o1 o2 xn xr yn yr W
              subst hA1 hA2
              clear hx1 hx2 p0 p1 p2 p3 hst hx hy hbase HWQ hkn HWB1
              go_upto_region 13 with fail
              refine wp_region_held_drew (S := TwoQ b (off + k * 2) ⟨xn, xr⟩ c (off2 + k * 2) ⟨yn, yr⟩) (by kernel_rfl) hS (fun hHeld => ?_)
              generalize wr.drew = wd at hS hHeld HREL ⊢
              first
              | (refine take_wanted (i := 0) (v := ?_) rfl rfl (by kernel_rfl) (by kernel_rfl) (by kernel_rfl) (fun _ _ _ h => h) (by rfl) (by assumption) ?_ ?_; rotate_left; (focus (intro w hSw; (try dsimp only at hSw); go_simp; first | done | with_reducible rfl)); (simp only [Act.at, List.setIfInBounds_toArray, List.set_cons_zero, List.set_cons_succ]))
              | (refine take_unwanted (i := 0) rfl rfl (by kernel_rfl) (by kernel_rfl) (by kernel_rfl) (fun _ _ _ h => h) (by rfl) (by assumption) ?_; (simp only [Act.at, List.setIfInBounds_toArray, List.set_cons_zero, List.set_cons_succ]))
              first
              | (refine take_wanted (i := 1) (v := ?_) rfl rfl (by kernel_rfl) (by kernel_rfl) (by kernel_rfl) (fun _ _ _ h => h) (by rfl) (by assumption) ?_ ?_; rotate_left; (focus (intro w hSw; (try dsimp only at hSw); go_simp; first | done | with_reducible rfl)); (simp only [Act.at, List.setIfInBounds_toArray, List.set_cons_zero, List.set_cons_succ]))
              | (refine take_unwanted (i := 1) rfl rfl (by kernel_rfl) (by kernel_rfl) (by kernel_rfl) (fun _ _ _ h => h) (by rfl) (by assumption) ?_; (simp only [Act.at, List.setIfInBounds_toArray, List.set_cons_zero, List.set_cons_succ]))
              first
              | (refine take_wanted (i := 2) (v := ?_) rfl rfl (by kernel_rfl) (by kernel_rfl) (by kernel_rfl) (fun _ _ _ h => h) (by rfl) (by assumption) ?_ ?_; rotate_left; (focus (intro w hSw; (try dsimp only at hSw); go_simp; first | done | with_reducible rfl)); (simp only [Act.at, List.setIfInBounds_toArray, List.set_cons_zero, List.set_cons_succ]))
              | (refine take_unwanted (i := 2) rfl rfl (by kernel_rfl) (by kernel_rfl) (by kernel_rfl) (fun _ _ _ h => h) (by rfl) (by assumption) ?_; (simp only [Act.at, List.setIfInBounds_toArray, List.set_cons_zero, List.set_cons_succ]))
              first
              | (refine take_wanted (i := 3) (v := ?_) rfl rfl (by kernel_rfl) (by kernel_rfl) (by kernel_rfl) (fun _ _ _ h => h) (by rfl) (by assumption) ?_ ?_; rotate_left; (focus (intro w hSw; (try dsimp only at hSw); go_simp; first | done | with_reducible rfl)); (simp only [Act.at, List.setIfInBounds_toArray, List.set_cons_zero, List.set_cons_succ]))
              | (refine take_unwanted (i := 3) rfl rfl (by kernel_rfl) (by kernel_rfl) (by kernel_rfl) (fun _ _ _ h => h) (by rfl) (by assumption) ?_; (simp only [Act.at, List.setIfInBounds_toArray, List.set_cons_zero, List.set_cons_succ]))
              first
              | (refine take_wanted (i := 4) (v := ?_) rfl rfl (by kernel_rfl) (by kernel_rfl) (by kernel_rfl) (fun _ _ _ h => h) (by rfl) (by assumption) ?_ ?_; rotate_left; (focus (intro w hSw; (try dsimp only at hSw); go_simp; first | done | with_reducible rfl)); (simp only [Act.at, List.setIfInBounds_toArray, List.set_cons_zero, List.set_cons_succ]))
              | (refine take_unwanted (i := 4) rfl rfl (by kernel_rfl) (by kernel_rfl) (by kernel_rfl) (fun _ _ _ h => h) (by rfl) (by assumption) ?_; (simp only [Act.at, List.setIfInBounds_toArray, List.set_cons_zero, List.set_cons_succ]))
              first
              | (refine take_wanted (i := 5) (v := ?_) rfl rfl (by kernel_rfl) (by kernel_rfl) (by kernel_rfl) (fun _ _ _ h => h) (by rfl) (by assumption) ?_ ?_; rotate_left; (focus (intro w hSw; (try dsimp only at hSw); go_simp; first | done | with_reducible rfl)); (simp only [Act.at, List.setIfInBounds_toArray, List.set_cons_zero, List.set_cons_succ]))
              | (refine take_unwanted (i := 5) rfl rfl (by kernel_rfl) (by kernel_rfl) (by kernel_rfl) (fun _ _ _ h => h) (by rfl) (by assumption) ?_; (simp only [Act.at, List.setIfInBounds_toArray, List.set_cons_zero, List.set_cons_succ]))
              first
              | (refine take_wanted (i := 6) (v := ?_) rfl rfl (by kernel_rfl) (by kernel_rfl) (by kernel_rfl) (fun _ _ _ h => h) (by rfl) (by assumption) ?_ ?_; rotate_left; (focus (intro w hSw; (try dsimp only at hSw); go_simp; first | done | with_reducible rfl)); (simp only [Act.at, List.setIfInBounds_toArray, List.set_cons_zero, List.set_cons_succ]))
              | (refine take_unwanted (i := 6) rfl rfl (by kernel_rfl) (by kernel_rfl) (by kernel_rfl) (fun _ _ _ h => h) (by rfl) (by assumption) ?_; (simp only [Act.at, List.setIfInBounds_toArray, List.set_cons_zero, List.set_cons_succ]))
              first
              | (refine take_wanted (i := 7) (v := ?_) rfl rfl (by kernel_rfl) (by kernel_rfl) (by kernel_rfl) (fun _ _ _ h => h) (by rfl) (by assumption) ?_ ?_; rotate_left; (focus (intro w hSw; (try dsimp only at hSw); go_simp; first | done | with_reducible rfl)); (simp only [Act.at, List.setIfInBounds_toArray, List.set_cons_zero, List.set_cons_succ]))
              | (refine take_unwanted (i := 7) rfl rfl (by kernel_rfl) (by kernel_rfl) (by kernel_rfl) (fun _ _ _ h => h) (by rfl) (by assumption) ?_; (simp only [Act.at, List.setIfInBounds_toArray, List.set_cons_zero, List.set_cons_succ]))
              generalize decide (xn = yn ∧ xr = yr) = wn at HREL hP
              first
              | (refine take_wanted (i := 8) (v := ?_) rfl rfl (by kernel_rfl) (by kernel_rfl) (by kernel_rfl) (fun _ _ _ h => h) (by rfl) (by assumption) ?_ ?_; rotate_left; (focus (intro w hSw; (try dsimp only at hSw); go_simp; first | done | with_reducible rfl)); (simp only [Act.at, List.setIfInBounds_toArray, List.set_cons_zero, List.set_cons_succ]))
              | (refine take_unwanted (i := 8) rfl rfl (by kernel_rfl) (by kernel_rfl) (by kernel_rfl) (fun _ _ _ h => h) (by rfl) (by assumption) ?_; (simp only [Act.at, List.setIfInBounds_toArray, List.set_cons_zero, List.set_cons_succ]))
              first
              | (refine take_wanted (i := 9) (v := ?_) rfl rfl (by kernel_rfl) (by kernel_rfl) (by kernel_rfl) (fun _ _ _ h => h) (by rfl) (by assumption) ?_ ?_; rotate_left; (focus (intro w hSw; (try dsimp only at hSw); go_simp; first | done | with_reducible rfl)); (simp only [Act.at, List.setIfInBounds_toArray, List.set_cons_zero, List.set_cons_succ]))
              | (refine take_unwanted (i := 9) rfl rfl (by kernel_rfl) (by kernel_rfl) (by kernel_rfl) (fun _ _ _ h => h) (by rfl) (by assumption) ?_; (simp only [Act.at, List.setIfInBounds_toArray, List.set_cons_zero, List.set_cons_succ]))
              refine wpAnyH_done (by kernel_rfl) ?_ _
              clear hS hP hG
              go_wp2_with fail
              go_roundg n
              case measure => omega
              case rel => exact ⟨k + 1, _, by have := HKN.out; omega, by go_num, rfl, HREL⟩
          · obtain hk1 : k = Q1.length := by have := HN1.out; omega
            have hki : ¬ (k : Int) < (l1 : Int) := by have := HN1.out; omega
            rw [hk1] at HWQ
            have HX : Hid (wq = res ∧ Below w6.heap.size w6 wr) := Lib.hid ⟨bools_eq HWQ.out.1 (HRES.out.trans ⟨fun h => ⟨⟨h.1, by rw [h.2.1], h.2.2⟩, by rw [h.2.1]⟩, fun h => ⟨h.1.1, by have := (takes_all id id h.1.2.1).1 h.2; rwa [List.map_id, List.map_id] at this, h.1.2.2⟩⟩), HWQ.out.2⟩
            clear HWQ hk1
            go_wp2_with fail
            go_meet
            exact ⟨wq, rfl, HX⟩
      case rest =>
        obtain ⟨wb2, rfl, HF⟩ := hcut
        obtain ⟨hw, hbf⟩ := HF.out
        subst hw
        have hbb : (wb2 == wb2) = true := by simp
        have HBF := Lib.hid hbf
        clear HF hbf HRES HWB1
        go_wp2_with fail
        refine ((HSAME.out _ HBF.out).1).mono ?_
        rintro r wd ⟨rfl, hbd⟩
        have HBD := Lib.hid (HBF.out.trans (hbd.mono HBF.out.size))
        clear hbd HBF
        go_wp2_with fail
        refine ((HSAME.out _ HBD.out).2.1).mono ?_
        rintro r we ⟨rfl, hbe⟩
        have HBE := Lib.hid (HBD.out.trans (hbe.mono HBD.out.size))
        clear hbe HBD
        go_wp2_with fail
        refine ((HSAME.out _ HBE.out).2.2).mono ?_
        rintro r wf ⟨rfl, hbf⟩
        have HBF := Lib.hid (HBE.out.trans (hbf.mono HBE.out.size))
        clear hbf HBE
        go_wp2_with fail
        refine (HAW.out _).mono ?_
        rintro r wg ⟨rfl, hbg⟩
        have HBG := Lib.hid (HBF.out.trans (hbg.mono HBF.out.size))
        clear hbg HBF
        go_wp2_with fail
        go_ret
        exact ⟨rfl, HFIN.out _ HBG.out⟩
  · subst e1
    have k2 : ((l1 : Int) == (l2 : Int)) = false := by rw [beq_eq_false_iff_ne]; omega
    have HBW : Hid (Below w6.heap.size w6 w6) := Lib.hid (Below.refl _ _)
    have HW0 : Hid (false = true ↔ (M1.length = M2.length ∧ Q1.length = Q2.length ∧ tp)) := Lib.hid ⟨by simp, fun h => absurd (by rw [← HN1.out, ← HN2.out]; exact h.2.1) e2⟩
    clear e2
    go_upto_region 6 with fail
    clear k2 HNOW HTP
    go_upto_block 0 with fail
    go_cut [11] (fun v11 W => ∃ wb : Bool, v11 = .bool wb ∧ Hid ((wb = true ↔ (M1.map EntX.e = M2.map EntX.e ∧ Q1.length = Q2.length ∧ tp)) ∧ Below w6.heap.size w6 W))
    case first =>
      go_wp2_with fail
      go_loopg [11, 12] m1 (fun n v11 v12 wr => ∃ (k : Nat) (wb : Bool), k + n = m1 ∧ v12 = .int .i64 (k : Int) ∧ v11 = .bool wb ∧ Hid ((wb = true ↔ ((M1.length = M2.length ∧ Q1.length = Q2.length ∧ tp) ∧ (M1.take k).map EntX.e = (M2.take k).map EntX.e)) ∧ Below w6.heap.size w6 wr))
      case atStart => exact ⟨0, _, Nat.zero_add _, rfl, rfl, Lib.hid ⟨by simpa using HW0.out, HBW.out⟩⟩
      case round =>
        obtain ⟨k, wb, hkn, rfl, rfl, HWB⟩ := hrel
        have hk0 : (0 : Int) ≤ (k : Int) := by omega
        by_cases hlt : k < M1.length
        · have hki : (k : Int) < (m1 : Int) := by have := HM1.out; omega
          cases wb with
          | false =>
            have HX : Hid ((false = true ↔ (M1.map EntX.e = M2.map EntX.e ∧ Q1.length = Q2.length ∧ tp)) ∧ Below w6.heap.size w6 wr) := Lib.hid ⟨⟨by simp, fun h => absurd (HWB.out.1.2 ⟨⟨by have := congrArg List.length h.1; rwa [List.length_map, List.length_map] at this, h.2⟩, takes_of h.1 k⟩) (by simp)⟩, HWB.out.2⟩
            clear HWB
            go_wp2_with fail
            go_meet
            exact ⟨false, rfl, HX⟩
          | true =>
            obtain ⟨n, hn⟩ : ∃ n, gk = n + 1 := ⟨gk - 1, by have := HM1.out; omega⟩
            subst hn
            have hbase := HWB.out.1.1 rfl
            have hk2 : k < M2.length := by have := hbase.1.1; omega
            have hki2 := idx2 HM2 hk2
            have hkc : (k : Int) < (c1 : Int) := by have := HMM.out.1.1; omega
            have hkc2 : (k : Int) < (c2 : Int) := by have := HMM.out.2.1.1; omega
            have hinc : IntKind.i64.wrap ((k : Int) + 1) = (k : Int) + 1 := by have := HL.out; rw [IntKind.wrap_i64]; omega
            obtain ⟨hx1, hx2, -, -⟩ := HR.out wr.drew HWB.out.2.drew
            obtain ⟨b, off, hA1, -, -, p0⟩ := RowX.get hx1 k hlt
            obtain ⟨c, off2, hA2, -, -, p1⟩ := RowX.get hx2 k hk2
            have hin1 := hx1.ents _ (List.getElem_mem hlt)
            have hin2 := hx2.ents _ (List.getElem_mem hk2)
            have hst := takes_step (L := M1) (R := M2) EntX.e EntX.e hlt hk2
            obtain ⟨x, hx⟩ : ∃ x, M1[k] = x := ⟨_, rfl⟩
            obtain ⟨y, hy⟩ : ∃ y, M2[k] = y := ⟨_, rfl⟩
            rw [hx] at p0 hin1 hst
            rw [hy] at p1 hin2 hst
            have hS : TwoX b (off + k * 7) x c (off2 + k * 7) y wr.drew := ⟨p0, p1⟩
            have HREL : Hid (∀ W, Below w6.heap.size w6 W → (decide (x.e = y.e) = true ↔ ((M1.length = M2.length ∧ Q1.length = Q2.length ∧ tp) ∧ (M1.take (k + 1)).map EntX.e = (M2.take (k + 1)).map EntX.e)) ∧ Below w6.heap.size w6 W) := Lib.hid (fun W hb => ⟨by rw [decide_eq_true_iff, hst]; exact ⟨fun h => ⟨hbase.1, hbase.2, h⟩, fun h => h.2.2⟩, hb⟩)
            have HSE := Lib.hid (esameE_any hin1 hin2)
            have HBD := Lib.hid HWB.out.2.drew
            have HKN := Lib.hid hkn
            have HSB : Hid (∀ w9, Below wr.drew.heap.size wr.drew w9 → TwoX b (off + k * 7) x c (off2 + k * 7) y w9) := Lib.hid (fun w9 hb9 => by
              obtain ⟨hy1, hy2, -, -⟩ := HR.out w9 (HWB.out.2.drew.trans (hb9.mono HWB.out.2.drew.size))
              obtain ⟨b', off', hA1', -, -, p0'⟩ := RowX.get hy1 k hlt
              obtain ⟨c', off2', hA2', -, -, p1'⟩ := RowX.get hy2 k hk2
              rw [hA1] at hA1'
              rw [hA2] at hA2'
              injection hA1' with hA1'
              injection hA2' with hA2'
              injection hA1' with e1 e2
              injection hA2' with e3 e4
              subst e1 e2 e3 e4
              rw [hx] at p0'
              rw [hy] at p1'
              exact ⟨p0', p1'⟩)
            subst hA1 hA2
            clear hx1 hx2 p0 p1 hin1 hin2 hst hx hy hbase HWB hkn HW0 HBW
            go_upto_region 9 with fail
            refine wp_region_held_drew (S := TwoX b (off + k * 7) x c (off2 + k * 7) y) (by kernel_rfl) hS (fun hHeld => ?_)
            generalize wr.drew = wd at hS hHeld HSE HBD HSB ⊢
            first
            | (refine take_wanted (i := 0) (v := ?_) rfl rfl (by kernel_rfl) (by kernel_rfl) (by kernel_rfl) (fun _ _ _ h => h) (by rfl) (by assumption) ?_ ?_; rotate_left; (focus (intro w hSw; (try dsimp only at hSw); go_simp; first | done | with_reducible rfl)); (simp only [Act.at, List.setIfInBounds_toArray, List.set_cons_zero, List.set_cons_succ]))
            | (refine take_unwanted (i := 0) rfl rfl (by kernel_rfl) (by kernel_rfl) (by kernel_rfl) (fun _ _ _ h => h) (by rfl) (by assumption) ?_; (simp only [Act.at, List.setIfInBounds_toArray, List.set_cons_zero, List.set_cons_succ]))
            first
            | (refine take_wanted (i := 1) (v := ?_) rfl rfl (by kernel_rfl) (by kernel_rfl) (by kernel_rfl) (fun _ _ _ h => h) (by rfl) (by assumption) ?_ ?_; rotate_left; (focus (intro w hSw; (try dsimp only at hSw); go_simp; first | done | with_reducible rfl)); (simp only [Act.at, List.setIfInBounds_toArray, List.set_cons_zero, List.set_cons_succ]))
            | (refine take_unwanted (i := 1) rfl rfl (by kernel_rfl) (by kernel_rfl) (by kernel_rfl) (fun _ _ _ h => h) (by rfl) (by assumption) ?_; (simp only [Act.at, List.setIfInBounds_toArray, List.set_cons_zero, List.set_cons_succ]))
            first
            | (refine take_wanted (i := 2) (v := ?_) rfl rfl (by kernel_rfl) (by kernel_rfl) (by kernel_rfl) (fun _ _ _ h => h) (by rfl) (by assumption) ?_ ?_; rotate_left; (focus (intro w hSw; (try dsimp only at hSw); go_simp; first | done | with_reducible rfl)); (simp only [Act.at, List.setIfInBounds_toArray, List.set_cons_zero, List.set_cons_succ]))
            | (refine take_unwanted (i := 2) rfl rfl (by kernel_rfl) (by kernel_rfl) (by kernel_rfl) (fun _ _ _ h => h) (by rfl) (by assumption) ?_; (simp only [Act.at, List.setIfInBounds_toArray, List.set_cons_zero, List.set_cons_succ]))
            first
            | (refine take_wanted (i := 3) (v := ?_) rfl rfl (by kernel_rfl) (by kernel_rfl) (by kernel_rfl) (fun _ _ _ h => h) (by rfl) (by assumption) ?_ ?_; rotate_left; (focus (intro w hSw; (try dsimp only at hSw); go_simp; first | done | with_reducible rfl)); (simp only [Act.at, List.setIfInBounds_toArray, List.set_cons_zero, List.set_cons_succ]))
            | (refine take_unwanted (i := 3) rfl rfl (by kernel_rfl) (by kernel_rfl) (by kernel_rfl) (fun _ _ _ h => h) (by rfl) (by assumption) ?_; (simp only [Act.at, List.setIfInBounds_toArray, List.set_cons_zero, List.set_cons_succ]))
            first
            | (refine take_wanted (i := 4) (v := ?_) rfl rfl (by kernel_rfl) (by kernel_rfl) (by kernel_rfl) (fun _ _ _ h => h) (by rfl) (by assumption) ?_ ?_; rotate_left; (focus (intro w hSw; (try dsimp only at hSw); go_simp; first | done | with_reducible rfl)); (simp only [Act.at, List.setIfInBounds_toArray, List.set_cons_zero, List.set_cons_succ]))
            | (refine take_unwanted (i := 4) rfl rfl (by kernel_rfl) (by kernel_rfl) (by kernel_rfl) (fun _ _ _ h => h) (by rfl) (by assumption) ?_; (simp only [Act.at, List.setIfInBounds_toArray, List.set_cons_zero, List.set_cons_succ]))
            first
            | (refine take_wanted (i := 5) (v := ?_) rfl rfl (by kernel_rfl) (by kernel_rfl) (by kernel_rfl) (fun _ _ _ h => h) (by rfl) (by assumption) ?_ ?_; rotate_left; (focus (intro w hSw; (try dsimp only at hSw); go_simp; first | done | with_reducible rfl)); (simp only [Act.at, List.setIfInBounds_toArray, List.set_cons_zero, List.set_cons_succ]))
            | (refine take_unwanted (i := 5) rfl rfl (by kernel_rfl) (by kernel_rfl) (by kernel_rfl) (fun _ _ _ h => h) (by rfl) (by assumption) ?_; (simp only [Act.at, List.setIfInBounds_toArray, List.set_cons_zero, List.set_cons_succ]))
            first
            | (refine take_wanted (i := 6) (v := ?_) rfl rfl (by kernel_rfl) (by kernel_rfl) (by kernel_rfl) (fun _ _ _ h => h) (by rfl) (by assumption) ?_ ?_; rotate_left; (focus (intro w hSw; (try dsimp only at hSw); go_simp; first | done | with_reducible rfl)); (simp only [Act.at, List.setIfInBounds_toArray, List.set_cons_zero, List.set_cons_succ]))
            | (refine take_unwanted (i := 6) rfl rfl (by kernel_rfl) (by kernel_rfl) (by kernel_rfl) (fun _ _ _ h => h) (by rfl) (by assumption) ?_; (simp only [Act.at, List.setIfInBounds_toArray, List.set_cons_zero, List.set_cons_succ]))
            first
            | (refine take_wanted (i := 7) (v := ?_) rfl rfl (by kernel_rfl) (by kernel_rfl) (by kernel_rfl) (fun _ _ _ h => h) (by rfl) (by assumption) ?_ ?_; rotate_left; (focus (intro w hSw; (try dsimp only at hSw); go_simp; first | done | with_reducible rfl)); (simp only [Act.at, List.setIfInBounds_toArray, List.set_cons_zero, List.set_cons_succ]))
            | (refine take_unwanted (i := 7) rfl rfl (by kernel_rfl) (by kernel_rfl) (by kernel_rfl) (fun _ _ _ h => h) (by rfl) (by assumption) ?_; (simp only [Act.at, List.setIfInBounds_toArray, List.set_cons_zero, List.set_cons_succ]))
            refine take_call (i := 8) (by kernel_rfl) rfl rfl (by rfl) (fun K hK => ?_)
            go_simp
            refine HSE.out.mono ?_
            rintro r w9 ⟨rfl, hb9⟩
            have hS9 := HSB.out w9 hb9
            have HR9 := Lib.hid (HREL.out w9 (HBD.out.trans (hb9.mono HBD.out.size)))
            generalize decide (x.e = y.e) = wn at HR9 ⊢
            clear hb9 HREL HBD HSE HSB
            refine hK.out _ _ hS9 (fun hHeld => ?_)
            clear hK K
            try simp only [Act.put, List.setIfInBounds_toArray, List.set_cons_zero, List.set_cons_succ]
            first
            | (refine take_wanted (i := 9) (v := ?_) rfl rfl (by kernel_rfl) (by kernel_rfl) (by kernel_rfl) (fun _ _ _ h => h) (by rfl) (by assumption) ?_ ?_; rotate_left; (focus (intro w hSw; (try dsimp only at hSw); go_simp; first | done | with_reducible rfl)); (simp only [Act.at, List.setIfInBounds_toArray, List.set_cons_zero, List.set_cons_succ]))
            | (refine take_unwanted (i := 9) rfl rfl (by kernel_rfl) (by kernel_rfl) (by kernel_rfl) (fun _ _ _ h => h) (by rfl) (by assumption) ?_; (simp only [Act.at, List.setIfInBounds_toArray, List.set_cons_zero, List.set_cons_succ]))
            refine wpAnyH_done (by kernel_rfl) ?_ _
            clear hS9
            go_wp2_with fail
            go_roundg n
            case measure => omega
            case rel => exact ⟨k + 1, _, by have := HKN.out; omega, by go_num, rfl, HR9⟩
        · obtain hk1 : k = M1.length := by have := HM1.out; omega
          have hki : ¬ (k : Int) < (m1 : Int) := by have := HM1.out; omega
          rw [hk1] at HWB
          have HX : Hid ((wb = true ↔ (M1.map EntX.e = M2.map EntX.e ∧ Q1.length = Q2.length ∧ tp)) ∧ Below w6.heap.size w6 wr) := Lib.hid ⟨HWB.out.1.trans ⟨fun h => ⟨(takes_all _ _ h.1.1).1 h.2, h.1.2⟩, fun h => ⟨⟨by have := congrArg List.length h.1; rwa [List.length_map, List.length_map] at this, h.2⟩, takes_of h.1 _⟩⟩, HWB.out.2⟩
          clear HWB hk1
          go_wp2_with fail
          go_meet
          exact ⟨wb, rfl, HX⟩
    case rest =>
      obtain ⟨wb, rfl, HWB1⟩ := hcut
      go_upto_block 2 with fail
      go_cut [11] (fun v11 W => ∃ wb2 : Bool, v11 = .bool wb2 ∧ Hid (wb2 = res ∧ Below w6.heap.size w6 W))
      case first =>
        go_wp2_with fail
        go_loopg [11, 13] l1 (fun n v11 v13 wr => ∃ (k : Nat) (wq : Bool), k + n = l1 ∧ v13 = .int .i64 (k : Int) ∧ v11 = .bool wq ∧ Hid ((wq = true ↔ ((M1.map EntX.e = M2.map EntX.e ∧ Q1.length = Q2.length ∧ tp) ∧ (Q1.take k).map id = (Q2.take k).map id)) ∧ Below w6.heap.size w6 wr))
        case atStart => exact ⟨0, _, Nat.zero_add _, rfl, rfl, Lib.hid ⟨by simpa using HWB1.out.1, HWB1.out.2⟩⟩
        case round =>
          obtain ⟨k, wq, hkn, rfl, rfl, HWQ⟩ := hrel
          have hk0 : (0 : Int) ≤ (k : Int) := by omega
          by_cases hlt : k < Q1.length
          · have hki : (k : Int) < (l1 : Int) := by have := HN1.out; omega
            cases wq with
            | false =>
              have HX : Hid (false = res ∧ Below w6.heap.size w6 wr) := Lib.hid ⟨bools_eq HWQ.out.1 (HRES.out.trans ⟨fun h => ⟨⟨h.1, by rw [h.2.1], h.2.2⟩, by rw [h.2.1]⟩, fun h => absurd (HWQ.out.1.2 h) (by simp)⟩), HWQ.out.2⟩
              clear HWQ
              go_wp2_with fail
              go_meet
              exact ⟨false, rfl, HX⟩
            | true =>
              obtain ⟨n, hn⟩ : ∃ n, gk = n + 1 := ⟨gk - 1, by have := HN1.out; omega⟩
              subst hn
              have hbase := HWQ.out.1.1 rfl
              have hk2 : k < Q2.length := by have := hbase.1.2.1; omega
              have hki2 := idx2 HN2 hk2
              have hkc : (k : Int) < (d1 : Int) := by have := HMM.out.2.2.1.1; omega
              have hkc2 : (k : Int) < (d2 : Int) := by have := HMM.out.2.2.2.1; omega
              have hinc : IntKind.i64.wrap ((k : Int) + 1) = (k : Int) + 1 := by have := HL.out; rw [IntKind.wrap_i64]; omega
              obtain ⟨-, -, hx1, hx2⟩ := HR.out wr.drew HWQ.out.2.drew
              obtain ⟨b, off, hA1, -, -, p0, p1⟩ := RowQt.get hx1 k hlt
              obtain ⟨c, off2, hA2, -, -, p2, p3⟩ := RowQt.get hx2 k hk2
              have hst := takes_step (L := Q1) (R := Q2) id id hlt hk2
              obtain ⟨x, hx⟩ : ∃ x, Q1[k] = x := ⟨_, rfl⟩
              obtain ⟨y, hy⟩ : ∃ y, Q2[k] = y := ⟨_, rfl⟩
              rw [hx] at p0 p1 hst
              rw [hy] at p2 p3 hst
              obtain ⟨xn, xr⟩ := x
              obtain ⟨yn, yr⟩ := y
              dsimp only [id] at p0 p1 p2 p3 hst
              have hS : TwoQ b (off + k * 2) ⟨xn, xr⟩ c (off2 + k * 2) ⟨yn, yr⟩ wr.drew := ⟨p0, p1, p2, p3⟩
              have HREL : Hid ((decide (xn = yn ∧ xr = yr) = true ↔ ((M1.map EntX.e = M2.map EntX.e ∧ Q1.length = Q2.length ∧ tp) ∧ (Q1.take (k + 1)).map id = (Q2.take (k + 1)).map id)) ∧ Below w6.heap.size w6 wr.drew) := Lib.hid ⟨by
                rw [decide_eq_true_iff]
                refine ⟨fun h => ⟨hbase.1, hst.2 ⟨hbase.2, by rw [h.1, h.2]⟩⟩, fun h => ?_⟩
                have := (hst.1 h.2).2
                injection this with e1 e2
                exact ⟨e1, e2⟩, HWQ.out.2.drew⟩
              have HKN := Lib.hid hkn
              have hP := fun W => run_pteq xn xr yn yr W
              have hG := fun op o1 o2 W => run_ptguard op o1 o2 xn xr yn yr W
              subst hA1 hA2
              clear hx1 hx2 p0 p1 p2 p3 hst hx hy hbase HWQ hkn HWB1
              go_upto_region 13 with fail
              refine wp_region_held_drew (S := TwoQ b (off + k * 2) ⟨xn, xr⟩ c (off2 + k * 2) ⟨yn, yr⟩) (by kernel_rfl) hS (fun hHeld => ?_)
              generalize wr.drew = wd at hS hHeld HREL ⊢
              first
              | (refine take_wanted (i := 0) (v := ?_) rfl rfl (by kernel_rfl) (by kernel_rfl) (by kernel_rfl) (fun _ _ _ h => h) (by rfl) (by assumption) ?_ ?_; rotate_left; (focus (intro w hSw; (try dsimp only at hSw); go_simp; first | done | with_reducible rfl)); (simp only [Act.at, List.setIfInBounds_toArray, List.set_cons_zero, List.set_cons_succ]))
              | (refine take_unwanted (i := 0) rfl rfl (by kernel_rfl) (by kernel_rfl) (by kernel_rfl) (fun _ _ _ h => h) (by rfl) (by assumption) ?_; (simp only [Act.at, List.setIfInBounds_toArray, List.set_cons_zero, List.set_cons_succ]))
              first
              | (refine take_wanted (i := 1) (v := ?_) rfl rfl (by kernel_rfl) (by kernel_rfl) (by kernel_rfl) (fun _ _ _ h => h) (by rfl) (by assumption) ?_ ?_; rotate_left; (focus (intro w hSw; (try dsimp only at hSw); go_simp; first | done | with_reducible rfl)); (simp only [Act.at, List.setIfInBounds_toArray, List.set_cons_zero, List.set_cons_succ]))
              | (refine take_unwanted (i := 1) rfl rfl (by kernel_rfl) (by kernel_rfl) (by kernel_rfl) (fun _ _ _ h => h) (by rfl) (by assumption) ?_; (simp only [Act.at, List.setIfInBounds_toArray, List.set_cons_zero, List.set_cons_succ]))
              first
              | (refine take_wanted (i := 2) (v := ?_) rfl rfl (by kernel_rfl) (by kernel_rfl) (by kernel_rfl) (fun _ _ _ h => h) (by rfl) (by assumption) ?_ ?_; rotate_left; (focus (intro w hSw; (try dsimp only at hSw); go_simp; first | done | with_reducible rfl)); (simp only [Act.at, List.setIfInBounds_toArray, List.set_cons_zero, List.set_cons_succ]))
              | (refine take_unwanted (i := 2) rfl rfl (by kernel_rfl) (by kernel_rfl) (by kernel_rfl) (fun _ _ _ h => h) (by rfl) (by assumption) ?_; (simp only [Act.at, List.setIfInBounds_toArray, List.set_cons_zero, List.set_cons_succ]))
              first
              | (refine take_wanted (i := 3) (v := ?_) rfl rfl (by kernel_rfl) (by kernel_rfl) (by kernel_rfl) (fun _ _ _ h => h) (by rfl) (by assumption) ?_ ?_; rotate_left; (focus (intro w hSw; (try dsimp only at hSw); go_simp; first | done | with_reducible rfl)); (simp only [Act.at, List.setIfInBounds_toArray, List.set_cons_zero, List.set_cons_succ]))
              | (refine take_unwanted (i := 3) rfl rfl (by kernel_rfl) (by kernel_rfl) (by kernel_rfl) (fun _ _ _ h => h) (by rfl) (by assumption) ?_; (simp only [Act.at, List.setIfInBounds_toArray, List.set_cons_zero, List.set_cons_succ]))
              first
              | (refine take_wanted (i := 4) (v := ?_) rfl rfl (by kernel_rfl) (by kernel_rfl) (by kernel_rfl) (fun _ _ _ h => h) (by rfl) (by assumption) ?_ ?_; rotate_left; (focus (intro w hSw; (try dsimp only at hSw); go_simp; first | done | with_reducible rfl)); (simp only [Act.at, List.setIfInBounds_toArray, List.set_cons_zero, List.set_cons_succ]))
              | (refine take_unwanted (i := 4) rfl rfl (by kernel_rfl) (by kernel_rfl) (by kernel_rfl) (fun _ _ _ h => h) (by rfl) (by assumption) ?_; (simp only [Act.at, List.setIfInBounds_toArray, List.set_cons_zero, List.set_cons_succ]))
              first
              | (refine take_wanted (i := 5) (v := ?_) rfl rfl (by kernel_rfl) (by kernel_rfl) (by kernel_rfl) (fun _ _ _ h => h) (by rfl) (by assumption) ?_ ?_; rotate_left; (focus (intro w hSw; (try dsimp only at hSw); go_simp; first | done | with_reducible rfl)); (simp only [Act.at, List.setIfInBounds_toArray, List.set_cons_zero, List.set_cons_succ]))
              | (refine take_unwanted (i := 5) rfl rfl (by kernel_rfl) (by kernel_rfl) (by kernel_rfl) (fun _ _ _ h => h) (by rfl) (by assumption) ?_; (simp only [Act.at, List.setIfInBounds_toArray, List.set_cons_zero, List.set_cons_succ]))
              first
              | (refine take_wanted (i := 6) (v := ?_) rfl rfl (by kernel_rfl) (by kernel_rfl) (by kernel_rfl) (fun _ _ _ h => h) (by rfl) (by assumption) ?_ ?_; rotate_left; (focus (intro w hSw; (try dsimp only at hSw); go_simp; first | done | with_reducible rfl)); (simp only [Act.at, List.setIfInBounds_toArray, List.set_cons_zero, List.set_cons_succ]))
              | (refine take_unwanted (i := 6) rfl rfl (by kernel_rfl) (by kernel_rfl) (by kernel_rfl) (fun _ _ _ h => h) (by rfl) (by assumption) ?_; (simp only [Act.at, List.setIfInBounds_toArray, List.set_cons_zero, List.set_cons_succ]))
              first
              | (refine take_wanted (i := 7) (v := ?_) rfl rfl (by kernel_rfl) (by kernel_rfl) (by kernel_rfl) (fun _ _ _ h => h) (by rfl) (by assumption) ?_ ?_; rotate_left; (focus (intro w hSw; (try dsimp only at hSw); go_simp; first | done | with_reducible rfl)); (simp only [Act.at, List.setIfInBounds_toArray, List.set_cons_zero, List.set_cons_succ]))
              | (refine take_unwanted (i := 7) rfl rfl (by kernel_rfl) (by kernel_rfl) (by kernel_rfl) (fun _ _ _ h => h) (by rfl) (by assumption) ?_; (simp only [Act.at, List.setIfInBounds_toArray, List.set_cons_zero, List.set_cons_succ]))
              generalize decide (xn = yn ∧ xr = yr) = wn at HREL hP
              first
              | (refine take_wanted (i := 8) (v := ?_) rfl rfl (by kernel_rfl) (by kernel_rfl) (by kernel_rfl) (fun _ _ _ h => h) (by rfl) (by assumption) ?_ ?_; rotate_left; (focus (intro w hSw; (try dsimp only at hSw); go_simp; first | done | with_reducible rfl)); (simp only [Act.at, List.setIfInBounds_toArray, List.set_cons_zero, List.set_cons_succ]))
              | (refine take_unwanted (i := 8) rfl rfl (by kernel_rfl) (by kernel_rfl) (by kernel_rfl) (fun _ _ _ h => h) (by rfl) (by assumption) ?_; (simp only [Act.at, List.setIfInBounds_toArray, List.set_cons_zero, List.set_cons_succ]))
              first
              | (refine take_wanted (i := 9) (v := ?_) rfl rfl (by kernel_rfl) (by kernel_rfl) (by kernel_rfl) (fun _ _ _ h => h) (by rfl) (by assumption) ?_ ?_; rotate_left; (focus (intro w hSw; (try dsimp only at hSw); go_simp; first | done | with_reducible rfl)); (simp only [Act.at, List.setIfInBounds_toArray, List.set_cons_zero, List.set_cons_succ]))
              | (refine take_unwanted (i := 9) rfl rfl (by kernel_rfl) (by kernel_rfl) (by kernel_rfl) (fun _ _ _ h => h) (by rfl) (by assumption) ?_; (simp only [Act.at, List.setIfInBounds_toArray, List.set_cons_zero, List.set_cons_succ]))
              refine wpAnyH_done (by kernel_rfl) ?_ _
              clear hS hP hG
              go_wp2_with fail
              go_roundg n
              case measure => omega
              case rel => exact ⟨k + 1, _, by have := HKN.out; omega, by go_num, rfl, HREL⟩
          · obtain hk1 : k = Q1.length := by have := HN1.out; omega
            have hki : ¬ (k : Int) < (l1 : Int) := by have := HN1.out; omega
            rw [hk1] at HWQ
            have HX : Hid (wq = res ∧ Below w6.heap.size w6 wr) := Lib.hid ⟨bools_eq HWQ.out.1 (HRES.out.trans ⟨fun h => ⟨⟨h.1, by rw [h.2.1], h.2.2⟩, by rw [h.2.1]⟩, fun h => ⟨h.1.1, by have := (takes_all id id h.1.2.1).1 h.2; rwa [List.map_id, List.map_id] at this, h.1.2.2⟩⟩), HWQ.out.2⟩
            clear HWQ hk1
            go_wp2_with fail
            go_meet
            exact ⟨wq, rfl, HX⟩
      case rest =>
        obtain ⟨wb2, rfl, HF⟩ := hcut
        obtain ⟨hw, hbf⟩ := HF.out
        subst hw
        have hbb : (wb2 == wb2) = true := by simp
        have HBF := Lib.hid hbf
        clear HF hbf HRES HWB1
        go_wp2_with fail
        refine ((HSAME.out _ HBF.out).1).mono ?_
        rintro r wd ⟨rfl, hbd⟩
        have HBD := Lib.hid (HBF.out.trans (hbd.mono HBF.out.size))
        clear hbd HBF
        go_wp2_with fail
        refine ((HSAME.out _ HBD.out).2.1).mono ?_
        rintro r we ⟨rfl, hbe⟩
        have HBE := Lib.hid (HBD.out.trans (hbe.mono HBD.out.size))
        clear hbe HBD
        go_wp2_with fail
        refine ((HSAME.out _ HBE.out).2.2).mono ?_
        rintro r wf ⟨rfl, hbf⟩
        have HBF := Lib.hid (HBE.out.trans (hbf.mono HBE.out.size))
        clear hbf HBE
        go_wp2_with fail
        refine (HAW.out _).mono ?_
        rintro r wg ⟨rfl, hbg⟩
        have HBG := Lib.hid (HBF.out.trans (hbg.mono HBF.out.size))
        clear hbg HBF
        go_wp2_with fail
        go_ret
        exact ⟨rfl, HFIN.out _ HBG.out⟩
  · subst e1
    subst e2
    have k3 : (t1 == t2) = false := by rw [beq_eq_false_iff_ne]; exact e3
    have HW0 : Hid (false = true ↔ (M1.length = M2.length ∧ Q1.length = Q2.length ∧ tp)) := Lib.hid ⟨by simp, fun h => absurd (by rw [HTP.out]; exact h.2.2) e3⟩
    clear e3
    go_wp2_with fail
    refine ((HNOW.out _ (Below.refl _ _)).1).mono ?_
    rintro r w7 ⟨rfl, hb7⟩
    have HB7 := Lib.hid hb7
    clear hb7
    go_wp2_with fail
    refine ((HNOW.out w7 HB7.out).2).mono ?_
    rintro r w8 ⟨rfl, hb8⟩
    have HBW := Lib.hid (HB7.out.trans (hb8.mono HB7.out.size))
    clear hb8 HB7
    go_upto_region 6 with fail
    clear k3 HNOW HTP
    go_upto_block 0 with fail
    go_cut [11] (fun v11 W => ∃ wb : Bool, v11 = .bool wb ∧ Hid ((wb = true ↔ (M1.map EntX.e = M2.map EntX.e ∧ Q1.length = Q2.length ∧ tp)) ∧ Below w6.heap.size w6 W))
    case first =>
      go_wp2_with fail
      go_loopg [11, 12] m1 (fun n v11 v12 wr => ∃ (k : Nat) (wb : Bool), k + n = m1 ∧ v12 = .int .i64 (k : Int) ∧ v11 = .bool wb ∧ Hid ((wb = true ↔ ((M1.length = M2.length ∧ Q1.length = Q2.length ∧ tp) ∧ (M1.take k).map EntX.e = (M2.take k).map EntX.e)) ∧ Below w6.heap.size w6 wr))
      case atStart => exact ⟨0, _, Nat.zero_add _, rfl, rfl, Lib.hid ⟨by simpa using HW0.out, HBW.out⟩⟩
      case round =>
        obtain ⟨k, wb, hkn, rfl, rfl, HWB⟩ := hrel
        have hk0 : (0 : Int) ≤ (k : Int) := by omega
        by_cases hlt : k < M1.length
        · have hki : (k : Int) < (m1 : Int) := by have := HM1.out; omega
          cases wb with
          | false =>
            have HX : Hid ((false = true ↔ (M1.map EntX.e = M2.map EntX.e ∧ Q1.length = Q2.length ∧ tp)) ∧ Below w6.heap.size w6 wr) := Lib.hid ⟨⟨by simp, fun h => absurd (HWB.out.1.2 ⟨⟨by have := congrArg List.length h.1; rwa [List.length_map, List.length_map] at this, h.2⟩, takes_of h.1 k⟩) (by simp)⟩, HWB.out.2⟩
            clear HWB
            go_wp2_with fail
            go_meet
            exact ⟨false, rfl, HX⟩
          | true =>
            obtain ⟨n, hn⟩ : ∃ n, gk = n + 1 := ⟨gk - 1, by have := HM1.out; omega⟩
            subst hn
            have hbase := HWB.out.1.1 rfl
            have hk2 : k < M2.length := by have := hbase.1.1; omega
            have hki2 := idx2 HM2 hk2
            have hkc : (k : Int) < (c1 : Int) := by have := HMM.out.1.1; omega
            have hkc2 : (k : Int) < (c2 : Int) := by have := HMM.out.2.1.1; omega
            have hinc : IntKind.i64.wrap ((k : Int) + 1) = (k : Int) + 1 := by have := HL.out; rw [IntKind.wrap_i64]; omega
            obtain ⟨hx1, hx2, -, -⟩ := HR.out wr.drew HWB.out.2.drew
            obtain ⟨b, off, hA1, -, -, p0⟩ := RowX.get hx1 k hlt
            obtain ⟨c, off2, hA2, -, -, p1⟩ := RowX.get hx2 k hk2
            have hin1 := hx1.ents _ (List.getElem_mem hlt)
            have hin2 := hx2.ents _ (List.getElem_mem hk2)
            have hst := takes_step (L := M1) (R := M2) EntX.e EntX.e hlt hk2
            obtain ⟨x, hx⟩ : ∃ x, M1[k] = x := ⟨_, rfl⟩
            obtain ⟨y, hy⟩ : ∃ y, M2[k] = y := ⟨_, rfl⟩
            rw [hx] at p0 hin1 hst
            rw [hy] at p1 hin2 hst
            have hS : TwoX b (off + k * 7) x c (off2 + k * 7) y wr.drew := ⟨p0, p1⟩
            have HREL : Hid (∀ W, Below w6.heap.size w6 W → (decide (x.e = y.e) = true ↔ ((M1.length = M2.length ∧ Q1.length = Q2.length ∧ tp) ∧ (M1.take (k + 1)).map EntX.e = (M2.take (k + 1)).map EntX.e)) ∧ Below w6.heap.size w6 W) := Lib.hid (fun W hb => ⟨by rw [decide_eq_true_iff, hst]; exact ⟨fun h => ⟨hbase.1, hbase.2, h⟩, fun h => h.2.2⟩, hb⟩)
            have HSE := Lib.hid (esameE_any hin1 hin2)
            have HBD := Lib.hid HWB.out.2.drew
            have HKN := Lib.hid hkn
            have HSB : Hid (∀ w9, Below wr.drew.heap.size wr.drew w9 → TwoX b (off + k * 7) x c (off2 + k * 7) y w9) := Lib.hid (fun w9 hb9 => by
              obtain ⟨hy1, hy2, -, -⟩ := HR.out w9 (HWB.out.2.drew.trans (hb9.mono HWB.out.2.drew.size))
              obtain ⟨b', off', hA1', -, -, p0'⟩ := RowX.get hy1 k hlt
              obtain ⟨c', off2', hA2', -, -, p1'⟩ := RowX.get hy2 k hk2
              rw [hA1] at hA1'
              rw [hA2] at hA2'
              injection hA1' with hA1'
              injection hA2' with hA2'
              injection hA1' with e1 e2
              injection hA2' with e3 e4
              subst e1 e2 e3 e4
              rw [hx] at p0'
              rw [hy] at p1'
              exact ⟨p0', p1'⟩)
            subst hA1 hA2
            clear hx1 hx2 p0 p1 hin1 hin2 hst hx hy hbase HWB hkn HW0 HBW
            go_upto_region 9 with fail
            refine wp_region_held_drew (S := TwoX b (off + k * 7) x c (off2 + k * 7) y) (by kernel_rfl) hS (fun hHeld => ?_)
            generalize wr.drew = wd at hS hHeld HSE HBD HSB ⊢
            first
            | (refine take_wanted (i := 0) (v := ?_) rfl rfl (by kernel_rfl) (by kernel_rfl) (by kernel_rfl) (fun _ _ _ h => h) (by rfl) (by assumption) ?_ ?_; rotate_left; (focus (intro w hSw; (try dsimp only at hSw); go_simp; first | done | with_reducible rfl)); (simp only [Act.at, List.setIfInBounds_toArray, List.set_cons_zero, List.set_cons_succ]))
            | (refine take_unwanted (i := 0) rfl rfl (by kernel_rfl) (by kernel_rfl) (by kernel_rfl) (fun _ _ _ h => h) (by rfl) (by assumption) ?_; (simp only [Act.at, List.setIfInBounds_toArray, List.set_cons_zero, List.set_cons_succ]))
            first
            | (refine take_wanted (i := 1) (v := ?_) rfl rfl (by kernel_rfl) (by kernel_rfl) (by kernel_rfl) (fun _ _ _ h => h) (by rfl) (by assumption) ?_ ?_; rotate_left; (focus (intro w hSw; (try dsimp only at hSw); go_simp; first | done | with_reducible rfl)); (simp only [Act.at, List.setIfInBounds_toArray, List.set_cons_zero, List.set_cons_succ]))
            | (refine take_unwanted (i := 1) rfl rfl (by kernel_rfl) (by kernel_rfl) (by kernel_rfl) (fun _ _ _ h => h) (by rfl) (by assumption) ?_; (simp only [Act.at, List.setIfInBounds_toArray, List.set_cons_zero, List.set_cons_succ]))
            first
            | (refine take_wanted (i := 2) (v := ?_) rfl rfl (by kernel_rfl) (by kernel_rfl) (by kernel_rfl) (fun _ _ _ h => h) (by rfl) (by assumption) ?_ ?_; rotate_left; (focus (intro w hSw; (try dsimp only at hSw); go_simp; first | done | with_reducible rfl)); (simp only [Act.at, List.setIfInBounds_toArray, List.set_cons_zero, List.set_cons_succ]))
            | (refine take_unwanted (i := 2) rfl rfl (by kernel_rfl) (by kernel_rfl) (by kernel_rfl) (fun _ _ _ h => h) (by rfl) (by assumption) ?_; (simp only [Act.at, List.setIfInBounds_toArray, List.set_cons_zero, List.set_cons_succ]))
            first
            | (refine take_wanted (i := 3) (v := ?_) rfl rfl (by kernel_rfl) (by kernel_rfl) (by kernel_rfl) (fun _ _ _ h => h) (by rfl) (by assumption) ?_ ?_; rotate_left; (focus (intro w hSw; (try dsimp only at hSw); go_simp; first | done | with_reducible rfl)); (simp only [Act.at, List.setIfInBounds_toArray, List.set_cons_zero, List.set_cons_succ]))
            | (refine take_unwanted (i := 3) rfl rfl (by kernel_rfl) (by kernel_rfl) (by kernel_rfl) (fun _ _ _ h => h) (by rfl) (by assumption) ?_; (simp only [Act.at, List.setIfInBounds_toArray, List.set_cons_zero, List.set_cons_succ]))
            first
            | (refine take_wanted (i := 4) (v := ?_) rfl rfl (by kernel_rfl) (by kernel_rfl) (by kernel_rfl) (fun _ _ _ h => h) (by rfl) (by assumption) ?_ ?_; rotate_left; (focus (intro w hSw; (try dsimp only at hSw); go_simp; first | done | with_reducible rfl)); (simp only [Act.at, List.setIfInBounds_toArray, List.set_cons_zero, List.set_cons_succ]))
            | (refine take_unwanted (i := 4) rfl rfl (by kernel_rfl) (by kernel_rfl) (by kernel_rfl) (fun _ _ _ h => h) (by rfl) (by assumption) ?_; (simp only [Act.at, List.setIfInBounds_toArray, List.set_cons_zero, List.set_cons_succ]))
            first
            | (refine take_wanted (i := 5) (v := ?_) rfl rfl (by kernel_rfl) (by kernel_rfl) (by kernel_rfl) (fun _ _ _ h => h) (by rfl) (by assumption) ?_ ?_; rotate_left; (focus (intro w hSw; (try dsimp only at hSw); go_simp; first | done | with_reducible rfl)); (simp only [Act.at, List.setIfInBounds_toArray, List.set_cons_zero, List.set_cons_succ]))
            | (refine take_unwanted (i := 5) rfl rfl (by kernel_rfl) (by kernel_rfl) (by kernel_rfl) (fun _ _ _ h => h) (by rfl) (by assumption) ?_; (simp only [Act.at, List.setIfInBounds_toArray, List.set_cons_zero, List.set_cons_succ]))
            first
            | (refine take_wanted (i := 6) (v := ?_) rfl rfl (by kernel_rfl) (by kernel_rfl) (by kernel_rfl) (fun _ _ _ h => h) (by rfl) (by assumption) ?_ ?_; rotate_left; (focus (intro w hSw; (try dsimp only at hSw); go_simp; first | done | with_reducible rfl)); (simp only [Act.at, List.setIfInBounds_toArray, List.set_cons_zero, List.set_cons_succ]))
            | (refine take_unwanted (i := 6) rfl rfl (by kernel_rfl) (by kernel_rfl) (by kernel_rfl) (fun _ _ _ h => h) (by rfl) (by assumption) ?_; (simp only [Act.at, List.setIfInBounds_toArray, List.set_cons_zero, List.set_cons_succ]))
            first
            | (refine take_wanted (i := 7) (v := ?_) rfl rfl (by kernel_rfl) (by kernel_rfl) (by kernel_rfl) (fun _ _ _ h => h) (by rfl) (by assumption) ?_ ?_; rotate_left; (focus (intro w hSw; (try dsimp only at hSw); go_simp; first | done | with_reducible rfl)); (simp only [Act.at, List.setIfInBounds_toArray, List.set_cons_zero, List.set_cons_succ]))
            | (refine take_unwanted (i := 7) rfl rfl (by kernel_rfl) (by kernel_rfl) (by kernel_rfl) (fun _ _ _ h => h) (by rfl) (by assumption) ?_; (simp only [Act.at, List.setIfInBounds_toArray, List.set_cons_zero, List.set_cons_succ]))
            refine take_call (i := 8) (by kernel_rfl) rfl rfl (by rfl) (fun K hK => ?_)
            go_simp
            refine HSE.out.mono ?_
            rintro r w9 ⟨rfl, hb9⟩
            have hS9 := HSB.out w9 hb9
            have HR9 := Lib.hid (HREL.out w9 (HBD.out.trans (hb9.mono HBD.out.size)))
            generalize decide (x.e = y.e) = wn at HR9 ⊢
            clear hb9 HREL HBD HSE HSB
            refine hK.out _ _ hS9 (fun hHeld => ?_)
            clear hK K
            try simp only [Act.put, List.setIfInBounds_toArray, List.set_cons_zero, List.set_cons_succ]
            first
            | (refine take_wanted (i := 9) (v := ?_) rfl rfl (by kernel_rfl) (by kernel_rfl) (by kernel_rfl) (fun _ _ _ h => h) (by rfl) (by assumption) ?_ ?_; rotate_left; (focus (intro w hSw; (try dsimp only at hSw); go_simp; first | done | with_reducible rfl)); (simp only [Act.at, List.setIfInBounds_toArray, List.set_cons_zero, List.set_cons_succ]))
            | (refine take_unwanted (i := 9) rfl rfl (by kernel_rfl) (by kernel_rfl) (by kernel_rfl) (fun _ _ _ h => h) (by rfl) (by assumption) ?_; (simp only [Act.at, List.setIfInBounds_toArray, List.set_cons_zero, List.set_cons_succ]))
            refine wpAnyH_done (by kernel_rfl) ?_ _
            clear hS9
            go_wp2_with fail
            go_roundg n
            case measure => omega
            case rel => exact ⟨k + 1, _, by have := HKN.out; omega, by go_num, rfl, HR9⟩
        · obtain hk1 : k = M1.length := by have := HM1.out; omega
          have hki : ¬ (k : Int) < (m1 : Int) := by have := HM1.out; omega
          rw [hk1] at HWB
          have HX : Hid ((wb = true ↔ (M1.map EntX.e = M2.map EntX.e ∧ Q1.length = Q2.length ∧ tp)) ∧ Below w6.heap.size w6 wr) := Lib.hid ⟨HWB.out.1.trans ⟨fun h => ⟨(takes_all _ _ h.1.1).1 h.2, h.1.2⟩, fun h => ⟨⟨by have := congrArg List.length h.1; rwa [List.length_map, List.length_map] at this, h.2⟩, takes_of h.1 _⟩⟩, HWB.out.2⟩
          clear HWB hk1
          go_wp2_with fail
          go_meet
          exact ⟨wb, rfl, HX⟩
    case rest =>
      obtain ⟨wb, rfl, HWB1⟩ := hcut
      go_upto_block 2 with fail
      go_cut [11] (fun v11 W => ∃ wb2 : Bool, v11 = .bool wb2 ∧ Hid (wb2 = res ∧ Below w6.heap.size w6 W))
      case first =>
        go_wp2_with fail
        go_loopg [11, 13] l1 (fun n v11 v13 wr => ∃ (k : Nat) (wq : Bool), k + n = l1 ∧ v13 = .int .i64 (k : Int) ∧ v11 = .bool wq ∧ Hid ((wq = true ↔ ((M1.map EntX.e = M2.map EntX.e ∧ Q1.length = Q2.length ∧ tp) ∧ (Q1.take k).map id = (Q2.take k).map id)) ∧ Below w6.heap.size w6 wr))
        case atStart => exact ⟨0, _, Nat.zero_add _, rfl, rfl, Lib.hid ⟨by simpa using HWB1.out.1, HWB1.out.2⟩⟩
        case round =>
          obtain ⟨k, wq, hkn, rfl, rfl, HWQ⟩ := hrel
          have hk0 : (0 : Int) ≤ (k : Int) := by omega
          by_cases hlt : k < Q1.length
          · have hki : (k : Int) < (l1 : Int) := by have := HN1.out; omega
            cases wq with
            | false =>
              have HX : Hid (false = res ∧ Below w6.heap.size w6 wr) := Lib.hid ⟨bools_eq HWQ.out.1 (HRES.out.trans ⟨fun h => ⟨⟨h.1, by rw [h.2.1], h.2.2⟩, by rw [h.2.1]⟩, fun h => absurd (HWQ.out.1.2 h) (by simp)⟩), HWQ.out.2⟩
              clear HWQ
              go_wp2_with fail
              go_meet
              exact ⟨false, rfl, HX⟩
            | true =>
              obtain ⟨n, hn⟩ : ∃ n, gk = n + 1 := ⟨gk - 1, by have := HN1.out; omega⟩
              subst hn
              have hbase := HWQ.out.1.1 rfl
              have hk2 : k < Q2.length := by have := hbase.1.2.1; omega
              have hki2 := idx2 HN2 hk2
              have hkc : (k : Int) < (d1 : Int) := by have := HMM.out.2.2.1.1; omega
              have hkc2 : (k : Int) < (d2 : Int) := by have := HMM.out.2.2.2.1; omega
              have hinc : IntKind.i64.wrap ((k : Int) + 1) = (k : Int) + 1 := by have := HL.out; rw [IntKind.wrap_i64]; omega
              obtain ⟨-, -, hx1, hx2⟩ := HR.out wr.drew HWQ.out.2.drew
              obtain ⟨b, off, hA1, -, -, p0, p1⟩ := RowQt.get hx1 k hlt
              obtain ⟨c, off2, hA2, -, -, p2, p3⟩ := RowQt.get hx2 k hk2
              have hst := takes_step (L := Q1) (R := Q2) id id hlt hk2
              obtain ⟨x, hx⟩ : ∃ x, Q1[k] = x := ⟨_, rfl⟩
              obtain ⟨y, hy⟩ : ∃ y, Q2[k] = y := ⟨_, rfl⟩
              rw [hx] at p0 p1 hst
              rw [hy] at p2 p3 hst
              obtain ⟨xn, xr⟩ := x
              obtain ⟨yn, yr⟩ := y
              dsimp only [id] at p0 p1 p2 p3 hst
              have hS : TwoQ b (off + k * 2) ⟨xn, xr⟩ c (off2 + k * 2) ⟨yn, yr⟩ wr.drew := ⟨p0, p1, p2, p3⟩
              have HREL : Hid ((decide (xn = yn ∧ xr = yr) = true ↔ ((M1.map EntX.e = M2.map EntX.e ∧ Q1.length = Q2.length ∧ tp) ∧ (Q1.take (k + 1)).map id = (Q2.take (k + 1)).map id)) ∧ Below w6.heap.size w6 wr.drew) := Lib.hid ⟨by
                rw [decide_eq_true_iff]
                refine ⟨fun h => ⟨hbase.1, hst.2 ⟨hbase.2, by rw [h.1, h.2]⟩⟩, fun h => ?_⟩
                have := (hst.1 h.2).2
                injection this with e1 e2
                exact ⟨e1, e2⟩, HWQ.out.2.drew⟩
              have HKN := Lib.hid hkn
              have hP := fun W => run_pteq xn xr yn yr W
              have hG := fun op o1 o2 W => run_ptguard op o1 o2 xn xr yn yr W
              subst hA1 hA2
              clear hx1 hx2 p0 p1 p2 p3 hst hx hy hbase HWQ hkn HWB1
              go_upto_region 13 with fail
              refine wp_region_held_drew (S := TwoQ b (off + k * 2) ⟨xn, xr⟩ c (off2 + k * 2) ⟨yn, yr⟩) (by kernel_rfl) hS (fun hHeld => ?_)
              generalize wr.drew = wd at hS hHeld HREL ⊢
              first
              | (refine take_wanted (i := 0) (v := ?_) rfl rfl (by kernel_rfl) (by kernel_rfl) (by kernel_rfl) (fun _ _ _ h => h) (by rfl) (by assumption) ?_ ?_; rotate_left; (focus (intro w hSw; (try dsimp only at hSw); go_simp; first | done | with_reducible rfl)); (simp only [Act.at, List.setIfInBounds_toArray, List.set_cons_zero, List.set_cons_succ]))
              | (refine take_unwanted (i := 0) rfl rfl (by kernel_rfl) (by kernel_rfl) (by kernel_rfl) (fun _ _ _ h => h) (by rfl) (by assumption) ?_; (simp only [Act.at, List.setIfInBounds_toArray, List.set_cons_zero, List.set_cons_succ]))
              first
              | (refine take_wanted (i := 1) (v := ?_) rfl rfl (by kernel_rfl) (by kernel_rfl) (by kernel_rfl) (fun _ _ _ h => h) (by rfl) (by assumption) ?_ ?_; rotate_left; (focus (intro w hSw; (try dsimp only at hSw); go_simp; first | done | with_reducible rfl)); (simp only [Act.at, List.setIfInBounds_toArray, List.set_cons_zero, List.set_cons_succ]))
              | (refine take_unwanted (i := 1) rfl rfl (by kernel_rfl) (by kernel_rfl) (by kernel_rfl) (fun _ _ _ h => h) (by rfl) (by assumption) ?_; (simp only [Act.at, List.setIfInBounds_toArray, List.set_cons_zero, List.set_cons_succ]))
              first
              | (refine take_wanted (i := 2) (v := ?_) rfl rfl (by kernel_rfl) (by kernel_rfl) (by kernel_rfl) (fun _ _ _ h => h) (by rfl) (by assumption) ?_ ?_; rotate_left; (focus (intro w hSw; (try dsimp only at hSw); go_simp; first | done | with_reducible rfl)); (simp only [Act.at, List.setIfInBounds_toArray, List.set_cons_zero, List.set_cons_succ]))
              | (refine take_unwanted (i := 2) rfl rfl (by kernel_rfl) (by kernel_rfl) (by kernel_rfl) (fun _ _ _ h => h) (by rfl) (by assumption) ?_; (simp only [Act.at, List.setIfInBounds_toArray, List.set_cons_zero, List.set_cons_succ]))
              first
              | (refine take_wanted (i := 3) (v := ?_) rfl rfl (by kernel_rfl) (by kernel_rfl) (by kernel_rfl) (fun _ _ _ h => h) (by rfl) (by assumption) ?_ ?_; rotate_left; (focus (intro w hSw; (try dsimp only at hSw); go_simp; first | done | with_reducible rfl)); (simp only [Act.at, List.setIfInBounds_toArray, List.set_cons_zero, List.set_cons_succ]))
              | (refine take_unwanted (i := 3) rfl rfl (by kernel_rfl) (by kernel_rfl) (by kernel_rfl) (fun _ _ _ h => h) (by rfl) (by assumption) ?_; (simp only [Act.at, List.setIfInBounds_toArray, List.set_cons_zero, List.set_cons_succ]))
              first
              | (refine take_wanted (i := 4) (v := ?_) rfl rfl (by kernel_rfl) (by kernel_rfl) (by kernel_rfl) (fun _ _ _ h => h) (by rfl) (by assumption) ?_ ?_; rotate_left; (focus (intro w hSw; (try dsimp only at hSw); go_simp; first | done | with_reducible rfl)); (simp only [Act.at, List.setIfInBounds_toArray, List.set_cons_zero, List.set_cons_succ]))
              | (refine take_unwanted (i := 4) rfl rfl (by kernel_rfl) (by kernel_rfl) (by kernel_rfl) (fun _ _ _ h => h) (by rfl) (by assumption) ?_; (simp only [Act.at, List.setIfInBounds_toArray, List.set_cons_zero, List.set_cons_succ]))
              first
              | (refine take_wanted (i := 5) (v := ?_) rfl rfl (by kernel_rfl) (by kernel_rfl) (by kernel_rfl) (fun _ _ _ h => h) (by rfl) (by assumption) ?_ ?_; rotate_left; (focus (intro w hSw; (try dsimp only at hSw); go_simp; first | done | with_reducible rfl)); (simp only [Act.at, List.setIfInBounds_toArray, List.set_cons_zero, List.set_cons_succ]))
              | (refine take_unwanted (i := 5) rfl rfl (by kernel_rfl) (by kernel_rfl) (by kernel_rfl) (fun _ _ _ h => h) (by rfl) (by assumption) ?_; (simp only [Act.at, List.setIfInBounds_toArray, List.set_cons_zero, List.set_cons_succ]))
              first
              | (refine take_wanted (i := 6) (v := ?_) rfl rfl (by kernel_rfl) (by kernel_rfl) (by kernel_rfl) (fun _ _ _ h => h) (by rfl) (by assumption) ?_ ?_; rotate_left; (focus (intro w hSw; (try dsimp only at hSw); go_simp; first | done | with_reducible rfl)); (simp only [Act.at, List.setIfInBounds_toArray, List.set_cons_zero, List.set_cons_succ]))
              | (refine take_unwanted (i := 6) rfl rfl (by kernel_rfl) (by kernel_rfl) (by kernel_rfl) (fun _ _ _ h => h) (by rfl) (by assumption) ?_; (simp only [Act.at, List.setIfInBounds_toArray, List.set_cons_zero, List.set_cons_succ]))
              first
              | (refine take_wanted (i := 7) (v := ?_) rfl rfl (by kernel_rfl) (by kernel_rfl) (by kernel_rfl) (fun _ _ _ h => h) (by rfl) (by assumption) ?_ ?_; rotate_left; (focus (intro w hSw; (try dsimp only at hSw); go_simp; first | done | with_reducible rfl)); (simp only [Act.at, List.setIfInBounds_toArray, List.set_cons_zero, List.set_cons_succ]))
              | (refine take_unwanted (i := 7) rfl rfl (by kernel_rfl) (by kernel_rfl) (by kernel_rfl) (fun _ _ _ h => h) (by rfl) (by assumption) ?_; (simp only [Act.at, List.setIfInBounds_toArray, List.set_cons_zero, List.set_cons_succ]))
              generalize decide (xn = yn ∧ xr = yr) = wn at HREL hP
              first
              | (refine take_wanted (i := 8) (v := ?_) rfl rfl (by kernel_rfl) (by kernel_rfl) (by kernel_rfl) (fun _ _ _ h => h) (by rfl) (by assumption) ?_ ?_; rotate_left; (focus (intro w hSw; (try dsimp only at hSw); go_simp; first | done | with_reducible rfl)); (simp only [Act.at, List.setIfInBounds_toArray, List.set_cons_zero, List.set_cons_succ]))
              | (refine take_unwanted (i := 8) rfl rfl (by kernel_rfl) (by kernel_rfl) (by kernel_rfl) (fun _ _ _ h => h) (by rfl) (by assumption) ?_; (simp only [Act.at, List.setIfInBounds_toArray, List.set_cons_zero, List.set_cons_succ]))
              first
              | (refine take_wanted (i := 9) (v := ?_) rfl rfl (by kernel_rfl) (by kernel_rfl) (by kernel_rfl) (fun _ _ _ h => h) (by rfl) (by assumption) ?_ ?_; rotate_left; (focus (intro w hSw; (try dsimp only at hSw); go_simp; first | done | with_reducible rfl)); (simp only [Act.at, List.setIfInBounds_toArray, List.set_cons_zero, List.set_cons_succ]))
              | (refine take_unwanted (i := 9) rfl rfl (by kernel_rfl) (by kernel_rfl) (by kernel_rfl) (fun _ _ _ h => h) (by rfl) (by assumption) ?_; (simp only [Act.at, List.setIfInBounds_toArray, List.set_cons_zero, List.set_cons_succ]))
              refine wpAnyH_done (by kernel_rfl) ?_ _
              clear hS hP hG
              go_wp2_with fail
              go_roundg n
              case measure => omega
              case rel => exact ⟨k + 1, _, by have := HKN.out; omega, by go_num, rfl, HREL⟩
          · obtain hk1 : k = Q1.length := by have := HN1.out; omega
            have hki : ¬ (k : Int) < (l1 : Int) := by have := HN1.out; omega
            rw [hk1] at HWQ
            have HX : Hid (wq = res ∧ Below w6.heap.size w6 wr) := Lib.hid ⟨bools_eq HWQ.out.1 (HRES.out.trans ⟨fun h => ⟨⟨h.1, by rw [h.2.1], h.2.2⟩, by rw [h.2.1]⟩, fun h => ⟨h.1.1, by have := (takes_all id id h.1.2.1).1 h.2; rwa [List.map_id, List.map_id] at this, h.1.2.2⟩⟩), HWQ.out.2⟩
            clear HWQ hk1
            go_wp2_with fail
            go_meet
            exact ⟨wq, rfl, HX⟩
      case rest =>
        obtain ⟨wb2, rfl, HF⟩ := hcut
        obtain ⟨hw, hbf⟩ := HF.out
        subst hw
        have hbb : (wb2 == wb2) = true := by simp
        have HBF := Lib.hid hbf
        clear HF hbf HRES HWB1
        go_wp2_with fail
        refine ((HSAME.out _ HBF.out).1).mono ?_
        rintro r wd ⟨rfl, hbd⟩
        have HBD := Lib.hid (HBF.out.trans (hbd.mono HBF.out.size))
        clear hbd HBF
        go_wp2_with fail
        refine ((HSAME.out _ HBD.out).2.1).mono ?_
        rintro r we ⟨rfl, hbe⟩
        have HBE := Lib.hid (HBD.out.trans (hbe.mono HBD.out.size))
        clear hbe HBD
        go_wp2_with fail
        refine ((HSAME.out _ HBE.out).2.2).mono ?_
        rintro r wf ⟨rfl, hbf⟩
        have HBF := Lib.hid (HBE.out.trans (hbf.mono HBE.out.size))
        clear hbf HBE
        go_wp2_with fail
        refine (HAW.out _).mono ?_
        rintro r wg ⟨rfl, hbg⟩
        have HBG := Lib.hid (HBF.out.trans (hbg.mono HBF.out.size))
        clear hbg HBF
        go_wp2_with fail
        go_ret
        exact ⟨rfl, HFIN.out _ HBG.out⟩
  · subst e1
    subst e2
    have HW0 : Hid (true = true ↔ (M1.length = M2.length ∧ Q1.length = Q2.length ∧ tp)) := Lib.hid ⟨fun _ => ⟨by rw [HM1.out, HM2.out], by rw [HN1.out, HN2.out], by rw [← HTP.out]; exact e3⟩, fun _ => rfl⟩
    clear HTP
    subst e3
    go_wp2_with fail
    refine ((HNOW.out _ (Below.refl _ _)).1).mono ?_
    rintro r w7 ⟨rfl, hb7⟩
    have HB7 := Lib.hid hb7
    clear hb7
    go_wp2_with fail
    refine ((HNOW.out w7 HB7.out).2).mono ?_
    rintro r w8 ⟨rfl, hb8⟩
    have HBW := Lib.hid (HB7.out.trans (hb8.mono HB7.out.size))
    clear hb8 HB7
    go_upto_region 6 with fail
    clear HNOW
    go_upto_block 0 with fail
    go_cut [11] (fun v11 W => ∃ wb : Bool, v11 = .bool wb ∧ Hid ((wb = true ↔ (M1.map EntX.e = M2.map EntX.e ∧ Q1.length = Q2.length ∧ tp)) ∧ Below w6.heap.size w6 W))
    case first =>
      go_wp2_with fail
      go_loopg [11, 12] m1 (fun n v11 v12 wr => ∃ (k : Nat) (wb : Bool), k + n = m1 ∧ v12 = .int .i64 (k : Int) ∧ v11 = .bool wb ∧ Hid ((wb = true ↔ ((M1.length = M2.length ∧ Q1.length = Q2.length ∧ tp) ∧ (M1.take k).map EntX.e = (M2.take k).map EntX.e)) ∧ Below w6.heap.size w6 wr))
      case atStart => exact ⟨0, _, Nat.zero_add _, rfl, rfl, Lib.hid ⟨by simpa using HW0.out, HBW.out⟩⟩
      case round =>
        obtain ⟨k, wb, hkn, rfl, rfl, HWB⟩ := hrel
        have hk0 : (0 : Int) ≤ (k : Int) := by omega
        by_cases hlt : k < M1.length
        · have hki : (k : Int) < (m1 : Int) := by have := HM1.out; omega
          cases wb with
          | false =>
            have HX : Hid ((false = true ↔ (M1.map EntX.e = M2.map EntX.e ∧ Q1.length = Q2.length ∧ tp)) ∧ Below w6.heap.size w6 wr) := Lib.hid ⟨⟨by simp, fun h => absurd (HWB.out.1.2 ⟨⟨by have := congrArg List.length h.1; rwa [List.length_map, List.length_map] at this, h.2⟩, takes_of h.1 k⟩) (by simp)⟩, HWB.out.2⟩
            clear HWB
            go_wp2_with fail
            go_meet
            exact ⟨false, rfl, HX⟩
          | true =>
            obtain ⟨n, hn⟩ : ∃ n, gk = n + 1 := ⟨gk - 1, by have := HM1.out; omega⟩
            subst hn
            have hbase := HWB.out.1.1 rfl
            have hk2 : k < M2.length := by have := hbase.1.1; omega
            have hki2 := idx2 HM2 hk2
            have hkc : (k : Int) < (c1 : Int) := by have := HMM.out.1.1; omega
            have hkc2 : (k : Int) < (c2 : Int) := by have := HMM.out.2.1.1; omega
            have hinc : IntKind.i64.wrap ((k : Int) + 1) = (k : Int) + 1 := by have := HL.out; rw [IntKind.wrap_i64]; omega
            obtain ⟨hx1, hx2, -, -⟩ := HR.out wr.drew HWB.out.2.drew
            obtain ⟨b, off, hA1, -, -, p0⟩ := RowX.get hx1 k hlt
            obtain ⟨c, off2, hA2, -, -, p1⟩ := RowX.get hx2 k hk2
            have hin1 := hx1.ents _ (List.getElem_mem hlt)
            have hin2 := hx2.ents _ (List.getElem_mem hk2)
            have hst := takes_step (L := M1) (R := M2) EntX.e EntX.e hlt hk2
            obtain ⟨x, hx⟩ : ∃ x, M1[k] = x := ⟨_, rfl⟩
            obtain ⟨y, hy⟩ : ∃ y, M2[k] = y := ⟨_, rfl⟩
            rw [hx] at p0 hin1 hst
            rw [hy] at p1 hin2 hst
            have hS : TwoX b (off + k * 7) x c (off2 + k * 7) y wr.drew := ⟨p0, p1⟩
            have HREL : Hid (∀ W, Below w6.heap.size w6 W → (decide (x.e = y.e) = true ↔ ((M1.length = M2.length ∧ Q1.length = Q2.length ∧ tp) ∧ (M1.take (k + 1)).map EntX.e = (M2.take (k + 1)).map EntX.e)) ∧ Below w6.heap.size w6 W) := Lib.hid (fun W hb => ⟨by rw [decide_eq_true_iff, hst]; exact ⟨fun h => ⟨hbase.1, hbase.2, h⟩, fun h => h.2.2⟩, hb⟩)
            have HSE := Lib.hid (esameE_any hin1 hin2)
            have HBD := Lib.hid HWB.out.2.drew
            have HKN := Lib.hid hkn
            have HSB : Hid (∀ w9, Below wr.drew.heap.size wr.drew w9 → TwoX b (off + k * 7) x c (off2 + k * 7) y w9) := Lib.hid (fun w9 hb9 => by
              obtain ⟨hy1, hy2, -, -⟩ := HR.out w9 (HWB.out.2.drew.trans (hb9.mono HWB.out.2.drew.size))
              obtain ⟨b', off', hA1', -, -, p0'⟩ := RowX.get hy1 k hlt
              obtain ⟨c', off2', hA2', -, -, p1'⟩ := RowX.get hy2 k hk2
              rw [hA1] at hA1'
              rw [hA2] at hA2'
              injection hA1' with hA1'
              injection hA2' with hA2'
              injection hA1' with e1 e2
              injection hA2' with e3 e4
              subst e1 e2 e3 e4
              rw [hx] at p0'
              rw [hy] at p1'
              exact ⟨p0', p1'⟩)
            subst hA1 hA2
            clear hx1 hx2 p0 p1 hin1 hin2 hst hx hy hbase HWB hkn HW0 HBW
            go_upto_region 9 with fail
            refine wp_region_held_drew (S := TwoX b (off + k * 7) x c (off2 + k * 7) y) (by kernel_rfl) hS (fun hHeld => ?_)
            generalize wr.drew = wd at hS hHeld HSE HBD HSB ⊢
            first
            | (refine take_wanted (i := 0) (v := ?_) rfl rfl (by kernel_rfl) (by kernel_rfl) (by kernel_rfl) (fun _ _ _ h => h) (by rfl) (by assumption) ?_ ?_; rotate_left; (focus (intro w hSw; (try dsimp only at hSw); go_simp; first | done | with_reducible rfl)); (simp only [Act.at, List.setIfInBounds_toArray, List.set_cons_zero, List.set_cons_succ]))
            | (refine take_unwanted (i := 0) rfl rfl (by kernel_rfl) (by kernel_rfl) (by kernel_rfl) (fun _ _ _ h => h) (by rfl) (by assumption) ?_; (simp only [Act.at, List.setIfInBounds_toArray, List.set_cons_zero, List.set_cons_succ]))
            first
            | (refine take_wanted (i := 1) (v := ?_) rfl rfl (by kernel_rfl) (by kernel_rfl) (by kernel_rfl) (fun _ _ _ h => h) (by rfl) (by assumption) ?_ ?_; rotate_left; (focus (intro w hSw; (try dsimp only at hSw); go_simp; first | done | with_reducible rfl)); (simp only [Act.at, List.setIfInBounds_toArray, List.set_cons_zero, List.set_cons_succ]))
            | (refine take_unwanted (i := 1) rfl rfl (by kernel_rfl) (by kernel_rfl) (by kernel_rfl) (fun _ _ _ h => h) (by rfl) (by assumption) ?_; (simp only [Act.at, List.setIfInBounds_toArray, List.set_cons_zero, List.set_cons_succ]))
            first
            | (refine take_wanted (i := 2) (v := ?_) rfl rfl (by kernel_rfl) (by kernel_rfl) (by kernel_rfl) (fun _ _ _ h => h) (by rfl) (by assumption) ?_ ?_; rotate_left; (focus (intro w hSw; (try dsimp only at hSw); go_simp; first | done | with_reducible rfl)); (simp only [Act.at, List.setIfInBounds_toArray, List.set_cons_zero, List.set_cons_succ]))
            | (refine take_unwanted (i := 2) rfl rfl (by kernel_rfl) (by kernel_rfl) (by kernel_rfl) (fun _ _ _ h => h) (by rfl) (by assumption) ?_; (simp only [Act.at, List.setIfInBounds_toArray, List.set_cons_zero, List.set_cons_succ]))
            first
            | (refine take_wanted (i := 3) (v := ?_) rfl rfl (by kernel_rfl) (by kernel_rfl) (by kernel_rfl) (fun _ _ _ h => h) (by rfl) (by assumption) ?_ ?_; rotate_left; (focus (intro w hSw; (try dsimp only at hSw); go_simp; first | done | with_reducible rfl)); (simp only [Act.at, List.setIfInBounds_toArray, List.set_cons_zero, List.set_cons_succ]))
            | (refine take_unwanted (i := 3) rfl rfl (by kernel_rfl) (by kernel_rfl) (by kernel_rfl) (fun _ _ _ h => h) (by rfl) (by assumption) ?_; (simp only [Act.at, List.setIfInBounds_toArray, List.set_cons_zero, List.set_cons_succ]))
            first
            | (refine take_wanted (i := 4) (v := ?_) rfl rfl (by kernel_rfl) (by kernel_rfl) (by kernel_rfl) (fun _ _ _ h => h) (by rfl) (by assumption) ?_ ?_; rotate_left; (focus (intro w hSw; (try dsimp only at hSw); go_simp; first | done | with_reducible rfl)); (simp only [Act.at, List.setIfInBounds_toArray, List.set_cons_zero, List.set_cons_succ]))
            | (refine take_unwanted (i := 4) rfl rfl (by kernel_rfl) (by kernel_rfl) (by kernel_rfl) (fun _ _ _ h => h) (by rfl) (by assumption) ?_; (simp only [Act.at, List.setIfInBounds_toArray, List.set_cons_zero, List.set_cons_succ]))
            first
            | (refine take_wanted (i := 5) (v := ?_) rfl rfl (by kernel_rfl) (by kernel_rfl) (by kernel_rfl) (fun _ _ _ h => h) (by rfl) (by assumption) ?_ ?_; rotate_left; (focus (intro w hSw; (try dsimp only at hSw); go_simp; first | done | with_reducible rfl)); (simp only [Act.at, List.setIfInBounds_toArray, List.set_cons_zero, List.set_cons_succ]))
            | (refine take_unwanted (i := 5) rfl rfl (by kernel_rfl) (by kernel_rfl) (by kernel_rfl) (fun _ _ _ h => h) (by rfl) (by assumption) ?_; (simp only [Act.at, List.setIfInBounds_toArray, List.set_cons_zero, List.set_cons_succ]))
            first
            | (refine take_wanted (i := 6) (v := ?_) rfl rfl (by kernel_rfl) (by kernel_rfl) (by kernel_rfl) (fun _ _ _ h => h) (by rfl) (by assumption) ?_ ?_; rotate_left; (focus (intro w hSw; (try dsimp only at hSw); go_simp; first | done | with_reducible rfl)); (simp only [Act.at, List.setIfInBounds_toArray, List.set_cons_zero, List.set_cons_succ]))
            | (refine take_unwanted (i := 6) rfl rfl (by kernel_rfl) (by kernel_rfl) (by kernel_rfl) (fun _ _ _ h => h) (by rfl) (by assumption) ?_; (simp only [Act.at, List.setIfInBounds_toArray, List.set_cons_zero, List.set_cons_succ]))
            first
            | (refine take_wanted (i := 7) (v := ?_) rfl rfl (by kernel_rfl) (by kernel_rfl) (by kernel_rfl) (fun _ _ _ h => h) (by rfl) (by assumption) ?_ ?_; rotate_left; (focus (intro w hSw; (try dsimp only at hSw); go_simp; first | done | with_reducible rfl)); (simp only [Act.at, List.setIfInBounds_toArray, List.set_cons_zero, List.set_cons_succ]))
            | (refine take_unwanted (i := 7) rfl rfl (by kernel_rfl) (by kernel_rfl) (by kernel_rfl) (fun _ _ _ h => h) (by rfl) (by assumption) ?_; (simp only [Act.at, List.setIfInBounds_toArray, List.set_cons_zero, List.set_cons_succ]))
            refine take_call (i := 8) (by kernel_rfl) rfl rfl (by rfl) (fun K hK => ?_)
            go_simp
            refine HSE.out.mono ?_
            rintro r w9 ⟨rfl, hb9⟩
            have hS9 := HSB.out w9 hb9
            have HR9 := Lib.hid (HREL.out w9 (HBD.out.trans (hb9.mono HBD.out.size)))
            generalize decide (x.e = y.e) = wn at HR9 ⊢
            clear hb9 HREL HBD HSE HSB
            refine hK.out _ _ hS9 (fun hHeld => ?_)
            clear hK K
            try simp only [Act.put, List.setIfInBounds_toArray, List.set_cons_zero, List.set_cons_succ]
            first
            | (refine take_wanted (i := 9) (v := ?_) rfl rfl (by kernel_rfl) (by kernel_rfl) (by kernel_rfl) (fun _ _ _ h => h) (by rfl) (by assumption) ?_ ?_; rotate_left; (focus (intro w hSw; (try dsimp only at hSw); go_simp; first | done | with_reducible rfl)); (simp only [Act.at, List.setIfInBounds_toArray, List.set_cons_zero, List.set_cons_succ]))
            | (refine take_unwanted (i := 9) rfl rfl (by kernel_rfl) (by kernel_rfl) (by kernel_rfl) (fun _ _ _ h => h) (by rfl) (by assumption) ?_; (simp only [Act.at, List.setIfInBounds_toArray, List.set_cons_zero, List.set_cons_succ]))
            refine wpAnyH_done (by kernel_rfl) ?_ _
            clear hS9
            go_wp2_with fail
            go_roundg n
            case measure => omega
            case rel => exact ⟨k + 1, _, by have := HKN.out; omega, by go_num, rfl, HR9⟩
        · obtain hk1 : k = M1.length := by have := HM1.out; omega
          have hki : ¬ (k : Int) < (m1 : Int) := by have := HM1.out; omega
          rw [hk1] at HWB
          have HX : Hid ((wb = true ↔ (M1.map EntX.e = M2.map EntX.e ∧ Q1.length = Q2.length ∧ tp)) ∧ Below w6.heap.size w6 wr) := Lib.hid ⟨HWB.out.1.trans ⟨fun h => ⟨(takes_all _ _ h.1.1).1 h.2, h.1.2⟩, fun h => ⟨⟨by have := congrArg List.length h.1; rwa [List.length_map, List.length_map] at this, h.2⟩, takes_of h.1 _⟩⟩, HWB.out.2⟩
          clear HWB hk1
          go_wp2_with fail
          go_meet
          exact ⟨wb, rfl, HX⟩
    case rest =>
      obtain ⟨wb, rfl, HWB1⟩ := hcut
      go_upto_block 2 with fail
      go_cut [11] (fun v11 W => ∃ wb2 : Bool, v11 = .bool wb2 ∧ Hid (wb2 = res ∧ Below w6.heap.size w6 W))
      case first =>
        go_wp2_with fail
        go_loopg [11, 13] l1 (fun n v11 v13 wr => ∃ (k : Nat) (wq : Bool), k + n = l1 ∧ v13 = .int .i64 (k : Int) ∧ v11 = .bool wq ∧ Hid ((wq = true ↔ ((M1.map EntX.e = M2.map EntX.e ∧ Q1.length = Q2.length ∧ tp) ∧ (Q1.take k).map id = (Q2.take k).map id)) ∧ Below w6.heap.size w6 wr))
        case atStart => exact ⟨0, _, Nat.zero_add _, rfl, rfl, Lib.hid ⟨by simpa using HWB1.out.1, HWB1.out.2⟩⟩
        case round =>
          obtain ⟨k, wq, hkn, rfl, rfl, HWQ⟩ := hrel
          have hk0 : (0 : Int) ≤ (k : Int) := by omega
          by_cases hlt : k < Q1.length
          · have hki : (k : Int) < (l1 : Int) := by have := HN1.out; omega
            cases wq with
            | false =>
              have HX : Hid (false = res ∧ Below w6.heap.size w6 wr) := Lib.hid ⟨bools_eq HWQ.out.1 (HRES.out.trans ⟨fun h => ⟨⟨h.1, by rw [h.2.1], h.2.2⟩, by rw [h.2.1]⟩, fun h => absurd (HWQ.out.1.2 h) (by simp)⟩), HWQ.out.2⟩
              clear HWQ
              go_wp2_with fail
              go_meet
              exact ⟨false, rfl, HX⟩
            | true =>
              obtain ⟨n, hn⟩ : ∃ n, gk = n + 1 := ⟨gk - 1, by have := HN1.out; omega⟩
              subst hn
              have hbase := HWQ.out.1.1 rfl
              have hk2 : k < Q2.length := by have := hbase.1.2.1; omega
              have hki2 := idx2 HN2 hk2
              have hkc : (k : Int) < (d1 : Int) := by have := HMM.out.2.2.1.1; omega
              have hkc2 : (k : Int) < (d2 : Int) := by have := HMM.out.2.2.2.1; omega
              have hinc : IntKind.i64.wrap ((k : Int) + 1) = (k : Int) + 1 := by have := HL.out; rw [IntKind.wrap_i64]; omega
              obtain ⟨-, -, hx1, hx2⟩ := HR.out wr.drew HWQ.out.2.drew
              obtain ⟨b, off, hA1, -, -, p0, p1⟩ := RowQt.get hx1 k hlt
              obtain ⟨c, off2, hA2, -, -, p2, p3⟩ := RowQt.get hx2 k hk2
              have hst := takes_step (L := Q1) (R := Q2) id id hlt hk2
              obtain ⟨x, hx⟩ : ∃ x, Q1[k] = x := ⟨_, rfl⟩
              obtain ⟨y, hy⟩ : ∃ y, Q2[k] = y := ⟨_, rfl⟩
              rw [hx] at p0 p1 hst
              rw [hy] at p2 p3 hst
              obtain ⟨xn, xr⟩ := x
              obtain ⟨yn, yr⟩ := y
              dsimp only [id] at p0 p1 p2 p3 hst
              have hS : TwoQ b (off + k * 2) ⟨xn, xr⟩ c (off2 + k * 2) ⟨yn, yr⟩ wr.drew := ⟨p0, p1, p2, p3⟩
              have HREL : Hid ((decide (xn = yn ∧ xr = yr) = true ↔ ((M1.map EntX.e = M2.map EntX.e ∧ Q1.length = Q2.length ∧ tp) ∧ (Q1.take (k + 1)).map id = (Q2.take (k + 1)).map id)) ∧ Below w6.heap.size w6 wr.drew) := Lib.hid ⟨by
                rw [decide_eq_true_iff]
                refine ⟨fun h => ⟨hbase.1, hst.2 ⟨hbase.2, by rw [h.1, h.2]⟩⟩, fun h => ?_⟩
                have := (hst.1 h.2).2
                injection this with e1 e2
                exact ⟨e1, e2⟩, HWQ.out.2.drew⟩
              have HKN := Lib.hid hkn
              have hP := fun W => run_pteq xn xr yn yr W
              have hG := fun op o1 o2 W => run_ptguard op o1 o2 xn xr yn yr W
              subst hA1 hA2
              clear hx1 hx2 p0 p1 p2 p3 hst hx hy hbase HWQ hkn HWB1
              go_upto_region 13 with fail
              refine wp_region_held_drew (S := TwoQ b (off + k * 2) ⟨xn, xr⟩ c (off2 + k * 2) ⟨yn, yr⟩) (by kernel_rfl) hS (fun hHeld => ?_)
              generalize wr.drew = wd at hS hHeld HREL ⊢
              first
              | (refine take_wanted (i := 0) (v := ?_) rfl rfl (by kernel_rfl) (by kernel_rfl) (by kernel_rfl) (fun _ _ _ h => h) (by rfl) (by assumption) ?_ ?_; rotate_left; (focus (intro w hSw; (try dsimp only at hSw); go_simp; first | done | with_reducible rfl)); (simp only [Act.at, List.setIfInBounds_toArray, List.set_cons_zero, List.set_cons_succ]))
              | (refine take_unwanted (i := 0) rfl rfl (by kernel_rfl) (by kernel_rfl) (by kernel_rfl) (fun _ _ _ h => h) (by rfl) (by assumption) ?_; (simp only [Act.at, List.setIfInBounds_toArray, List.set_cons_zero, List.set_cons_succ]))
              first
              | (refine take_wanted (i := 1) (v := ?_) rfl rfl (by kernel_rfl) (by kernel_rfl) (by kernel_rfl) (fun _ _ _ h => h) (by rfl) (by assumption) ?_ ?_; rotate_left; (focus (intro w hSw; (try dsimp only at hSw); go_simp; first | done | with_reducible rfl)); (simp only [Act.at, List.setIfInBounds_toArray, List.set_cons_zero, List.set_cons_succ]))
              | (refine take_unwanted (i := 1) rfl rfl (by kernel_rfl) (by kernel_rfl) (by kernel_rfl) (fun _ _ _ h => h) (by rfl) (by assumption) ?_; (simp only [Act.at, List.setIfInBounds_toArray, List.set_cons_zero, List.set_cons_succ]))
              first
              | (refine take_wanted (i := 2) (v := ?_) rfl rfl (by kernel_rfl) (by kernel_rfl) (by kernel_rfl) (fun _ _ _ h => h) (by rfl) (by assumption) ?_ ?_; rotate_left; (focus (intro w hSw; (try dsimp only at hSw); go_simp; first | done | with_reducible rfl)); (simp only [Act.at, List.setIfInBounds_toArray, List.set_cons_zero, List.set_cons_succ]))
              | (refine take_unwanted (i := 2) rfl rfl (by kernel_rfl) (by kernel_rfl) (by kernel_rfl) (fun _ _ _ h => h) (by rfl) (by assumption) ?_; (simp only [Act.at, List.setIfInBounds_toArray, List.set_cons_zero, List.set_cons_succ]))
              first
              | (refine take_wanted (i := 3) (v := ?_) rfl rfl (by kernel_rfl) (by kernel_rfl) (by kernel_rfl) (fun _ _ _ h => h) (by rfl) (by assumption) ?_ ?_; rotate_left; (focus (intro w hSw; (try dsimp only at hSw); go_simp; first | done | with_reducible rfl)); (simp only [Act.at, List.setIfInBounds_toArray, List.set_cons_zero, List.set_cons_succ]))
              | (refine take_unwanted (i := 3) rfl rfl (by kernel_rfl) (by kernel_rfl) (by kernel_rfl) (fun _ _ _ h => h) (by rfl) (by assumption) ?_; (simp only [Act.at, List.setIfInBounds_toArray, List.set_cons_zero, List.set_cons_succ]))
              first
              | (refine take_wanted (i := 4) (v := ?_) rfl rfl (by kernel_rfl) (by kernel_rfl) (by kernel_rfl) (fun _ _ _ h => h) (by rfl) (by assumption) ?_ ?_; rotate_left; (focus (intro w hSw; (try dsimp only at hSw); go_simp; first | done | with_reducible rfl)); (simp only [Act.at, List.setIfInBounds_toArray, List.set_cons_zero, List.set_cons_succ]))
              | (refine take_unwanted (i := 4) rfl rfl (by kernel_rfl) (by kernel_rfl) (by kernel_rfl) (fun _ _ _ h => h) (by rfl) (by assumption) ?_; (simp only [Act.at, List.setIfInBounds_toArray, List.set_cons_zero, List.set_cons_succ]))
              first
              | (refine take_wanted (i := 5) (v := ?_) rfl rfl (by kernel_rfl) (by kernel_rfl) (by kernel_rfl) (fun _ _ _ h => h) (by rfl) (by assumption) ?_ ?_; rotate_left; (focus (intro w hSw; (try dsimp only at hSw); go_simp; first | done | with_reducible rfl)); (simp only [Act.at, List.setIfInBounds_toArray, List.set_cons_zero, List.set_cons_succ]))
              | (refine take_unwanted (i := 5) rfl rfl (by kernel_rfl) (by kernel_rfl) (by kernel_rfl) (fun _ _ _ h => h) (by rfl) (by assumption) ?_; (simp only [Act.at, List.setIfInBounds_toArray, List.set_cons_zero, List.set_cons_succ]))
              first
              | (refine take_wanted (i := 6) (v := ?_) rfl rfl (by kernel_rfl) (by kernel_rfl) (by kernel_rfl) (fun _ _ _ h => h) (by rfl) (by assumption) ?_ ?_; rotate_left; (focus (intro w hSw; (try dsimp only at hSw); go_simp; first | done | with_reducible rfl)); (simp only [Act.at, List.setIfInBounds_toArray, List.set_cons_zero, List.set_cons_succ]))
              | (refine take_unwanted (i := 6) rfl rfl (by kernel_rfl) (by kernel_rfl) (by kernel_rfl) (fun _ _ _ h => h) (by rfl) (by assumption) ?_; (simp only [Act.at, List.setIfInBounds_toArray, List.set_cons_zero, List.set_cons_succ]))
              first
              | (refine take_wanted (i := 7) (v := ?_) rfl rfl (by kernel_rfl) (by kernel_rfl) (by kernel_rfl) (fun _ _ _ h => h) (by rfl) (by assumption) ?_ ?_; rotate_left; (focus (intro w hSw; (try dsimp only at hSw); go_simp; first | done | with_reducible rfl)); (simp only [Act.at, List.setIfInBounds_toArray, List.set_cons_zero, List.set_cons_succ]))
              | (refine take_unwanted (i := 7) rfl rfl (by kernel_rfl) (by kernel_rfl) (by kernel_rfl) (fun _ _ _ h => h) (by rfl) (by assumption) ?_; (simp only [Act.at, List.setIfInBounds_toArray, List.set_cons_zero, List.set_cons_succ]))
              generalize decide (xn = yn ∧ xr = yr) = wn at HREL hP
              first
              | (refine take_wanted (i := 8) (v := ?_) rfl rfl (by kernel_rfl) (by kernel_rfl) (by kernel_rfl) (fun _ _ _ h => h) (by rfl) (by assumption) ?_ ?_; rotate_left; (focus (intro w hSw; (try dsimp only at hSw); go_simp; first | done | with_reducible rfl)); (simp only [Act.at, List.setIfInBounds_toArray, List.set_cons_zero, List.set_cons_succ]))
              | (refine take_unwanted (i := 8) rfl rfl (by kernel_rfl) (by kernel_rfl) (by kernel_rfl) (fun _ _ _ h => h) (by rfl) (by assumption) ?_; (simp only [Act.at, List.setIfInBounds_toArray, List.set_cons_zero, List.set_cons_succ]))
              first
              | (refine take_wanted (i := 9) (v := ?_) rfl rfl (by kernel_rfl) (by kernel_rfl) (by kernel_rfl) (fun _ _ _ h => h) (by rfl) (by assumption) ?_ ?_; rotate_left; (focus (intro w hSw; (try dsimp only at hSw); go_simp; first | done | with_reducible rfl)); (simp only [Act.at, List.setIfInBounds_toArray, List.set_cons_zero, List.set_cons_succ]))
              | (refine take_unwanted (i := 9) rfl rfl (by kernel_rfl) (by kernel_rfl) (by kernel_rfl) (fun _ _ _ h => h) (by rfl) (by assumption) ?_; (simp only [Act.at, List.setIfInBounds_toArray, List.set_cons_zero, List.set_cons_succ]))
              refine wpAnyH_done (by kernel_rfl) ?_ _
              clear hS hP hG
              go_wp2_with fail
              go_roundg n
              case measure => omega
              case rel => exact ⟨k + 1, _, by have := HKN.out; omega, by go_num, rfl, HREL⟩
          · obtain hk1 : k = Q1.length := by have := HN1.out; omega
            have hki : ¬ (k : Int) < (l1 : Int) := by have := HN1.out; omega
            rw [hk1] at HWQ
            have HX : Hid (wq = res ∧ Below w6.heap.size w6 wr) := Lib.hid ⟨bools_eq HWQ.out.1 (HRES.out.trans ⟨fun h => ⟨⟨h.1, by rw [h.2.1], h.2.2⟩, by rw [h.2.1]⟩, fun h => ⟨h.1.1, by have := (takes_all id id h.1.2.1).1 h.2; rwa [List.map_id, List.map_id] at this, h.1.2.2⟩⟩), HWQ.out.2⟩
            clear HWQ hk1
            go_wp2_with fail
            go_meet
            exact ⟨wq, rfl, HX⟩
      case rest =>
        obtain ⟨wb2, rfl, HF⟩ := hcut
        obtain ⟨hw, hbf⟩ := HF.out
        subst hw
        have hbb : (wb2 == wb2) = true := by simp
        have HBF := Lib.hid hbf
        clear HF hbf HRES HWB1
        go_wp2_with fail
        refine ((HSAME.out _ HBF.out).1).mono ?_
        rintro r wd ⟨rfl, hbd⟩
        have HBD := Lib.hid (HBF.out.trans (hbd.mono HBF.out.size))
        clear hbd HBF
        go_wp2_with fail
        refine ((HSAME.out _ HBD.out).2.1).mono ?_
        rintro r we ⟨rfl, hbe⟩
        have HBE := Lib.hid (HBD.out.trans (hbe.mono HBD.out.size))
        clear hbe HBD
        go_wp2_with fail
        refine ((HSAME.out _ HBE.out).2.2).mono ?_
        rintro r wf ⟨rfl, hbf⟩
        have HBF := Lib.hid (HBE.out.trans (hbf.mono HBE.out.size))
        clear hbf HBE
        go_wp2_with fail
        refine (HAW.out _).mono ?_
        rintro r wg ⟨rfl, hbg⟩
        have HBG := Lib.hid (HBF.out.trans (hbg.mono HBF.out.size))
        clear hbg HBF
        go_wp2_with fail
        go_ret
        exact ⟨rfl, HFIN.out _ HBG.out⟩
end Go.Proofs.Ytojemaaljjibiaa
