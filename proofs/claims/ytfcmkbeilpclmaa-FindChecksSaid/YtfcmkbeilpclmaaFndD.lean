/-
  The contracts of the statements' own field and holds.
-/
import Derived.Test.YtfcmkbeilpclmaaFndC
import Derived.Deep.Cut
import Derived.Deep.DeepCutAuto
import Derived.Deep.CutBlock
namespace Go.Proofs.Ytfcmkbeilpclmaa
open Go.RowKit Go.Lib
set_option linter.unusedVariables false

set_option maxHeartbeats 4000000 in
set_option maxRecDepth 100000 in
theorem lfield_any (p : Ppr) (n : List UInt8) (w : World) (hp : p.In w) :
    Calls Try.prog 23 #[p.v, .string (S n)] w fun r w' => r = .returned (.int .i64 (Pap.find n p.L)) ∧ Below w.heap.size w w' := by
  have hat := fun (k : Nat) (hk : k < p.L.length) he hb => Pap.find_at (name := n) (L := p.L) (k := k) hk he hb
  have hno := Pap.find_none (name := n) (L := p.L)
  generalize Pap.find n p.L = res at hat hno ⊢
  have HIN := Lib.hid hp
  obtain ⟨id, cls, A, L, cap, b⟩ := p
  dsimp only at hat hno
  unfold Ppr.v
  dsimp only
  have HAT := Lib.hid hat
  have HNO := Lib.hid hno
  clear hat hno hp
  have hlm : L.length ≤ 1000000 := HIN.out.few
  have hP := Has.made w 27 #[.string (S id), .int .i64 cls, .slice A L.length cap]
  have hB := up1 (w := w) (.cells #[.string (S id), .int .i64 cls, .slice A L.length cap] 27)
  go_enter Try.func23, Try.ntmps23
  go_upto_region 1 with fail
  generalize w.alloc (.cells #[.string (S id), .int .i64 cls, .slice A L.length cap] 27) = W0 at hP hB ⊢
  have p2 := hP.cell 2
  have HB := Lib.hid hB
  clear hP hB
  go_wp2_with fail
  go_loopg [5] L.length (fun g1 v8 wr => ∃ k : Nat, k ≤ L.length ∧ v8 = .int .i64 (k : Int) ∧ L.length - k ≤ g1 ∧ Hid (∀ t (h : t < k) (hl : t < L.length), (L[t].name == n) = false) ∧ wr = W0)
  case atStart => exact ⟨0, Nat.zero_le _, rfl, by omega, fun t h => absurd h (by omega), rfl⟩
  case round =>
    obtain ⟨k, hk, rfl, hg, HALL, rfl⟩ := hrel
    by_cases hlt : k < L.length
    · have hki : (k : Int) < (L.length : Int) := by omega
      have hk0 : (0 : Int) ≤ (k : Int) := by omega
      obtain ⟨off, hA, -, hfat⟩ := (HIN.out.below HB.out).fs (by intro hc; dsimp only at hc; rw [hc] at hlt; cases hlt)
      dsimp only at hA hfat
      subst hA
      have hfk := (hfat k hlt).1
      clear hfat
      have hone := HAT.out k hlt
      have hall2 : (L[k].name == n) = false → ∀ t (h : t < k + 1) (hl : t < L.length), (L[t].name == n) = false := fun he t h hl => by
        by_cases e : t = k
        · subst e; exact he
        · exact HALL.out t (by omega) hl
      have HALL2 := Lib.hid hall2; clear hall2
      have HONE := Lib.hid hone; clear hone
      generalize L[k].name = x at hfk HONE HALL2
      cases he : x == n
      · have HE := Lib.hid he
        go_wp2_with fail
        go_roundg (L.length - (k + 1))
        case measure => omega
        case rel => exact ⟨k + 1, by omega, by go_num, Nat.le_refl _, HALL2.out HE.out, rfl⟩
      · have HE := Lib.hid he
        go_wp2_with fail
        go_ret
        exact ⟨ret_int (HONE.out HE.out (fun t ht => HALL.out t ht (by omega))).symm, HB.out⟩
    · obtain rfl : k = L.length := by omega
      go_wp2_with fail
      go_ret
      exact ⟨ret_int (HNO.out (fun t ht => HALL.out t ht ht)).symm, HB.out⟩

set_option maxHeartbeats 8000000 in
set_option maxRecDepth 100000 in
theorem lholds_any (t : Fnd.Trm) (p : Ppr) (ht : t.Ok) (w : World) (hp : p.In w) :
    Calls Try.prog 13 #[t.v, p.v] w fun r w' => r = .returned (.bool (Fnd.holds t p.L)) ∧ Below w.heap.size w w' := by
  have HF : Hid (_ : Prop) := Lib.hid (fun W (h : Below w.heap.size w W) => lfield_any p t.name W (hp.below h))
  have hfc := Fnd.field_cases p.L t.name
  have hc1 := fun (v : Val) (hv : v.ok) W => compare_any v t.low hv ht.low W
  have hc2 := fun (v : Val) (hv : v.ok) W => compare_any v t.high hv ht.high W
  obtain ⟨res, hres⟩ : ∃ r, r = Fnd.holds t p.L := ⟨_, rfl⟩
  rw [← hres]
  unfold Fnd.holds Fnd.inLow Fnd.inTop at hres
  have hok := hp.ok
  have HIN := Lib.hid hp
  obtain ⟨n, ⟨lk, lf, li, lb, lt⟩, ⟨hk, hf, hi, hb, htx⟩, a, b, c⟩ := t
  obtain ⟨id, cls, A, L, cap, pb⟩ := p
  rw [Fnd.Trm.v_eq]
  unfold Ppr.v at HF ⊢
  dsimp only at HF hres hok hfc hc1 hc2 ⊢
  rw [Val.v_eq] at hc1 hc2
  have hlm : L.length ≤ 1000000 := HIN.out.few
  clear ht hp
  have hT := (Has.made w 37 (tcs n lk lf li lb lt hk hf hi hb htx a b c)).of_alloc (.cells #[.string (S id), .int .i64 cls, .slice A L.length cap] 27)
  have hP := has_new w (.cells (tcs n lk lf li lb lt hk hf hi hb htx a b c) 37) 27 #[.string (S id), .int .i64 cls, .slice A L.length cap]
  have hB := up2 (w := w) (.cells (tcs n lk lf li lb lt hk hf hi hb htx a b c) 37) (.cells #[.string (S id), .int .i64 cls, .slice A L.length cap] 27)
  have hz : ((w.alloc (.cells (tcs n lk lf li lb lt hk hf hi hb htx a b c) 37)).alloc (.cells #[.string (S id), .int .i64 cls, .slice A L.length cap] 27)).heap.size = w.heap.size + 2 := by simp
  generalize Pap.find n L = fnd at HF hfc
  go_enter Try.func13, Try.ntmps13
  go_upto_region 1 with fail
  generalize (w.alloc (.cells (tcs n lk lf li lb lt hk hf hi hb htx a b c) 37)).alloc (.cells #[.string (S id), .int .i64 cls, .slice A L.length cap] 27) = W0 at hT hP hB hz ⊢
  have t0 := hT.cell 0
  have p0 := hP.cell 0
  have p1 := hP.cell 1
  have p2 := hP.cell 2
  have HT := Lib.hid hT
  have HP := Lib.hid hP
  have HB := Lib.hid hB
  clear hT hP hB
  go_wp2_with fail
  refine (HF.out _ HB.out).mono ?_
  rintro r W1 ⟨rfl, hb1⟩
  have HT1 := Lib.hid (HT.out.below hb1 (by omega))
  replace p2 := (HP.out.below hb1 (by omega)).cell 2
  have HB1 := Lib.hid (HB.out.trans (hb1.mono HB.out.size))
  have hz1 := hb1.size
  rw [hz] at hz1
  clear hb1 HT HP HB hz HF t0 p0 p1 W0
  rcases hfc with ⟨rfl, hfd⟩ | ⟨j, hj, rfl, hfd⟩
  · rw [hfd] at hres
    dsimp only at hres
    go_wp2_with fail
    go_ret
    exact ⟨by rw [hres]; rfl, HB1.out⟩
  · rw [hfd] at hres
    dsimp only at hres
    have hv := hok _ (List.getElem_mem hj)
    have hc1 := hc1 _ hv
    have hc2 := hc2 _ hv
    obtain ⟨off, hA, hbl, hat⟩ := (HIN.out.below HB1.out).fs (by intro e; dsimp only at e; rw [e] at hj; cases hj)
    dsimp only at hA hbl hat
    subst hA
    obtain ⟨q0, q1, q2, q3, q4, q5⟩ := hat j hj
    have hjz : (j : Int) < (L.length : Int) := by omega
    have hj0 : ¬ (j : Int) < 0 := by omega
    have hj0' : (0 : Int) ≤ (j : Int) := by omega
    clear hat hok hv
    generalize L[j] = x at *
    obtain ⟨xn, ⟨k, f, i, bb, tx⟩⟩ := x
    dsimp only at hc1 hc2 hres q0 q1 q2 q3 q4 q5
    rw [Val.v_eq] at hc1 hc2
    generalize Val.cmp _ _ = c1 at hc1 hres
    generalize Val.cmp _ _ = c2 at hc2 hres
    have H1 := Lib.hid hc1; clear hc1
    have H2 := Lib.hid hc2; clear hc2
    have hV2 := Has.made W1 35 (vcs5 k f i bb tx)
    have hT2 := HT1.out.of_alloc (.cells (vcs5 k f i bb tx) 35)
    have hB2 := HB1.out.trans ((up1 (w := W1) (.cells (vcs5 k f i bb tx) 35)).mono HB1.out.size)
    have hs2 : (W1.alloc (.cells (vcs5 k f i bb tx) 35)).heap.size = W1.heap.size + 1 := by simp
    go_upto_region 5 with fail
    generalize W1.alloc (.cells (vcs5 k f i bb tx) 35) = W2 at hV2 hT2 hB2 hs2 ⊢
    obtain ⟨g2, hg2⟩ : ∃ g, W1.heap.size = g := ⟨_, rfl⟩
    rw [hg2] at hV2 hs2 hz1 ⊢
    have hgl : w.heap.size < W2.heap.size := by omega
    have hgl2 : g2 < W2.heap.size := by omega
    have hne : w.heap.size < g2 := by omega
    clear hg2 HT1 HB1 q0 q1 q2 q3 q4 q5 hjz hj0 hj0' p2 hbl HIN hj hlm hfd hz1
    have w1 : a = false ∨ (a = true ∧ (k == lk) = false ∧ decide (k = lk) = false) ∨ (a = true ∧ (k == lk) = true ∧ decide (k = lk) = true ∧ ¬ 0 ≤ c1 ∧ decide (0 ≤ c1) = false) ∨ (a = true ∧ (k == lk) = true ∧ decide (k = lk) = true ∧ 0 ≤ c1 ∧ decide (0 ≤ c1) = true) := by
      by_cases e : k = lk <;> by_cases e2 : 0 ≤ c1 <;> cases a <;> simp [e, e2]
    have w2 : b = false ∨ (b = true ∧ (k == hk) = false ∧ decide (k = hk) = false) ∨ (b = true ∧ (k == hk) = true ∧ decide (k = hk) = true ∧ c2 ≤ 0 ∧ decide (c2 ≤ 0) = true) ∨ (b = true ∧ (k == hk) = true ∧ decide (k = hk) = true ∧ ¬ c2 ≤ 0 ∧ decide (c2 ≤ 0) = false) := by
      by_cases e : k = hk <;> by_cases e2 : c2 ≤ 0 <;> cases b <;> simp [e, e2]
    obtain ⟨r1, hr1⟩ : ∃ r, r = (!a || decide (k = lk) && decide (0 ≤ c1)) := ⟨_, rfl⟩
    obtain ⟨r2, hr2⟩ : ∃ r, r = (!b || decide (k = hk) && decide (c2 ≤ 0)) := ⟨_, rfl⟩
    rw [← hr1, ← hr2] at hres
    have HR := Lib.hid hr1; clear hr1
    have HR2 := Lib.hid hr2; clear hr2
    have HRES := Lib.hid hres; clear hres
    have HT2 := Lib.hid hT2
    have HV2 := Lib.hid hV2
    have HB2 := Lib.hid hB2
    have HGL := Lib.hid (And.intro hgl (And.intro hgl2 hne))
    obtain ⟨t0, t1, t2, t3, t4, t5, t6, t7, t8, t9, t10, t11, t12, t13⟩ := tlies hT2
    obtain ⟨v0, v1, v2, v3, v4⟩ := vlies hV2
    clear hT2 hV2 hB2
    go_upto_if 21 with (fail)
    go_cut [7] (fun v7 wc => v7 = .bool r1 ∧ Below W2.heap.size W2 wc)
    case first =>
      rcases w1 with rfl | ⟨rfl, ek, dk⟩ | ⟨rfl, ek, dk, ec, dc⟩ | ⟨rfl, ek, dk, ec, dc⟩
      · go_wp2_with fail
        go_meet
        case rel => exact ⟨by rw [HR.out]; rfl, Below.refl _ _⟩
      · go_wp2_with fail
        go_meet
        case rel => exact ⟨by rw [HR.out, dk]; rfl, Below.refl _ _⟩
      · go_wp2_with fail
        refine (H1.out _).mono ?_
        rintro r w3 ⟨rfl, hb3⟩
        go_wp2_with fail
        go_meet
        case rel => exact ⟨by rw [HR.out, dk, dc]; rfl, hb3⟩
      · go_wp2_with fail
        refine (H1.out _).mono ?_
        rintro r w3 ⟨rfl, hb3⟩
        go_wp2_with fail
        go_meet
        case rel => exact ⟨by rw [HR.out, dk, dc]; rfl, hb3⟩
    case rest =>
      obtain ⟨rfl, hb3⟩ := hcut
      have hT3 := HT2.out.below hb3 HGL.out.1
      have hV3 := HV2.out.below hb3 HGL.out.2.1
      have hgs := HGL.out.2
      have HB3 := Lib.hid (HB2.out.trans (hb3.mono HB2.out.size))
      have hs3 := hb3.size
      clear hb3 HB2 HT2 HV2 t0 t1 t2 t3 t4 t5 t6 t7 t8 t9 t10 t11 t12 t13 v0 v1 v2 v3 v4 w1 HR H1
      obtain ⟨t0, t1, t2, t3, t4, t5, t6, t7, t8, t9, t10, t11, t12, t13⟩ := tlies hT3
      obtain ⟨v0, v1, v2, v3, v4⟩ := vlies hV3
      cases r1 with
      | false =>
        clear w2 H2 HR2
        cases b
        · go_wp2_with fail
          go_ret
          exact ⟨by rw [HRES.out]; cases c <;> rfl, HB3.out⟩
        · go_wp2_with fail
          go_ret
          exact ⟨by rw [HRES.out]; cases c <;> rfl, HB3.out⟩
      | true =>
        rcases w2 with rfl | ⟨rfl, ek, dk⟩ | ⟨rfl, ek, dk, ec, dc⟩ | ⟨rfl, ek, dk, ec, dc⟩
        · go_wp2_with fail
          go_ret
          exact ⟨by rw [HRES.out, HR2.out]; cases c <;> rfl, HB3.out⟩
        · go_wp2_with fail
          go_ret
          exact ⟨by rw [HRES.out, HR2.out, dk]; cases c <;> rfl, HB3.out⟩
        · go_wp2_with fail
          refine (H2.out _).mono ?_
          rintro r w3 ⟨rfl, hb4⟩
          have t13 := (hT3.below hb4 (by omega)).cell 13
          have HB4 := Lib.hid (HB3.out.trans (hb4.mono HB3.out.size))
          clear hb4
          go_wp2_with fail
          go_ret
          exact ⟨by rw [HRES.out, HR2.out, dk, dc]; cases c <;> rfl, HB4.out⟩
        · go_wp2_with fail
          refine (H2.out _).mono ?_
          rintro r w3 ⟨rfl, hb4⟩
          have t13 := (hT3.below hb4 (by omega)).cell 13
          have HB4 := Lib.hid (HB3.out.trans (hb4.mono HB3.out.size))
          clear hb4
          go_wp2_with fail
          go_ret
          exact ⟨by rw [HRES.out, HR2.out, dk, dc]; cases c <;> rfl, HB4.out⟩
end Go.Proofs.Ytfcmkbeilpclmaa
