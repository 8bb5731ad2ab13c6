/-
  The contract of StateSnapshots.
-/
import Derived.Test.YtojemaaljjibiaaStaBoth
import Derived.Test.YtojemaaljjibiaaQWQ
import Derived.Test.YtojemaaljjibiaaAws
namespace Go.Proofs.Ytojemaaljjibiaa
open Go.RowKit
set_option linter.unusedVariables false

/-- Two states of the program side by side: the second has what a snapshot's first events make. -/
structure Twin (w0 : World) (q p : Nat) (s t : List Nat) (st : Sta) (n i : Nat) (A : Option Addr) (L : List EvX) (W : World) : Prop where
  bl : Below w0.heap.size w0 W
  a : StAt W q s (p :: t) st n
  b : StAt W p t (q :: s) (Sta.snapAt st i) i
  rv : RowV W ((q :: s) ++ (p :: t)) A L
  ge : ∀ x ∈ (q :: s) ++ (p :: t), w0.heap.size ≤ x
  dis : ∀ x ∈ q :: s, x ∉ p :: t
  inv : Sta.Inv (Sta.snapAt st i)
  hq : (Sta.snapAt st i).Q.length ≤ i
theorem Twin.below {w0 : World} {q p : Nat} {s t : List Nat} {st : Sta} {n i : Nat} {A : Option Addr} {L : List EvX} {W W' : World} (h : Twin w0 q p s t st n i A L W) (hb : Below W.heap.size W W') : Twin w0 q p s t st n i A L W' :=
  ⟨h.bl.trans (hb.mono h.bl.size), h.a.below hb, h.b.below hb, h.rv.below hb, h.ge, h.dis, h.inv, h.hq⟩
theorem Twin.step {w0 : World} {q p : Nat} {s t t' : List Nat} {st : Sta} {n i : Nat} {A : Option Addr} {L : List EvX} {W W' : World} {v : Evt} (h : Twin w0 q p s t st n i A L W)
    (hv : Sta.check (Sta.snapAt st i) v = 0 ∧ Sta.apply (Sta.snapAt st i) v = Sta.snapAt st (i + 1)) (hb : StAt W' p t' (q :: s) (Sta.step (Sta.snapAt st i) v) (i + 1)) (hm : Mv W W' (p :: t)) (ht : ∀ x ∈ t', x ∈ t ∨ W.heap.size ≤ x) : Twin w0 q p s t' st n (i + 1) A L W' := by
  have he : Sta.step (Sta.snapAt st i) v = Sta.snapAt st (i + 1) := by unfold Sta.step; rw [if_pos hv.1]; exact hv.2
  have hQ := Sta.step_Q (Sta.snapAt st i) v
  have hI := h.inv.step v
  rw [he] at hb hQ hI
  have hge := h.ge
  have hdis := h.dis
  have hsz := h.bl.size
  have ho : ∀ x ∈ p :: t', x ∈ p :: t ∨ W.heap.size ≤ x := fun x hx => by
    rcases List.mem_cons.1 hx with rfl | hx
    · exact Or.inl (List.mem_cons_self ..)
    · exact (ht x hx).imp (fun h => List.mem_cons_of_mem _ h) (fun h => h)
  have hl : ∀ x ∈ p :: t', x < W'.heap.size := fun x hx => by
    rcases List.mem_cons.1 hx with rfl | hx
    · exact hb.lt.1
    · exact hb.lt.2 x hx
  have hoS : ∀ x ∈ (q :: s) ++ (p :: t'), x ∈ (q :: s) ++ (p :: t) ∨ W.heap.size ≤ x := fun x hx => by
    rcases List.mem_append.1 hx with hx | hx
    · exact Or.inl (List.mem_append_left _ hx)
    · exact (ho x hx).imp (fun h => List.mem_append_right _ h) (fun h => h)
  refine ⟨hm.below h.bl hsz (fun x hx => hge x (List.mem_append_right _ hx)), h.a.frame hm (fun x hx hx2 => hdis x hx2 hx) (fun x hx => hx) ho hl, hb, ⟨h.rv.row.frame hm (fun x hx => List.mem_append_right _ hx) hoS, fun x hx => (h.rv.ents x hx).frame hm (fun x hx => List.mem_append_right _ hx) hoS⟩, fun x hx => ?_, fun x hx hx2 => ?_, hI, by have := h.hq; omega⟩
  · rcases hoS x hx with h1 | h1
    · exact hge x h1
    · omega
  · rcases ho x hx2 with h1 | h1
    · exact hdis x hx h1
    · have hlt : x < W.heap.size := by
        rcases List.mem_cons.1 hx with rfl | hx
        · exact h.a.lt.1
        · exact h.a.lt.2 x hx
      omega
set_option maxRecDepth 100000 in
set_option maxHeartbeats 16000000 in
theorem stateSnapshots_any {w : World} {La : List EvX} {A : Option Addr} {ca : Nat} (hra : RowV w [] A La) (hla : La.length ≤ ca) (hca : ca ≤ 9223372036854775807) :
    Calls Try.prog 4 #[.slice A La.length ca] w fun r w' => r = .returned (.bool true) ∧ Below w.heap.size w w' := by
  have HMD := Lib.hid (smade_any hra hla hca 60 (by decide))
  have HAW := Lib.hid sawake_any
  clear hra
  go_enter Try.func4, Try.ntmps4
  go_wp2_with fail
  refine HMD.out.mono ?_
  rintro r w1 ⟨q, rfl, hm⟩
  obtain ⟨hb1, s, n, h1, -, hs1, -⟩ := hm
  obtain ⟨st, hst⟩ : ∃ st, Sta.run Sta.zero (fews La (min 60 La.length)) = st := ⟨_, rfl⟩
  have HI : Hid (Sta.Inv st ∧ st.Q.length ≤ 60) := Lib.hid ⟨hst ▸ Sta.Inv.zero.run _, by
    have e1 := Sta.run_Q (fews La (min 60 La.length)) Sta.zero
    have e2 := fews_len La (min 60 La.length)
    rw [hst] at e1
    have e3 : Sta.zero.Q.length = 0 := rfl
    omega⟩
  rw [hst] at h1
  clear hst
  have HN := Lib.hid (stNew w1 (q :: s) (fun x hx => by
    rcases List.mem_cons.1 hx with rfl | hx
    · exact h1.lt.1
    · exact h1.lt.2 x hx))
  have H1 := Lib.hid (And.intro hb1 (And.intro h1 hs1))
  clear hb1 h1 hs1 HMD
  go_wp2_with fail
  refine HN.out.mono ?_
  rintro r w2 ⟨p, t, rfl, h2, hs2, hb2⟩
  have hpt : ∀ x ∈ p :: t, x < w2.heap.size := fun x hx => by
    rcases List.mem_cons.1 hx with rfl | hx
    · exact h2.lt.1
    · exact h2.lt.2 x hx
  have h1 : StAt w2 q s (p :: t) st n := H1.out.2.1.frame (Mv.of_below hb2 []) (by simp) (by simp) (fun x hx => Or.inr (hs2 x hx)) hpt
  have HSN := Lib.hid (stSnapshot h1 HI.out.1 (by have := HI.out.2; omega))
  have H2 := Lib.hid (And.intro h1 (And.intro h2 (And.intro hs2 hb2)))
  clear h1 h2 hs2 hb2 HN hpt
  go_wp2_with fail
  refine HSN.out.mono ?_
  rintro r w3 ⟨A1, c1, L, rfl, hL, hl1, hm1, hrv, hb3⟩
  have HL : Hid (L.map EvX.v = Sta.snap st ∧ L.length ≤ c1 ∧ c1 ≤ 9223372036854775807 ∧ L.length = 1 + st.P.length + st.Q.length ∧ L.length ≤ 125) := Lib.hid (by
    have e := congrArg List.length hL
    rw [List.length_map, Sta.snap_len] at e
    have e1 := HI.out.1.few
    have e2 := HI.out.2
    exact ⟨hL, hl1, hm1, e, by omega⟩)
  have HT : Hid (Twin w q p s t st n 0 A1 L w3) := Lib.hid (by
    have hsz := H1.out.1.size
    have hlt := H1.out.2.1.lt
    have hs1 := H1.out.2.2
    have hs2 := H2.out.2.2.1
    refine ⟨(H1.out.1.trans (H2.out.2.2.2.mono hsz)).trans (hb3.mono (Nat.le_trans hsz H2.out.2.2.2.size)), H2.out.1.below hb3, H2.out.2.1.below hb3, hrv, fun x hx => ?_, fun x hx hx2 => ?_, Sta.Inv.zero, Nat.le_refl _⟩
    · rcases List.mem_append.1 hx with hx | hx
      · exact hs1 x hx
      · exact Nat.le_trans hsz (hs2 x hx)
    · have h3 := hs2 x hx2
      rcases List.mem_cons.1 hx with rfl | hx
      · have := hlt.1; omega
      · have := hlt.2 x hx; omega)
  have HLN := Lib.hid (stLen HT.out.a HI.out.1)
  clear hL hl1 hm1 hrv hb3 HSN H1 H2
  go_wp2_with fail
  refine HLN.out.mono ?_
  rintro r w4 ⟨rfl, hb4⟩
  have HT4 := Lib.hid (HT.out.below hb4)
  have HPT := Lib.hid (stPoints HT4.out.a (by have := HI.out.2; omega))
  clear hb4 HT HLN
  go_wp2_with fail
  refine HPT.out.mono ?_
  rintro r w5 ⟨A5, c5, rfl, -, -, -, hb5⟩
  have HT5 := Lib.hid (HT4.out.below hb5)
  have hnn : ((L.length : Int) != wrap64 (wrap64 (1 + (st.P.length : Int)) + (st.Q.length : Int))) = false := by
    have h1 := HI.out.1.few
    have h2 := HI.out.2
    have h3 := HL.out.2.2.2.1
    have e1 : wrap64 (1 + (st.P.length : Int)) = 1 + (st.P.length : Int) := by unfold wrap64; omega
    have e2 : wrap64 (1 + (st.P.length : Int) + (st.Q.length : Int)) = (L.length : Int) := by unfold wrap64; omega
    rw [e1, e2]
    simp
  clear hb5 HT4 HPT
  go_wp2_with fail
  clear hnn
  go_loopg [6] L.length (fun m v6 wr => ∃ i : Nat, i + m = L.length ∧ v6 = .int .i64 (i : Int) ∧ Hid (∃ t, Twin w q p s t st n i A1 L wr))
  case atStart => exact ⟨0, Nat.zero_add _, rfl, Lib.hid ⟨t, HT5.out⟩⟩
  case round =>
    obtain ⟨i, him, rfl, HPS⟩ := hrel
    have hk0 : (0 : Int) ≤ (i : Int) := by omega
    by_cases hlt : i < L.length
    · have hki : (i : Int) < (L.length : Int) := by omega
      have hkc : (i : Int) < (c1 : Int) := by have := HL.out.2.1; omega
      have hinc : IntKind.i64.wrap ((i : Int) + 1) = (i : Int) + 1 := by have := HL.out.2.2.2.2; rw [IntKind.wrap_i64]; omega
      obtain ⟨m, hm⟩ : ∃ m, gk = m + 1 := ⟨gk - 1, by omega⟩
      subst hm
      obtain ⟨t, hbo⟩ := HPS.out
      obtain ⟨b, off, hA, -, -, p0⟩ := RowV.get hbo.rv i hlt
      have hin0 := hbo.rv.ents _ (List.getElem_mem hlt)
      have hmem : (L[i]).v ∈ Sta.snap st := by rw [← HL.out.1]; exact List.mem_map_of_mem (List.getElem_mem hlt)
      have hstp : Sta.check (Sta.snapAt st i) (L[i]).v = 0 ∧ Sta.apply (Sta.snapAt st i) (L[i]).v = Sta.snapAt st (i + 1) := by
        have hle : i < (Sta.snap st).length := by rw [← HL.out.1, List.length_map]; exact hlt
        have e := Sta.snap_step HI.out.1 i hle
        have e2 : (Sta.snap st)[i]'hle = (L[i]).v := by
          have e3 := congrArg (fun l => l[i]?) HL.out.1
          simp only [List.getElem?_map, List.getElem?_eq_getElem hlt, List.getElem?_eq_getElem hle, Option.map_some] at e3
          injection e3 with e3
          exact e3.symm
        rw [e2] at e
        exact e
      have hfew := (Sta.snap_mem HI.out.1 hmem).1
      have hgone := Sta.snap_gone HI.out.1 _ hmem
      have hap := stApply hbo.b hbo.inv (by have := hbo.hq; have := HL.out.2.2.2.2; omega) (by have := HL.out.2.2.2.2; omega) (v := (L[i]).v) (hin0.sub (t := (p :: t) ++ (q :: s)) (fun x hx => List.mem_append.2 (List.mem_append.1 hx).symm)) hfew
      have HROW : Hid (∀ W, RowV W ((q :: s) ++ (p :: t)) A1 L → ∀ j u, (L[i]).cs[j]? = some u → W.cell? ⟨b, off + i * 14 + j, none⟩ = some u) := Lib.hid (fun W hr => by
        obtain ⟨b', off', hA', -, -, p0'⟩ := RowV.get hr i hlt
        rw [hA] at hA'
        injection hA' with hA'
        injection hA' with e1 e2
        subst e1 e2
        exact p0')
      have HROW2 : Hid (∀ W z, RowV W z A1 L → (∀ j u, (L[i]).cs[j]? = some u → W.cell? ⟨b, off + i * 14 + j, none⟩ = some u) ∧ EntIn W [] (L[i]).v.ent (L[i]).A (L[i]).ca (L[i]).B (L[i]).cb) := Lib.hid (fun W z hr => by
        obtain ⟨b', off', hA', -, -, p0'⟩ := RowV.get hr i hlt
        rw [hA] at hA'
        injection hA' with hA'
        injection hA' with e1 e2
        subst e1 e2
        exact ⟨p0', (hr.ents _ (List.getElem_mem hlt)).sub (t := []) (by simp)⟩)
      subst hA
      obtain ⟨x, hx⟩ : ∃ x, L[i] = x := ⟨_, rfl⟩
      rw [hx] at p0 hstp hgone hap HROW2
      have HSTP := Lib.hid hstp
      rw [hstp.1, if_pos rfl] at hap
      have HGO := Lib.hid hgone
      have HBO := Lib.hid hbo
      have HKM := Lib.hid (And.intro him hlt)
      clear hin0 hmem hfew hgone hstp hbo him HROW hx HPS HT5
      obtain ⟨⟨kind, ⟨id, cls, born, slot, L2, gone, H2⟩, seq, idx, name, size, root, now⟩, xA, xca, xB, xcb⟩ := x
      have d0 := p0 0 _ rfl
      have d1 := p0 1 _ rfl
      have d2 := p0 2 _ rfl
      have d3 := p0 3 _ rfl
      have d4 := p0 4 _ rfl
      have d5 := p0 5 _ rfl
      have d6 := p0 6 _ rfl
      have d7 := p0 7 _ rfl
      have d8 := p0 8 _ rfl
      have d9 := p0 9 _ rfl
      have d10 := p0 10 _ rfl
      have d11 := p0 11 _ rfl
      have d12 := p0 12 _ rfl
      have d13 := p0 13 _ rfl
      simp only [Nat.add_zero] at d0
      unfold Evt.val at hap
      dsimp only at d0 d1 d2 d3 d4 d5 d6 d7 d8 d9 d10 d11 d12 d13 hap
      have HAP := Lib.hid hap
      clear p0 hap
      go_wp2_with fail
      refine HAP.out.mono ?_
      rintro r w6 ⟨rfl, t', ha6, hm6, ht6⟩
      have HT6 := Lib.hid (HBO.out.step HSTP.out ha6 hm6 ht6)
      have HJ : Hid (∀ W, Below w6.heap.size w6 W → W.cell? ⟨b, off + i * 14 + 5, none⟩ = some (.slice xA L2.length xca) ∧ RowP W [] xA L2 ∧ L2.length ≤ xca ∧ xca ≤ 9223372036854775807) := Lib.hid (fun W hb => by
        obtain ⟨h1, h2⟩ := HROW2.out W _ (HT6.out.below hb).rv
        exact ⟨h1 5 _ rfl, h2.rl, h2.la, h2.ma⟩)
      have HB6 := Lib.hid (Below.refl w6.heap.size w6)
      have HGO2 : Hid (∀ x ∈ L2, x.e = true → x.c = []) := HGO
      clear ha6 hm6 ht6 HAP HBO HSTP HROW2 HGO d0 d1 d2 d3 d4 d5 d6 d7 d8 d9 d10 d11 d12 d13
      go_wp2_with fail
      go_loopg [7] L2.length (fun m v7 W => ∃ k : Nat, k + m = L2.length ∧ v7 = .int .i64 (k : Int) ∧ Hid (Below w6.heap.size w6 W))
      case atStart => exact ⟨0, Nat.zero_add _, rfl, HB6⟩
      case round =>
        obtain ⟨k, hkm, rfl, HBJ⟩ := hrel
        have hj0 : (0 : Int) ≤ (k : Int) := by omega
        obtain ⟨x5, hrl, hm1, hm2⟩ := HJ.out _ HBJ.out
        by_cases hj : k < L2.length
        · have hji : (k : Int) < (L2.length : Int) := by omega
          obtain ⟨n2, hn2⟩ : ∃ n, gk = n + 1 := ⟨gk - 1, by omega⟩
          subst hn2
          have hjc : (k : Int) < (xca : Int) := by omega
          have hinc2 : IntKind.i64.wrap ((k : Int) + 1) = (k : Int) + 1 := by rw [IntKind.wrap_i64]; omega
          obtain ⟨bs, os, hA3, -, -, g0, g1, g2, g3⟩ := RowP.get hrl k hj
          have hgo := HGO2.out _ (List.getElem_mem hj)
          generalize L2[k] = z at g0 g1 g2 g3 hgo
          obtain ⟨sn, sp, sc, se⟩ := z
          dsimp only at g0 g1 g2 g3 hgo hA3
          subst hA3
          have HKJ := Lib.hid (And.intro hkm hj)
          clear hrl hm1 hm2 hkm g0 g1
          cases se with
          | false =>
            clear hgo
            go_wp2_with fail
            go_roundg n2
            case measure => omega
            case rel => exact ⟨k + 1, by have := HKJ.out; omega, by go_num, HBJ⟩
          | true =>
            obtain rfl := hgo rfl
            clear hgo
            have g2' : wr.cell? ⟨bs, os + k * 4 + 2, none⟩ = some (.string ⟨#[]⟩) := g2
            clear g2
            go_wp2_with fail
            go_roundg n2
            case measure => omega
            case rel => exact ⟨k + 1, by have := HKJ.out; omega, by go_num, HBJ⟩
        · have hji : ¬ (k : Int) < (L2.length : Int) := by omega
          have HT7 := Lib.hid (HT6.out.below HBJ.out)
          clear hkm hrl hm1 hm2 HT6 HB6 HJ
          go_wp2_with fail
          go_roundg m
          case measure => omega
          case rel => exact ⟨i + 1, by have := HKM.out; omega, by go_num, Lib.hid ⟨t', HT7.out⟩⟩
    · have hki : ¬ (i : Int) < (L.length : Int) := by omega
      have hie : i = (Sta.snap st).length := by rw [← HL.out.1, List.length_map]; omega
      obtain ⟨t, hbo⟩ := HPS.out
      have hb2 : StAt wr p t (q :: s) st i := by
        have h1 := hbo.b
        rw [show Sta.snapAt st i = st from by rw [hie]; exact Sta.snapAt_all st] at h1
        exact h1
      have hsm := stSame hbo.a HI.out.1 (by have := HI.out.2; omega) hb2 HI.out.1 (by have := HI.out.2; omega)
      rw [decide_eq_true (rfl : st = st)] at hsm
      have HSM := Lib.hid hsm
      have HFB := Lib.hid hbo.bl
      clear hsm hb2 hbo hie him HPS HT5
      go_wp2_with fail
      refine HSM.out.mono ?_
      rintro r w7 ⟨rfl, hb7⟩
      have HB7 := Lib.hid (HFB.out.trans (hb7.mono HFB.out.size))
      clear hb7 HSM HFB
      go_wp2_with fail
      refine (HAW.out _).mono ?_
      rintro r wz ⟨rfl, hbz⟩
      have HBZ := Lib.hid (HB7.out.trans (hbz.mono HB7.out.size))
      clear hbz
      go_wp2_with fail
      go_ret
      exact ⟨rfl, HBZ.out⟩
end Go.Proofs.Ytojemaaljjibiaa
