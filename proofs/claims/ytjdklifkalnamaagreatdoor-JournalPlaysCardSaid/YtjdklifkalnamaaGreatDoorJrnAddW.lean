/-
  The statement's add, walked. Made by wip/gen/mkjadd.py.
-/
import Derived.Test.YtjdklifkalnamaaGreatDoorJrnAdd
namespace Go.Proofs.YtjdklifkalnamaaGreatDoor
open Go.RowKit
set_option linter.unusedVariables false

set_option maxRecDepth 100000 in
set_option maxHeartbeats 8000000 in
theorem jadd_any {K : Kp} {w0 w : World} {J : JB} {gp : Nat} {v : Value} {b wn : Nat} {P N : List Jrn.Rec} {d : Dsk.St} (h : UW K w0 w J gp v (Jrn.txts P N) P.length b b wn P N d) (ha : d.acts < 900000000000) (hf : d.falls < 900000000000) (kind long : Int) (c : UInt8) (f : Dsk.Fall) :
    Calls Tryz.prog 9 #[.pointer (some ⟨J.g, 0, none⟩), .pointer (some ⟨J.gj, 0, none⟩), .pointer (some ⟨gp, 0, none⟩), .agg #[.int .i64 kind, .int .i64 long, .int .u8 (c.toNat : Int), .int .u64 (f.keep : Int), .int .i64 f.tear]] w fun e w' =>
      e = .returned (.bool true) ∧ (LUp K w0 w' J.g J.bd J.mb gp b J.gj (d.acts + 400) (d.falls + 1) ∨ LDn K w0 w' J.g J.bd J.mb gp b (d.acts + 400) (d.falls + 1)) := by
  obtain ⟨n1, hn1, e1⟩ := and_mask long 8191 (by decide)
  obtain ⟨n2, hn2, e2⟩ := and_mask long 127 (by decide)
  obtain ⟨s1, hs1, q1⟩ : ∃ s : List UInt8, s.length ≤ 8191 ∧ s = Jrn.txt c n1 := ⟨_, by rw [Jrn.txt_len]; omega, rfl⟩
  obtain ⟨s2, hs2, q2⟩ : ∃ s : List UInt8, s.length ≤ 8191 ∧ s = Jrn.txt c n2 := ⟨_, by rw [Jrn.txt_len]; omega, rfl⟩
  have HT1 : Hid (∀ W, Calls Tryz.prog 27 #[.int .u8 (c.toNat : Int), .int .i64 (n1 : Int)] W fun e w' => e = .returned (.string (S s1)) ∧ Below W.heap.size W w') := Lib.hid (fun W => by rw [q1]; exact jtext_any c n1 (by omega) W)
  have HT2 : Hid (∀ W, Calls Tryz.prog 27 #[.int .u8 (c.toNat : Int), .int .i64 (n2 : Int)] W fun e w' => e = .returned (.string (S s2)) ∧ Below W.heap.size W w') := Lib.hid (fun W => by rw [q2]; exact jtext_any c n2 (by omega) W)
  have HE : Hid (bits .and .i64 long 8191 = (n1 : Int) ∧ bits .and .i64 long 127 = (n2 : Int)) := Lib.hid ⟨e1, e2⟩
  clear q1 q2 hn1 hn2 e1 e2
  obtain ⟨g1, g2, g3⟩ := Jrn.goes_short (Or.inl ⟨wn, h.jat.up⟩)
  have HPU : Hid (∀ (W : World) (gp' : Nat), UW K w0 W J gp' v (Jrn.txts P N) P.length b b wn P N d → Calls Tryz.prog 28 #[.pointer (some ⟨gp', 0, none⟩)] W fun e w' => e = .returned (.int .i64 (Jrn.usedT (Jrn.txts P N) : Int)) ∧ w' = W) :=
    Lib.hid (fun W gp' hU => jused_any hU.pl.at_ (fun s hs => by have := g1 s hs; omega) (by omega))
  have HPU2 : Hid (∀ (W : World) (l : List Nat), PlIn K w0 W gp v (Jrn.txts P N) P.length b l → Calls Tryz.prog 28 #[.pointer (some ⟨gp, 0, none⟩)] W fun e w' => e = .returned (.int .i64 (Jrn.usedT (Jrn.txts P N) : Int)) ∧ w' = W) :=
    Lib.hid (fun W l hU => jused_any hU.at_ (fun s hs => by have := g1 s hs; omega) (by omega))
  have HND : Hid (∀ (s : List UInt8) W, s.length ≤ 8191 → Calls Tryz.prog 17 #[.int .i64 (s.length : Int)] W fun e w' => e = .returned (.int .i64 (Jrn.need s.length : Int)) ∧ w' = W) := Lib.hid (fun s W hs => jneed_any s.length (by omega) W)
  have HLL : (Jrn.txts P N).length ≤ 60 := by
    obtain ⟨B, hm, _⟩ := h.jat.up.mid
    have h1 := Jrn.len_used P
    have h2 := Jrn.len_used N
    have h3 := hm.room
    unfold Jrn.txts
    rw [List.length_map, List.length_append]
    omega
  have HLN := Lib.hid HLL
  clear HLL g1 g3
  have HG2 := Lib.hid g2
  clear g2
  have HAR : Hid (∀ (s : List UInt8), s.length ≤ 8191 → (6000 < s.length ∨ (s.length ≤ 6000 ∧ 60 < Jrn.usedT (Jrn.txts P N) + Jrn.need s.length) ∨ (s.length ≤ 6000 ∧ Jrn.usedT (Jrn.txts P N) + Jrn.need s.length ≤ 60))) := Lib.hid (fun s _ => by omega)
  have HAL : Hid (∀ (s : List UInt8) (W : World), s.length ≤ 8191 → 6000 < s.length → UW K w0 W J gp v (Jrn.txts P N) P.length b b wn P N d → Calls Tryz.prog 16 #[.pointer (some ⟨J.gj, 0, none⟩), .string (S s)] W fun e w' => e = .returned (.int .i64 3) ∧ Below W.heap.size W w') := Lib.hid (fun s W h1 h2 hU => jappend_long hU.jat s h2 (by omega))
  have HAF : Hid (∀ (s : List UInt8) (W : World), s.length ≤ 6000 → 60 < Jrn.usedT (Jrn.txts P N) + Jrn.need s.length → UW K w0 W J gp v (Jrn.txts P N) P.length b b wn P N d → Calls Tryz.prog 16 #[.pointer (some ⟨J.gj, 0, none⟩), .string (S s)] W fun e w' => e = .returned (.int .i64 6) ∧ Below W.heap.size W w') := Lib.hid (fun s W h1 h2 hU => jappend_full hU.jat s h1 h2)
  have HAO : Hid (∀ (s : List UInt8) (W : World), s.length ≤ 6000 → Jrn.usedT (Jrn.txts P N) + Jrn.need s.length ≤ 60 → UW K w0 W J gp v (Jrn.txts P N) P.length b b wn P N d → Calls Tryz.prog 16 #[.pointer (some ⟨J.gj, 0, none⟩), .string (S s)] W fun e w' => ∃ (c : Int) (ts : List Nat), e = .returned (.int .i64 c) ∧ Mv W w' J.all ∧ ∃ d', d'.acts ≤ d.acts + 400 ∧ d'.falls ≤ d.falls + 1 ∧
      ((c = 0 ∧ ∃ J' wn', J'.gj = J.gj ∧ J'.g = J.g ∧ J'.bd = J.bd ∧ J'.mb = J.mb ∧ UW K w0 w' J' gp v (Jrn.txts P N) P.length b b wn' P (N ++ [(s, ts)]) d') ∨ (c = 8 ∧ DW K w0 w' J.g J.bd J.mb gp v (Jrn.txts P N) P.length b d' ∧ Jrn.JDown b P (N ++ [(s, ts)]) d'))) :=
    Lib.hid (fun s W h1 h2 hU => (jappend_any hU.jat ha hf s h1 h2).mono (fun e w' ⟨c, ts, k1, k2, d', k3, k4, k5⟩ => ⟨c, ts, k1, k2, d', k3, k4, by
      rcases k5 with ⟨k5, J', wn', k6, k7⟩ | ⟨k5, k6, k7, k8⟩
      · exact Or.inl ⟨k5, J', wn', k6.1, k6.2.2.1, k6.2.2.2.1, k6.2.2.2.2.1, hU.on k7 k2 k6⟩
      · exact Or.inr ⟨k5, hU.dw k6 k2 k7, k8⟩⟩))
  have HUP : Hid (∀ (W : World) (d' : Dsk.St) (L : List (List UInt8)), DW K w0 W J.g J.bd J.mb gp v L P.length b d' → d'.up = false → Calls Tryz.prog 11 #[.pointer (some ⟨J.g, 0, none⟩)] W fun r w' => r = .returned (.bool false) ∧ W = w') := Lib.hid (fun W d' L hD hu => by
    have := up_any hD.dsk
    rw [hu] at this
    exact this)
  have HUP2 : Hid (∀ (W : World) (d' : Dsk.St), DiskAt W J.g J.bd J.mb d' → d'.up = false → Calls Tryz.prog 11 #[.pointer (some ⟨J.g, 0, none⟩)] W fun r w' => r = .returned (.bool false) ∧ W = w') := Lib.hid (fun W d' hD hu => by
    have := up_any hD
    rw [hu] at this
    exact this)
  have HSN : Hid (∀ (s : List UInt8) (ts : List Nat), Jrn.txts P (N ++ [(s, ts)]) = Jrn.txts P N ++ [s]) := Lib.hid (fun s ts => Jrn.txts_snoc P N s ts)
  have hu0 : (Jrn.usedT (Jrn.txts P N) : Int) ≤ 60 := by have := HG2.out; omega
  have hu1 : (0 : Int) ≤ (Jrn.usedT (Jrn.txts P N) : Int) := by omega
  obtain ⟨A, cap, hv, hlc, hcm, -⟩ := h.pl.at_.row.any
  have H := Lib.hid h
  clear h ha hf hlc hcm HG2
  generalize Jrn.usedT (Jrn.txts P N) = u at HPU2 HAR HAF HAO hu0 hu1
  clear HPU
  subst hv
  cases hz : (bits .and .i64 long 1024 == 0) with
  | true =>
    have hs := hs2
    clear hs2 hs1
    generalize s2 = s at HT2 hs
    rcases HAR.out s hs with hl | ⟨hl, hr⟩ | ⟨hl, hr⟩
    · have k1 : (6000 : Int) < (s.length : Int) := by omega
      go_enter Tryz.func9, Tryz.ntmps9
      have H0 := Lib.hid (H.out.below ((Below.refl _ w).alloc (Nat.le_refl _) (.cells #[.int .i64 kind, .int .i64 long, .int .u8 (c.toNat : Int), .int .u64 (f.keep : Int), .int .i64 f.tear] 37)))
      have hop := Has.made w 37 #[.int .i64 kind, .int .i64 long, .int .u8 (c.toNat : Int), .int .u64 (f.keep : Int), .int .i64 f.tear]
      have e1 := HE.out.1
      go_wp2_with fail
      clear e1
      refine (HT1.out _).mono ?_
      rintro r w1 ⟨rfl, hb⟩
      replace H0 := Lib.hid (H0.out.below hb)
      replace hop := hop.below hb hop.lt
      clear hb
      have o1 := hop.cell 1
      have o2 := hop.cell 2
      simp only [List.getElem?_toArray, List.getElem?_cons_zero, List.getElem?_cons_succ] at o1 o2
      have e2 := HE.out.2
      go_wp2_with fail
      clear e2
      refine (HT2.out _).mono ?_
      rintro r w2 ⟨rfl, hb⟩
      replace H0 := Lib.hid (H0.out.below hb)
      clear hb o1 o2 hop hz HE HT1 HT2
      go_wp2_with fail
      refine (HAL.out s _ hs hl H0.out).mono ?_
      rintro r w3 ⟨rfl, hb⟩
      replace H0 := Lib.hid (H0.out.below hb)
      clear hb
      go_wp2_with fail
      go_ret
      exact ⟨rfl, Or.inl ⟨J, _, wn, P, N, d, rfl, rfl, rfl, rfl, H0.out, by omega, by omega⟩⟩
    · have k1 : ¬ (6000 : Int) < (s.length : Int) := by omega
      have k2 : (60 : Int) - (u : Int) < (Jrn.need s.length : Int) := by omega
      go_enter Tryz.func9, Tryz.ntmps9
      have H0 := Lib.hid (H.out.below ((Below.refl _ w).alloc (Nat.le_refl _) (.cells #[.int .i64 kind, .int .i64 long, .int .u8 (c.toNat : Int), .int .u64 (f.keep : Int), .int .i64 f.tear] 37)))
      have hop := Has.made w 37 #[.int .i64 kind, .int .i64 long, .int .u8 (c.toNat : Int), .int .u64 (f.keep : Int), .int .i64 f.tear]
      have e1 := HE.out.1
      go_wp2_with fail
      clear e1
      refine (HT1.out _).mono ?_
      rintro r w1 ⟨rfl, hb⟩
      replace H0 := Lib.hid (H0.out.below hb)
      replace hop := hop.below hb hop.lt
      clear hb
      have o1 := hop.cell 1
      have o2 := hop.cell 2
      simp only [List.getElem?_toArray, List.getElem?_cons_zero, List.getElem?_cons_succ] at o1 o2
      have e2 := HE.out.2
      go_wp2_with fail
      clear e2
      refine (HT2.out _).mono ?_
      rintro r w2 ⟨rfl, hb⟩
      replace H0 := Lib.hid (H0.out.below hb)
      clear hb o1 o2 hop hz HE HT1 HT2
      go_wp2_with fail
      refine (HAF.out s _ hl hr H0.out).mono ?_
      rintro r w3 ⟨rfl, hb⟩
      replace H0 := Lib.hid (H0.out.below hb)
      clear hb
      go_wp2_with fail
      refine (HND.out s _ hs).mono ?_
      rintro r w4 ⟨rfl, rfl⟩
      go_wp2_with fail
      refine (HPU2.out _ _ H0.out.pl).mono ?_
      rintro r w5 ⟨rfl, rfl⟩
      go_wp2_with fail
      go_ret
      exact ⟨rfl, Or.inl ⟨J, _, wn, P, N, d, rfl, rfl, rfl, rfl, H0.out, by omega, by omega⟩⟩
    · have k1 : ¬ (6000 : Int) < (s.length : Int) := by omega
      have k2 : ¬ (60 : Int) - (u : Int) < (Jrn.need s.length : Int) := by omega
      go_enter Tryz.func9, Tryz.ntmps9
      have H0 := Lib.hid (H.out.below ((Below.refl _ w).alloc (Nat.le_refl _) (.cells #[.int .i64 kind, .int .i64 long, .int .u8 (c.toNat : Int), .int .u64 (f.keep : Int), .int .i64 f.tear] 37)))
      have hop := Has.made w 37 #[.int .i64 kind, .int .i64 long, .int .u8 (c.toNat : Int), .int .u64 (f.keep : Int), .int .i64 f.tear]
      have e1 := HE.out.1
      go_wp2_with fail
      clear e1
      refine (HT1.out _).mono ?_
      rintro r w1 ⟨rfl, hb⟩
      replace H0 := Lib.hid (H0.out.below hb)
      replace hop := hop.below hb hop.lt
      clear hb
      have o1 := hop.cell 1
      have o2 := hop.cell 2
      simp only [List.getElem?_toArray, List.getElem?_cons_zero, List.getElem?_cons_succ] at o1 o2
      have e2 := HE.out.2
      go_wp2_with fail
      clear e2
      refine (HT2.out _).mono ?_
      rintro r w2 ⟨rfl, hb⟩
      replace H0 := Lib.hid (H0.out.below hb)
      clear hb o1 o2 hop hz HE HT1 HT2
      go_wp2_with fail
      refine (HAO.out s _ hl hr H0.out).mono ?_
      rintro r w3 ⟨cc, ts, rfl, _, d', ka, kf, hd⟩
      have HN := Lib.hid (HSN.out s ts)
      have hq := HLN.out
      rcases hd with ⟨rfl, J', wn', j1, j2, j3, j4, hU⟩ | ⟨rfl, hD, hdn⟩
      · have HU := Lib.hid hU
        have HJ := Lib.hid (And.intro j1 (And.intro j2 (And.intro j3 j4)))
        clear hU j1 j2 j3 j4 H0 H
        go_wp2_with fail
        refine (HND.out s _ hs).mono ?_
        rintro r w4 ⟨rfl, rfl⟩
        go_wp2_with fail
        refine (HPU2.out _ _ HU.out.pl).mono ?_
        rintro r w5 ⟨rfl, rfl⟩
        obtain ⟨c0, _, _⟩ := HU.out.pl.at_.cs
        have hmd := Has.made w5 9 #[.string (S s)]
        have HM : Hid ((w5.alloc (.cells #[.string (S s)] 9)).cell? ⟨w5.heap.size, 0, none⟩ = some (.string (S s))) := Lib.hid (hmd.cell 0)
        clear hmd
        replace HU := Lib.hid (HU.out.below ((Below.refl _ w5).alloc (Nat.le_refl _) (.cells #[.string (S s)] 9)))
        have HCG : Hid (∀ w6, Mv (w5.alloc (.cells #[.string (S s)] 9)) w6 (Value.slice A (Jrn.txts P N).length cap).ownBlock.toList → w6.cell? ⟨gp, 0, none⟩ = some (.slice A (Jrn.txts P N).length cap) ∧ w6.frozen? ⟨gp, 0, none⟩ = false) := Lib.hid (fun w6 hmv => by
          obtain ⟨_, _, a3⟩ := own_mem HU.out.pl
          exact ⟨(hmv.has HU.out.pl.at_.has a3).cell 0, (hmv.has HU.out.pl.at_.has a3).free 0⟩)
        go_wp2_with (at_builtin; refine wpList_append_pl rfl (.tmp 48) (.tmp 50) rfl _ (Jrn.txts P N) s w5.heap.size rfl rfl HU.out.pl.at_.row HM.out (by omega) ?_; intro v' w6 hrow hmv hob; obtain ⟨A', cap', e', -, -, -⟩ := hrow.any; have hll : (Jrn.txts P N ++ [s]).length = (Jrn.txts P N).length + 1 := (by simp); rw [hll] at e'; subst e'; clear hll; have HR3 := Lib.hid (And.intro hrow (And.intro hmv hob)); obtain ⟨cg, fg⟩ := HCG.out w6 hmv; clear hrow hmv hob c0 HM HCG)
        replace HU := Lib.hid (HU.out.grown HR3.out.1 HR3.out.2.1 HR3.out.2.2)
        go_ret
        refine ⟨rfl, Or.inl ⟨J', .slice A' ((Jrn.txts P N).length + 1) cap', wn', P, N ++ [(s, ts)], d', HJ.out.1, HJ.out.2.1, HJ.out.2.2.1, HJ.out.2.2.2, ?_, by omega, by omega⟩⟩
        rw [HN.out]
        exact HU.out
      · have HU := Lib.hid hD
        have HDN := Lib.hid hdn
        clear hD hdn H0 H
        go_wp2_with fail
        refine (HND.out s _ hs).mono ?_
        rintro r w4 ⟨rfl, rfl⟩
        go_wp2_with fail
        refine (HPU2.out _ _ HU.out.pl).mono ?_
        rintro r w5 ⟨rfl, rfl⟩
        obtain ⟨c0, _, _⟩ := HU.out.pl.at_.cs
        have hmd := Has.made w5 9 #[.string (S s)]
        have HM : Hid ((w5.alloc (.cells #[.string (S s)] 9)).cell? ⟨w5.heap.size, 0, none⟩ = some (.string (S s))) := Lib.hid (hmd.cell 0)
        clear hmd
        replace HU := Lib.hid (HU.out.below ((Below.refl _ w5).alloc (Nat.le_refl _) (.cells #[.string (S s)] 9)))
        have HCG : Hid (∀ w6, Mv (w5.alloc (.cells #[.string (S s)] 9)) w6 (Value.slice A (Jrn.txts P N).length cap).ownBlock.toList → w6.cell? ⟨gp, 0, none⟩ = some (.slice A (Jrn.txts P N).length cap) ∧ w6.frozen? ⟨gp, 0, none⟩ = false) := Lib.hid (fun w6 hmv => by
          obtain ⟨_, _, a3⟩ := own_mem HU.out.pl
          exact ⟨(hmv.has HU.out.pl.at_.has a3).cell 0, (hmv.has HU.out.pl.at_.has a3).free 0⟩)
        go_wp2_with (at_builtin; refine wpList_append_pl rfl (.tmp 48) (.tmp 50) rfl _ (Jrn.txts P N) s w5.heap.size rfl rfl HU.out.pl.at_.row HM.out (by omega) ?_; intro v' w6 hrow hmv hob; obtain ⟨A', cap', e', -, -, -⟩ := hrow.any; have hll : (Jrn.txts P N ++ [s]).length = (Jrn.txts P N).length + 1 := (by simp); rw [hll] at e'; subst e'; clear hll; have HR3 := Lib.hid (And.intro hrow (And.intro hmv hob)); obtain ⟨cg, fg⟩ := HCG.out w6 hmv; clear hrow hmv hob c0 HM HCG)
        replace HU := Lib.hid (HU.out.grown HR3.out.1 HR3.out.2.1 HR3.out.2.2)
        refine (HUP2.out _ d' HU.out.dsk HDN.out.up).mono ?_
        rintro r w8 ⟨rfl, rfl⟩
        go_wp2_with fail
        go_ret
        refine ⟨rfl, Or.inr ⟨.slice A' ((Jrn.txts P N).length + 1) cap', P, N ++ [(s, ts)], d', ?_, HDN.out, by omega, by omega⟩⟩
        rw [HN.out]
        exact HU.out
  | false =>
    have hs := hs1
    clear hs1 hs2 HT2
    generalize s1 = s at HT1 hs
    rcases HAR.out s hs with hl | ⟨hl, hr⟩ | ⟨hl, hr⟩
    · have k1 : (6000 : Int) < (s.length : Int) := by omega
      go_enter Tryz.func9, Tryz.ntmps9
      have H0 := Lib.hid (H.out.below ((Below.refl _ w).alloc (Nat.le_refl _) (.cells #[.int .i64 kind, .int .i64 long, .int .u8 (c.toNat : Int), .int .u64 (f.keep : Int), .int .i64 f.tear] 37)))
      have hop := Has.made w 37 #[.int .i64 kind, .int .i64 long, .int .u8 (c.toNat : Int), .int .u64 (f.keep : Int), .int .i64 f.tear]
      have e1 := HE.out.1
      go_wp2_with fail
      clear e1
      refine (HT1.out _).mono ?_
      rintro r w1 ⟨rfl, hb⟩
      replace H0 := Lib.hid (H0.out.below hb)
      replace hop := hop.below hb hop.lt
      clear hb
      have o1 := hop.cell 1
      have o2 := hop.cell 2
      simp only [List.getElem?_toArray, List.getElem?_cons_zero, List.getElem?_cons_succ] at o1 o2
      go_upto_region 4 with fail
      clear o1 o2 hop hz HE HT1
      go_wp2_with fail
      refine (HAL.out s _ hs hl H0.out).mono ?_
      rintro r w3 ⟨rfl, hb⟩
      replace H0 := Lib.hid (H0.out.below hb)
      clear hb
      go_wp2_with fail
      go_ret
      exact ⟨rfl, Or.inl ⟨J, _, wn, P, N, d, rfl, rfl, rfl, rfl, H0.out, by omega, by omega⟩⟩
    · have k1 : ¬ (6000 : Int) < (s.length : Int) := by omega
      have k2 : (60 : Int) - (u : Int) < (Jrn.need s.length : Int) := by omega
      go_enter Tryz.func9, Tryz.ntmps9
      have H0 := Lib.hid (H.out.below ((Below.refl _ w).alloc (Nat.le_refl _) (.cells #[.int .i64 kind, .int .i64 long, .int .u8 (c.toNat : Int), .int .u64 (f.keep : Int), .int .i64 f.tear] 37)))
      have hop := Has.made w 37 #[.int .i64 kind, .int .i64 long, .int .u8 (c.toNat : Int), .int .u64 (f.keep : Int), .int .i64 f.tear]
      have e1 := HE.out.1
      go_wp2_with fail
      clear e1
      refine (HT1.out _).mono ?_
      rintro r w1 ⟨rfl, hb⟩
      replace H0 := Lib.hid (H0.out.below hb)
      replace hop := hop.below hb hop.lt
      clear hb
      have o1 := hop.cell 1
      have o2 := hop.cell 2
      simp only [List.getElem?_toArray, List.getElem?_cons_zero, List.getElem?_cons_succ] at o1 o2
      go_upto_region 4 with fail
      clear o1 o2 hop hz HE HT1
      go_wp2_with fail
      refine (HAF.out s _ hl hr H0.out).mono ?_
      rintro r w3 ⟨rfl, hb⟩
      replace H0 := Lib.hid (H0.out.below hb)
      clear hb
      go_wp2_with fail
      refine (HND.out s _ hs).mono ?_
      rintro r w4 ⟨rfl, rfl⟩
      go_wp2_with fail
      refine (HPU2.out _ _ H0.out.pl).mono ?_
      rintro r w5 ⟨rfl, rfl⟩
      go_wp2_with fail
      go_ret
      exact ⟨rfl, Or.inl ⟨J, _, wn, P, N, d, rfl, rfl, rfl, rfl, H0.out, by omega, by omega⟩⟩
    · have k1 : ¬ (6000 : Int) < (s.length : Int) := by omega
      have k2 : ¬ (60 : Int) - (u : Int) < (Jrn.need s.length : Int) := by omega
      go_enter Tryz.func9, Tryz.ntmps9
      have H0 := Lib.hid (H.out.below ((Below.refl _ w).alloc (Nat.le_refl _) (.cells #[.int .i64 kind, .int .i64 long, .int .u8 (c.toNat : Int), .int .u64 (f.keep : Int), .int .i64 f.tear] 37)))
      have hop := Has.made w 37 #[.int .i64 kind, .int .i64 long, .int .u8 (c.toNat : Int), .int .u64 (f.keep : Int), .int .i64 f.tear]
      have e1 := HE.out.1
      go_wp2_with fail
      clear e1
      refine (HT1.out _).mono ?_
      rintro r w1 ⟨rfl, hb⟩
      replace H0 := Lib.hid (H0.out.below hb)
      replace hop := hop.below hb hop.lt
      clear hb
      have o1 := hop.cell 1
      have o2 := hop.cell 2
      simp only [List.getElem?_toArray, List.getElem?_cons_zero, List.getElem?_cons_succ] at o1 o2
      go_upto_region 4 with fail
      clear o1 o2 hop hz HE HT1
      go_wp2_with fail
      refine (HAO.out s _ hl hr H0.out).mono ?_
      rintro r w3 ⟨cc, ts, rfl, _, d', ka, kf, hd⟩
      have HN := Lib.hid (HSN.out s ts)
      have hq := HLN.out
      rcases hd with ⟨rfl, J', wn', j1, j2, j3, j4, hU⟩ | ⟨rfl, hD, hdn⟩
      · have HU := Lib.hid hU
        have HJ := Lib.hid (And.intro j1 (And.intro j2 (And.intro j3 j4)))
        clear hU j1 j2 j3 j4 H0 H
        go_wp2_with fail
        refine (HND.out s _ hs).mono ?_
        rintro r w4 ⟨rfl, rfl⟩
        go_wp2_with fail
        refine (HPU2.out _ _ HU.out.pl).mono ?_
        rintro r w5 ⟨rfl, rfl⟩
        obtain ⟨c0, _, _⟩ := HU.out.pl.at_.cs
        have hmd := Has.made w5 9 #[.string (S s)]
        have HM : Hid ((w5.alloc (.cells #[.string (S s)] 9)).cell? ⟨w5.heap.size, 0, none⟩ = some (.string (S s))) := Lib.hid (hmd.cell 0)
        clear hmd
        replace HU := Lib.hid (HU.out.below ((Below.refl _ w5).alloc (Nat.le_refl _) (.cells #[.string (S s)] 9)))
        have HCG : Hid (∀ w6, Mv (w5.alloc (.cells #[.string (S s)] 9)) w6 (Value.slice A (Jrn.txts P N).length cap).ownBlock.toList → w6.cell? ⟨gp, 0, none⟩ = some (.slice A (Jrn.txts P N).length cap) ∧ w6.frozen? ⟨gp, 0, none⟩ = false) := Lib.hid (fun w6 hmv => by
          obtain ⟨_, _, a3⟩ := own_mem HU.out.pl
          exact ⟨(hmv.has HU.out.pl.at_.has a3).cell 0, (hmv.has HU.out.pl.at_.has a3).free 0⟩)
        go_wp2_with (at_builtin; refine wpList_append_pl rfl (.tmp 48) (.tmp 50) rfl _ (Jrn.txts P N) s w5.heap.size rfl rfl HU.out.pl.at_.row HM.out (by omega) ?_; intro v' w6 hrow hmv hob; obtain ⟨A', cap', e', -, -, -⟩ := hrow.any; have hll : (Jrn.txts P N ++ [s]).length = (Jrn.txts P N).length + 1 := (by simp); rw [hll] at e'; subst e'; clear hll; have HR3 := Lib.hid (And.intro hrow (And.intro hmv hob)); obtain ⟨cg, fg⟩ := HCG.out w6 hmv; clear hrow hmv hob c0 HM HCG)
        replace HU := Lib.hid (HU.out.grown HR3.out.1 HR3.out.2.1 HR3.out.2.2)
        go_ret
        refine ⟨rfl, Or.inl ⟨J', .slice A' ((Jrn.txts P N).length + 1) cap', wn', P, N ++ [(s, ts)], d', HJ.out.1, HJ.out.2.1, HJ.out.2.2.1, HJ.out.2.2.2, ?_, by omega, by omega⟩⟩
        rw [HN.out]
        exact HU.out
      · have HU := Lib.hid hD
        have HDN := Lib.hid hdn
        clear hD hdn H0 H
        go_wp2_with fail
        refine (HND.out s _ hs).mono ?_
        rintro r w4 ⟨rfl, rfl⟩
        go_wp2_with fail
        refine (HPU2.out _ _ HU.out.pl).mono ?_
        rintro r w5 ⟨rfl, rfl⟩
        obtain ⟨c0, _, _⟩ := HU.out.pl.at_.cs
        have hmd := Has.made w5 9 #[.string (S s)]
        have HM : Hid ((w5.alloc (.cells #[.string (S s)] 9)).cell? ⟨w5.heap.size, 0, none⟩ = some (.string (S s))) := Lib.hid (hmd.cell 0)
        clear hmd
        replace HU := Lib.hid (HU.out.below ((Below.refl _ w5).alloc (Nat.le_refl _) (.cells #[.string (S s)] 9)))
        have HCG : Hid (∀ w6, Mv (w5.alloc (.cells #[.string (S s)] 9)) w6 (Value.slice A (Jrn.txts P N).length cap).ownBlock.toList → w6.cell? ⟨gp, 0, none⟩ = some (.slice A (Jrn.txts P N).length cap) ∧ w6.frozen? ⟨gp, 0, none⟩ = false) := Lib.hid (fun w6 hmv => by
          obtain ⟨_, _, a3⟩ := own_mem HU.out.pl
          exact ⟨(hmv.has HU.out.pl.at_.has a3).cell 0, (hmv.has HU.out.pl.at_.has a3).free 0⟩)
        go_wp2_with (at_builtin; refine wpList_append_pl rfl (.tmp 48) (.tmp 50) rfl _ (Jrn.txts P N) s w5.heap.size rfl rfl HU.out.pl.at_.row HM.out (by omega) ?_; intro v' w6 hrow hmv hob; obtain ⟨A', cap', e', -, -, -⟩ := hrow.any; have hll : (Jrn.txts P N ++ [s]).length = (Jrn.txts P N).length + 1 := (by simp); rw [hll] at e'; subst e'; clear hll; have HR3 := Lib.hid (And.intro hrow (And.intro hmv hob)); obtain ⟨cg, fg⟩ := HCG.out w6 hmv; clear hrow hmv hob c0 HM HCG)
        replace HU := Lib.hid (HU.out.grown HR3.out.1 HR3.out.2.1 HR3.out.2.2)
        refine (HUP2.out _ d' HU.out.dsk HDN.out.up).mono ?_
        rintro r w8 ⟨rfl, rfl⟩
        go_wp2_with fail
        go_ret
        refine ⟨rfl, Or.inr ⟨.slice A' ((Jrn.txts P N).length + 1) cap', P, N ++ [(s, ts)], d', ?_, HDN.out, by omega, by omega⟩⟩
        rw [HN.out]
        exact HU.out
end Go.Proofs.YtjdklifkalnamaaGreatDoor
