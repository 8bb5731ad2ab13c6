/-
  Opened again behind a loss: the statement's again.
-/
import Derived.Test.YtjdklifkalnamaaGreatDoorJrnHolds
import Derived.Test.YtjdklifkalnamaaGreatDoorJrnTxt
import Derived.Test.YtjdklifkalnamaaGreatDoorDskH
namespace Go.Proofs.YtjdklifkalnamaaGreatDoor
open Go.RowKit
set_option linter.unusedVariables false

namespace Jrn
open Dsk (St)
/-- The disk behind a loss, called off and started. -/
def again (d : St) (f : Dsk.Fall) : St := { Dsk.calm (Dsk.crash d f).2 with up := true }
theorem again_le (d : St) (f : Dsk.Fall) : (again d f).acts ≤ d.acts ∧ (again d f).falls ≤ d.falls + 1 := by
  unfold again Dsk.calm Dsk.crash
  split
  · exact ⟨Nat.le_refl _, Nat.le_succ _⟩
  · exact ⟨Nat.le_refl _, Nat.le_refl _⟩
theorem goes_down {b : Nat} {P N : List Rec} {d : St} (h : Goes b P N d) (f : Dsk.Fall) : JDown b P N (Dsk.crash d f).2 ∧ Dsk.start (Dsk.calm (Dsk.crash d f).2) = (0, again d f) := by
  rcases h with ⟨wn, h⟩ | h
  · have e : Dsk.crash d f = (0, Dsk.fall f d) := by
      unfold Dsk.crash
      rw [if_neg (by rw [h.up]; decide)]
    have ea : again d f = { Dsk.calm (Dsk.fall f d) with up := true } := by unfold again; rw [e]
    rw [e, ea]
    refine ⟨j_fall h f, ?_⟩
    unfold Dsk.start
    rw [if_neg (show ¬ (Dsk.calm (Dsk.fall f d)).up = true by show ¬ false = true; decide)]
  · have e : Dsk.crash d f = (8, d) := by
      unfold Dsk.crash
      rw [if_pos h.up]
    have ea : again d f = { Dsk.calm d with up := true } := by unfold again; rw [e]
    rw [e, ea]
    refine ⟨h, ?_⟩
    unfold Dsk.start
    rw [if_neg (show ¬ (Dsk.calm d).up = true by show ¬ d.up = true; rw [h.up]; decide)]
theorem goes_open {b : Nat} {P N : List Rec} {d : St} (h : Goes b P N d) (f : Dsk.Fall) (hb : b + 1 ≤ 255) :
    ∃ (k : Nat) (L' : List Rec), P.length ≤ k ∧ k ≤ (txts P N).length ∧ L'.length = k ∧ txts L' [] = (txts P N).take k ∧ parse (rs (again d f)) 61 3 60 7 = (L'.map Prod.fst, usedL L', lastL 7 L') ∧ JUp (b + 1) 0 L' [] (again d f) := by
  obtain ⟨hd, _⟩ := goes_down h f
  obtain ⟨j, L', h1, h2, h3, h4⟩ := j_open (d' := again d f) hd hb rfl rfl
  have hl : L'.length = P.length + j := by
    have := congrArg List.length h2
    rw [List.length_map, List.length_map, List.length_append, List.length_take] at this
    omega
  have ht : (txts P N).length = P.length + N.length := by unfold txts; rw [List.length_map, List.length_append]
  refine ⟨P.length + j, L', by omega, by omega, hl, ?_, h3, h4⟩
  unfold txts
  rw [List.append_nil, h2, ← List.map_take, List.take_append]
  congr 2
  · rw [List.take_of_length_le (by omega)]
  · congr 1
    omega
end Jrn

/-- What the statement holds while its journal is down. -/
structure DW (K : Kp) (w0 W : World) (g bd mb gp : Nat) (v : Value) (L : List (List UInt8)) (sure boot : Nat) (d : Dsk.St) : Prop where
  dsk : DiskAt W g bd mb d
  pl : PlIn K w0 W gp v L sure boot [g, bd, mb]
  bel : Below w0.heap.size w0 W
  lo : ∀ k ∈ [g, bd, mb], w0.heap.size ≤ k
theorem DW.below {K : Kp} {w0 W W' : World} {g bd mb gp : Nat} {v : Value} {L : List (List UInt8)} {sure boot : Nat} {d : Dsk.St} (h : DW K w0 W g bd mb gp v L sure boot d) (hb : Below W.heap.size W W') : DW K w0 W' g bd mb gp v L sure boot d :=
  ⟨h.dsk.below hb, h.pl.below hb, h.bel.trans (hb.mono h.bel.size), h.lo⟩
theorem DW.mv {K : Kp} {w0 W W' : World} {g bd mb gp : Nat} {v : Value} {L : List (List UInt8)} {sure boot : Nat} {d d' : Dsk.St} (h : DW K w0 W g bd mb gp v L sure boot d) (hd : DiskAt W' g bd mb d') (hm : Mv W W' [g, bd, mb]) : DW K w0 W' g bd mb gp v L sure boot d' :=
  ⟨hd, h.pl.mv hm, hm.below h.bel h.bel.size h.lo, h.lo⟩
theorem DW.boot {K : Kp} {w0 W : World} {g bd mb gp : Nat} {v : Value} {L : List (List UInt8)} {sure boot : Nat} {d : Dsk.St} (h : DW K w0 W g bd mb gp v L sure boot d) : DW K w0 (W.setCell ⟨gp, 2, none⟩ (.int .i64 ((boot : Int) + 1))) g bd mb gp v L sure (boot + 1) d := by
  have ho := Only.set W gp 2 (.int .i64 ((boot : Int) + 1))
  have hn := h.pl.no
  simp only [List.mem_cons, List.not_mem_nil, or_false, not_or] at hn
  exact ⟨h.dsk.mv (Mv.of_only ho (s := [gp]) (by simp)) (by simp; omega) (by simp; omega) (by simp; omega), h.pl.set 2 _ v L sure (boot + 1) rfl rfl h.pl.at_.row, ho.below h.bel h.bel.size h.pl.lo, h.lo⟩
/-- A journal, and the document's. -/
structure UW (K : Kp) (w0 W : World) (J : JB) (gp : Nat) (v : Value) (L : List (List UInt8)) (sure boot b wn : Nat) (P N : List Jrn.Rec) (d : Dsk.St) : Prop where
  jat : JAt w0 W J b wn P N d
  pl : PlIn K w0 W gp v L sure boot J.all
theorem UW.below {K : Kp} {w0 W W' : World} {J : JB} {gp : Nat} {v : Value} {L : List (List UInt8)} {sure boot b wn : Nat} {P N : List Jrn.Rec} {d : Dsk.St} (h : UW K w0 W J gp v L sure boot b wn P N d) (hb : Below W.heap.size W W') : UW K w0 W' J gp v L sure boot b wn P N d := ⟨h.jat.below hb, h.pl.below hb⟩
theorem UW.set {K : Kp} {w0 W : World} {J : JB} {gp : Nat} {v : Value} {L : List (List UInt8)} {sure boot b wn : Nat} {P N : List Jrn.Rec} {d : Dsk.St} (h : UW K w0 W J gp v L sure boot b wn P N d) (i : Nat) (u v' : Value) (L' : List (List UInt8)) (sure' boot' : Nat)
    (e : (#[v, .int .i64 (sure : Int), .int .i64 (boot : Int)] : Array Value).setIfInBounds i u = #[v', .int .i64 (sure' : Int), .int .i64 (boot' : Int)]) (hv : v'.ownBlock = v.ownBlock) (hr : JRow W v' L') : UW K w0 (W.setCell ⟨gp, i, none⟩ u) J gp v' L' sure' boot' b wn P N d :=
  ⟨h.jat.apart (Mv.of_only (Only.set W gp i u) (s := [gp]) (by simp)) (fun k hk => by rw [List.mem_singleton.1 hk]; exact h.pl.no) (fun k hk => by rw [List.mem_singleton.1 hk]; exact h.pl.lo), h.pl.set i u v' L' sure' boot' e hv hr⟩
theorem UW.opened {K : Kp} {w0 W W' : World} {J : JB} {g bd mb gp : Nat} {v : Value} {L : List (List UInt8)} {sure boot b wn : Nat} {P N : List Jrn.Rec} {d d' : Dsk.St} (h : DW K w0 W g bd mb gp v L sure boot d) (hJ : JAt w0 W' J b wn P N d') (hb : Below W.heap.size W W') (eg : J.g = g) (ebd : J.bd = bd) (emb : J.mb = mb) (hn : ∀ k ∈ [J.gj, J.gg, J.row, J.stp], W.heap.size ≤ k) : UW K w0 W' J gp v L sure boot b wn P N d' :=
  ⟨hJ, (h.pl.below hb).less (by
    obtain ⟨l1, l2⟩ := h.pl.lt
    have l3 := h.pl.klt
    intro k hk
    unfold JB.all at hk
    rw [eg, ebd, emb] at hk
    simp only [List.mem_cons, List.not_mem_nil, or_false] at hk hn
    by_cases hg : k = g ∨ k = bd ∨ k = mb
    · exact Or.inl (by simp only [List.mem_cons, List.not_mem_nil, or_false]; exact hg)
    · have hk' : W.heap.size ≤ k := hn k (by omega)
      exact Or.inr ⟨by omega, fun e => by have := l2 k e; omega, fun o t cs e => by have := l3 o t cs e; omega⟩)⟩

set_option maxRecDepth 100000 in
set_option maxHeartbeats 8000000 in
theorem jagain_any {K : Kp} {w0 w : World} {g bd mb gp : Nat} {v : Value} {b : Nat} {P N : List Jrn.Rec} {d : Dsk.St} (h : DW K w0 w g bd mb gp v (Jrn.txts P N) P.length b d) (hG : Jrn.Goes b P N d) (hb1 : 1 ≤ b) (hb : b + 1 ≤ 255) (hfl : d.falls < 1000000000000) (f : Dsk.Fall) (hf : Fok f)
    (hs : ∀ s ∈ Jrn.txts P N, s.length ≤ 1000000) (hu : Jrn.usedT (Jrn.txts P N) ≤ 60) :
    Calls Tryz.prog 12 #[.pointer (some ⟨g, 0, none⟩), .pointer (some ⟨gp, 0, none⟩), .agg #[.int .u64 (f.keep : Int), .int .i64 f.tear]] w fun e w' =>
      ∃ (J : JB) (L' : List Jrn.Rec) (v' : Value), J.g = g ∧ J.bd = bd ∧ J.mb = mb ∧ e = .returned (.pointer (some ⟨J.gj, 0, none⟩)) ∧ UW K w0 w' J gp v' (Jrn.txts L' []) L'.length (b + 1) (b + 1) 0 L' [] (Jrn.again d f) := by
  obtain ⟨hdn, hst⟩ := Jrn.goes_down hG f
  obtain ⟨k, L', hk1, hk2, hk3, hk4, hk5, hk6⟩ := Jrn.goes_open hG f hb
  have HCR : Hid (∀ (W : World), DW K w0 W g bd mb gp v (Jrn.txts P N) P.length b d → Calls Tryz.prog 33 #[.pointer (some ⟨g, 0, none⟩), .agg #[.int .u64 (f.keep : Int), .int .i64 f.tear]] W fun e w' => (∃ c, e = .returned (.int .i64 c)) ∧ DW K w0 w' g bd mb gp v (Jrn.txts P N) P.length b (Dsk.crash d f).2) :=
    Lib.hid (fun W hW => (crash_any hW.dsk hfl f hf).mono (fun e w' hp => ⟨⟨_, hp.1⟩, hW.mv hp.2.1 hp.2.2⟩))
  have HCA : Hid (∀ (W : World), DW K w0 W g bd mb gp v (Jrn.txts P N) P.length b (Dsk.crash d f).2 → Calls Tryz.prog 34 #[.pointer (some ⟨g, 0, none⟩)] W fun e w' => e = .returned (.tuple #[]) ∧ DW K w0 w' g bd mb gp v (Jrn.txts P N) P.length b (Dsk.calm (Dsk.crash d f).2)) :=
    Lib.hid (fun W hW => (calm_any hW.dsk).mono (fun e w' hp => ⟨hp.1, hW.mv hp.2.1 hp.2.2⟩))
  have HST : Hid (∀ (W : World), DW K w0 W g bd mb gp v (Jrn.txts P N) P.length b (Dsk.calm (Dsk.crash d f).2) → Calls Tryz.prog 35 #[.pointer (some ⟨g, 0, none⟩)] W fun e w' => e = .returned (.int .i64 0) ∧ DW K w0 w' g bd mb gp v (Jrn.txts P N) P.length b (Jrn.again d f)) :=
    Lib.hid (fun W hW => (start_any hW.dsk).mono (fun e w' hp => ⟨by rw [hp.1, hst], by
      have := hW.mv hp.2.1 hp.2.2
      rw [hst] at this
      exact this⟩))
  have HOP : Hid (∀ (W : World), DW K w0 W g bd mb gp v (Jrn.txts P N) P.length (b + 1) (Jrn.again d f) → Calls Tryz.prog 8 #[.pointer (some ⟨g, 0, none⟩), .int .i64 ((b : Int) + 1)] W fun e w' => ∃ J : JB, J.g = g ∧ J.bd = bd ∧ J.mb = mb ∧ e = .returned (.pointer (some ⟨J.gj, 0, none⟩)) ∧ UW K w0 w' J gp v (Jrn.txts P N) P.length (b + 1) (b + 1) 0 L' [] (Jrn.again d f)) :=
    Lib.hid (fun W hW => by
      have := jopen_any (w0 := w0) hW.dsk hW.bel hW.lo hk6 (by omega) hb
      have e : ((b + 1 : Nat) : Int) = (b : Int) + 1 := by omega
      rw [e] at this
      exact this.mono (fun e w' ⟨J, q1, q2, q3, q4, q5, q6, q7⟩ => ⟨J, q1, q2, q3, q4, UW.opened hW q5 q6 q1 q2 q3 q7⟩))
  have HRC : Hid (∀ (W : World) (J : JB), JAt w0 W J (b + 1) 0 L' [] (Jrn.again d f) → Calls Tryz.prog 23 #[.pointer (some ⟨J.gj, 0, none⟩)] W fun e w' => ∃ (A : Option Addr) (cap : Nat), e = .returned (.slice A k cap) ∧ Below W.heap.size W w') :=
    Lib.hid (fun W J hJ => (jrecords_any hJ).mono (fun e w' ⟨lv, q1, q2, q3⟩ => by
      obtain ⟨A, cap, e2, _⟩ := q2.any
      have hlen : (Jrn.txts L' []).length = k := by unfold Jrn.txts; rw [List.length_map, List.append_nil, hk3]
      rw [hlen] at e2
      subst e2
      exact ⟨A, cap, q1, q3⟩))
  have HHO : Hid (∀ (W : World) (J : JB) (v' : Value), UW K w0 W J gp v' (Jrn.txts L' []) L'.length (b + 1) (b + 1) 0 L' [] (Jrn.again d f) → Calls Tryz.prog 14 #[.pointer (some ⟨J.gj, 0, none⟩), .pointer (some ⟨gp, 0, none⟩)] W fun e w' => e = .returned (.bool true) ∧ Below W.heap.size W w') :=
    Lib.hid (fun W J v' hU => jholds_any hU.jat hU.pl.at_ (fun s hsm => hs s (by rw [hk4] at hsm; exact List.mem_of_mem_take hsm)) (by rw [hk4]; have := Jrn.usedT_le (Jrn.txts P N) k; omega))
  have HSET : Hid (∀ (W : World) (J : JB) (A : Option Addr) (n cap : Nat), v = .slice A n cap → UW K w0 W J gp v (Jrn.txts P N) P.length (b + 1) (b + 1) 0 L' [] (Jrn.again d f) →
      UW K w0 ((W.setCell ⟨gp, 0, none⟩ (.slice A k cap)).setCell ⟨gp, 1, none⟩ (.int .i64 (k : Int))) J gp (.slice A k cap) (Jrn.txts L' []) L'.length (b + 1) (b + 1) 0 L' [] (Jrn.again d f)) :=
    Lib.hid (fun W J A n cap e hU => by
      subst e
      have r1 := hU.pl.at_.row.take k hk2
      have u1 := hU.set 0 (.slice A k cap) (.slice A k cap) ((Jrn.txts P N).take k) P.length (b + 1) rfl (by cases A <;> rfl) r1
      have u2 := u1.set 1 (.int .i64 (k : Int)) (.slice A k cap) ((Jrn.txts P N).take k) k (b + 1) rfl rfl u1.pl.at_.row
      rw [hk4, hk3]
      exact u2)
  obtain ⟨A, cap, hv, hlc, hcm, -⟩ := h.pl.at_.row.any
  have HV := Lib.hid hv
  have H := Lib.hid h
  have HK3 := Lib.hid hk3
  clear h hG hdn hst hk4 hk5 hk6 hs hu hfl hf hk3
  generalize Jrn.txts P N = L at HCR HCA HST HOP HSET H hk2 hlc hv HV
  generalize (Dsk.crash d f).2 = e1 at HCR HCA HST
  generalize Dsk.calm e1 = e2 at HCA HST
  have HEX : Hid (∃ e3, Jrn.again d f = e3) := Lib.hid ⟨_, rfl⟩
  have hbi : (0 : Int) ≤ (b : Int) := by omega
  have hbi2 : (b : Int) ≤ 254 := by omega
  have hki1 : ¬ (k : Int) < (P.length : Int) := by omega
  have hki2 : ¬ (L.length : Int) < (k : Int) := by omega
  have hki3 : (k : Int) ≤ (cap : Int) := by omega
  have hki0 : (0 : Int) ≤ (k : Int) := by omega
  have hkc : (k : Int) ≤ 9223372036854775807 := by omega
  clear hk1 hk2 hb hb1 hcm hlc hv
  go_enter Tryz.func12, Tryz.ntmps12
  go_wp2_with fail
  have H0 := Lib.hid (H.out.below ((Below.refl _ w).alloc (Nat.le_refl _) (.cells #[.int .u64 (f.keep : Int), .int .i64 f.tear] 35)))
  refine (HCR.out _ H0.out).mono ?_
  rintro r w1 ⟨⟨c, rfl⟩, h⟩
  replace H0 := Lib.hid h
  clear h H HCR
  go_wp2_with fail
  refine (HCA.out _ H0.out).mono ?_
  rintro r w2 ⟨rfl, h⟩
  replace H0 := Lib.hid h
  clear h HCA
  go_wp2_with fail
  refine (HST.out _ H0.out).mono ?_
  rintro r w3 ⟨rfl, h⟩
  replace H0 := Lib.hid h
  clear h HST
  obtain ⟨c0, c1, c2⟩ := H0.out.pl.at_.cs
  have f2 := H0.out.pl.at_.has.free 2
  have H1 := Lib.hid H0.out.boot
  clear H0
  go_upto_region 5 with fail
  generalize w3.setCell ⟨gp, 2, none⟩ (.int .i64 ((b : Int) + 1)) = W4 at H1 ⊢
  clear c0 c1 c2 f2
  obtain ⟨c0, c1, c2⟩ := H1.out.pl.at_.cs
  have hcast : ((b + 1 : Nat) : Int) = (b : Int) + 1 := by omega
  rw [hcast] at c2
  go_wp2_with fail
  refine (HOP.out _ H1.out).mono ?_
  rintro r w5 ⟨J, q1, q2, q3, rfl, h⟩
  have H2 := Lib.hid h
  clear h H1 HOP c0 c1 c2
  have HQ := Lib.hid (And.intro q1 (And.intro q2 q3))
  clear q1 q2 q3
  go_wp2_with fail
  refine (HRC.out _ _ H2.out.jat).mono ?_
  rintro r w6 ⟨A2, cap2, rfl, hb⟩
  replace H2 := Lib.hid (H2.out.below hb)
  clear hb HRC
  have h2 := H2.out.pl.at_
  rw [HV.out] at h2
  obtain ⟨c0, c1, c2⟩ := h2.cs
  have f0 := h2.has.free 0
  have f1 := h2.has.free 1
  have H3 := Lib.hid (HSET.out w6 J A L.length cap HV.out H2.out)
  clear h2 H2 HSET
  go_upto_region 13 with fail
  generalize (w6.setCell ⟨gp, 0, none⟩ (.slice A k cap)).setCell ⟨gp, 1, none⟩ (.int .i64 (k : Int)) = W7 at H3 ⊢
  clear c0 c1 c2 f0 f1
  go_wp2_with fail
  refine (HHO.out _ _ _ H3.out).mono ?_
  rintro r w8 ⟨rfl, hb⟩
  replace H3 := Lib.hid (H3.out.below hb)
  clear hb HHO
  go_wp2_with fail
  go_ret
  exact ⟨J, L', _, HQ.out.1, HQ.out.2.1, HQ.out.2.2, rfl, H3.out⟩
end Go.Proofs.YtjdklifkalnamaaGreatDoor
