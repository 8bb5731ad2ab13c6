/-
  A record's sectors are put: the journal's write.
-/
import Derived.Test.YtjdklifkalnamaaGreatDoorJrnE
import Derived.Deep.RegionHeld3
import Derived.Deep.DeepCutAuto
import Derived.Deep.CutBlock
namespace Go.Proofs.YtjdklifkalnamaaGreatDoor
open Go.RowKit
set_option linter.unusedVariables false

theorem Mv.onto {w a b : World} {s t : List Nat} (h : Mv w a s) (hm : Mv a b t) (ht : ∀ x ∈ t, w.heap.size ≤ x) : Mv w b s :=
  ⟨hm.os.trans h.os, hm.tape.trans h.tape, hm.output.trans h.output, Nat.le_trans h.size hm.size, fun i hi hn => (hm.block i (Nat.lt_of_lt_of_le hi h.size) (fun e => by have := ht i e; omega)).trans (h.block i hi hn)⟩
namespace Grd
theorem act_les (d : Dsk.St) : (Dsk.act d).2.acts ≤ d.acts + 1 ∧ (Dsk.act d).2.falls ≤ d.falls + 1 := by
  rcases Jrn.act_cases d with ⟨_, f, h⟩ | ⟨_, _, _, h1, h2⟩
  · rw [h]; exact ⟨Nat.le_succ _, Nat.le_refl _⟩
  · omega
theorem put_les (b wn : Nat) (d : Dsk.St) (i : Int) (x : T) : (put b wn d i x).2.2.2.acts ≤ d.acts + 1 ∧ (put b wn d i x).2.2.2.falls ≤ d.falls + 1 := by
  have key : (Dsk.write d i (grd (stamp b wn) x)).2.acts ≤ d.acts + 1 ∧ (Dsk.write d i (grd (stamp b wn) x)).2.falls ≤ d.falls + 1 := by
    have ha := act_les d
    unfold Dsk.write
    split
    · exact ⟨Nat.le_succ _, Nat.le_succ _⟩
    · split
      · exact ⟨Nat.le_succ _, Nat.le_succ _⟩
      · split
        · exact ⟨Nat.le_succ _, Nat.le_succ _⟩
        · split
          · exact ha
          · exact ha
  unfold put
  split
  · exact ⟨Nat.le_succ _, Nat.le_succ _⟩
  · split
    · exact ⟨Nat.le_succ _, Nat.le_succ _⟩
    · split
      · exact key
      · exact key
end Grd
theorem mem_flat {p : List UInt8} : ∀ {L : List (List UInt8)}, p ∈ L → p.length ≤ L.flatten.length := by
  intro L
  induction L with
  | nil => intro h; cases h
  | cons a L ih =>
    intro h
    rw [List.flatten_cons, List.length_append]
    rcases List.mem_cons.1 h with rfl | h
    · omega
    · have := ih h; omega
/-- A record's sectors are put, or the first that is not ends it. -/
def WritePost (w : World) (K : JK) (vs vr : Value) (L : List Jrn.Rec) (sure firm : Nat) (dead : Bool) (wr n : Nat) (r : Int × Nat × Dsk.St) (e : Ending) (w' : World) : Prop :=
  JnAt w' K vs vr L sure firm dead r.2.1 r.2.2 ∧ Mv w w' [K.gg, K.g, K.bd, K.mb] ∧
  ((r.1 ≠ 0 ∧ e = .returned (.tuple #[.slice none 0 0, .int .i64 r.1])) ∨ (r.1 = 0 ∧ ∃ v, e = .returned (.tuple #[v, .int .i64 0]) ∧ IOwn w.heap.size w' v (Jrn.stamps K.boot wr n)))
section
variable {w : World} {K : JK} {vs vr : Value} {L : List Jrn.Rec} {sure firm : Nat} {dead : Bool} {wn : Nat} {d : Dsk.St}
/-- All that the loop keeps: wx sectors have been put, m stamps are noted. -/
structure WrLoop (w W : World) (K : JK) (vs vr : Value) (L : List Jrn.Rec) (sure firm : Nat) (dead : Bool) (wn m wx : Nat) (vp : Value) (PT : List (List UInt8)) (vt : Value) (d' : Dsk.St) : Prop where
  jn : JnAt W K vs vr L sure firm dead wx d'
  mv : Mv w W [K.gg, K.g, K.bd, K.mb]
  parts : JOwn w.heap.size W vp PT
  num : IOwn w.heap.size W vt (Jrn.stamps K.boot wn m)
  ne : ∀ j, vt.ownBlock = some j → vp.ownBlock ≠ some j
  lo : ∀ k ∈ K.all vs vr, k < w.heap.size
theorem WrLoop.below {W W' : World} {m wx : Nat} {vp vt : Value} {PT : List (List UInt8)} {d' : Dsk.St} (h : WrLoop w W K vs vr L sure firm dead wn m wx vp PT vt d') (hb : Below W.heap.size W W') : WrLoop w W' K vs vr L sure firm dead wn m wx vp PT vt d' :=
  ⟨h.jn.below hb, h.mv.trans (Mv.of_below hb _), h.parts.below hb, h.num.below hb, h.ne, h.lo⟩
/-- A sector is put. -/
theorem WrLoop.put {W W' : World} {m wx wx' : Nat} {vp vt : Value} {PT : List (List UInt8)} {d' d2 : Dsk.St} (h : WrLoop w W K vs vr L sure firm dead wn m wx vp PT vt d') (hg : GuardAt W' K.gg K.g K.bd K.mb K.boot wx' d2) (hm : Mv W W' [K.gg, K.g, K.bd, K.mb]) : WrLoop w W' K vs vr L sure firm dead wn m wx' vp PT vt d2 := by
  have hlo : ∀ k, w.heap.size ≤ k → k ∉ [K.gg, K.g, K.bd, K.mb] := fun k hk hn => by
    have := h.lo k (by unfold JK.all; exact List.mem_append_left _ (List.mem_cons_of_mem _ hn))
    omega
  exact ⟨h.jn.turn hg hm, h.mv.trans hm, ⟨h.parts.row.mv hm fun k hk => hlo k (h.parts.lo k hk), h.parts.lo⟩, ⟨h.num.row.mv hm fun k hk => hlo k (h.num.lo k hk), h.num.lo⟩, h.ne, h.lo⟩
/-- A stamp is noted. -/
theorem WrLoop.note {W W' : World} {m wx : Nat} {vp vt vt' : Value} {PT : List (List UInt8)} {d' : Dsk.St} (h : WrLoop w W K vs vr L sure firm dead wn m wx vp PT vt d') (hr : IRow W' vt' (Jrn.stamps K.boot wn m ++ [Grd.stamp K.boot (wn + m)])) (hm : Mv W W' vt.ownBlock.toList) (ho : vt'.ownBlock = vt.ownBlock ∨ ∀ k, vt'.ownBlock = some k → W.heap.size ≤ k) : WrLoop w W' K vs vr L sure firm dead wn (m + 1) wx vp PT vt' d' := by
  have hs : ∀ x ∈ vt.ownBlock.toList, w.heap.size ≤ x := fun x hx => h.num.lo x (by simpa using hx)
  refine ⟨h.jn.mv hm fun k hk hn => ?_, h.mv.onto hm hs, h.parts.mvj hm fun k hk hn => h.ne k hn hk, ?_, fun k hk hv => ?_, h.lo⟩
  · have h1 := hs k hk
    have h2 := h.lo k hn
    omega
  · have := h.num.app hr ho h.mv.size
    rw [← Jrn.stamps_snoc] at this
    exact this
  · rcases ho with ho | ho
    · rw [ho] at hk; exact h.ne k hk hv
    · have h1 := ho k hk
      have h2 := h.parts.row.lt k hv
      omega
abbrev WS (K : JK) (vs : Value) (W : World) : Prop := W.cell? ⟨K.gj, 0, none⟩ = some (.pointer (some ⟨K.gg, 0, none⟩)) ∧ W.cell? ⟨K.gj, 1, none⟩ = some (.int .i64 (K.base : Int)) ∧ W.cell? ⟨K.gj, 4, none⟩ = some vs
theorem JnAt.ws (h : JnAt w K vs vr L sure firm dead wn d) : WS K vs w := ⟨h.cs.1, h.cs.2.1, h.cs.2.2.2.2.1⟩
set_option maxRecDepth 100000 in
set_option maxHeartbeats 8000000 in
theorem jwrite_any (h : JnAt w K vs vr L sure firm dead wn d) (s : List UInt8) (hs : s.length ≤ 6000) (hroom : Jrn.usedL L + Jrn.need s.length ≤ K.size) (hwr : wn + Jrn.need s.length ≤ 4294967295) (ha : d.acts < 999999999000) (hf : d.falls < 999999999000) :
    Calls Tryz.prog 38 #[.pointer (some ⟨K.gj, 0, none⟩), .string (S s)] w (WritePost w K vs vr L sure firm dead wn (Jrn.need s.length) (Jrn.putAll K.boot (Jrn.datas (Jrn.lastL K.seed L) s K.boot wn) ((K.base + Jrn.usedL L : Nat) : Int) wn d)) := by
  have HLAST := Lib.hid (jnlast_any h)
  have hll := h.last_lt
  have hlts := h.lts
  have htop := h.top
  have hboot := h.gd.hi
  have HPT := Lib.hid (fun W => jparts_any s (by omega) W)
  rw [← Jrn.dats_parts]
  have hpl := Jrn.parts_len s
  have hnp := Jrn.need_pos s.length
  have hnd : Jrn.need s.length ≤ 200 := by unfold Jrn.need; omega
  have hplen : ∀ p ∈ Jrn.parts s, p.length ≤ 6002 := by
    intro p hp
    have h1 := Jrn.parts_flat s
    have h2 : p.length ≤ (Jrn.parts s).flatten.length := mem_flat hp
    rw [h1, List.length_append, Jrn.be2_len] at h2
    omega
  have HJ := Lib.hid h
  unfold RowPost' at HPT
  generalize Jrn.lastL K.seed L = link at *
  generalize Jrn.need s.length = n at *
  generalize Jrn.parts s = PT at *
  clear h hs
  have hul : Jrn.usedL L ≤ 8192 := by omega
  generalize hu : Jrn.usedL L = u at *
  have HU := Lib.hid hu
  clear hu
  obtain ⟨R, hR⟩ : ∃ R, Jrn.putAll K.boot (Jrn.dats K.boot 0 link PT wn) ((K.base + u : Nat) : Int) wn d = R := ⟨_, rfl⟩
  rw [hR]
  have HR := Lib.hid hR
  clear hR
  go_enter Tryz.func38, Tryz.ntmps38
  go_wp2_with fail
  refine HLAST.out.mono ?_
  rintro r w1 ⟨rfl, hb1⟩
  have HB1 := Lib.hid hb1
  clear hb1 HLAST
  go_wp2_with fail
  refine (HPT.out _).mono ?_
  rintro r w2 ⟨vp, rfl, hrp, hb2⟩
  have hb := HB1.out.trans (hb2.mono HB1.out.size)
  have H0 := Lib.hid (WrLoop.mk (HJ.out.below hb) (Mv.of_below hb _) (hrp.mono HB1.out.size) (IOwn.nil w.heap.size w2) (fun j hj => by simp [Value.ownBlock] at hj) hlts : WrLoop w w2 K vs vr L sure firm dead wn 0 wn vp PT (.slice none 0 0) d)
  obtain ⟨A, cap, rfl, hlc, hcm, -⟩ := hrp.row.any
  clear hrp hb2 hb HB1 HPT HJ
  go_wp2_with fail
  go_loopw [6, 7, 8, 9, 10, 11, 17] (fun v6 v7 v8 v9 v10 v11 v17 wn' => ∃ (k lk : Nat) (ps : List (List UInt8)) (d' : Dsk.St), v17 = .int .i64 (k : Int) ∧ v7 = .int .i64 (lk : Int) ∧ PT.drop k = ps ∧ k ≤ n ∧ lk < 9223372036854775808 ∧ d'.acts ≤ d.acts + k ∧ d'.falls ≤ d.falls + k ∧
      WrLoop w wn' K vs vr L sure firm dead wn k (wn + k) (.slice A PT.length cap) PT v6 d' ∧ Hid (R = Jrn.putAll K.boot (Jrn.dats K.boot k lk ps (wn + k)) ((K.base + u + k : Nat) : Int) (wn + k) d')) (fun _ _ _ _ _ _ v17 _ => n - (vInt v17).toNat)
  case atStart => exact ⟨0, link, PT, d, rfl, rfl, rfl, Nat.zero_le _, hll, by omega, by omega, H0.out, Lib.hid HR.out.symm⟩
  case round =>
    obtain ⟨k, lk, ps, d', rfl, rfl, hps, hkn, hlk, hac, hfa, hW, hP⟩ := hrel
    have hk0 : (0 : Int) ≤ (k : Int) := by omega
    by_cases hlt : k < n
    · have hkl : k < PT.length := by omega
      have hki : (k : Int) < (PT.length : Int) := by omega
      have hkc : (k : Int) < (cap : Int) := by omega
      have hps2 : ps = (PT[k]'hkl) :: PT.drop (k + 1) := by rw [← hps, List.drop_eq_getElem_cons hkl]
      obtain ⟨g, hA, hc⟩ := hW.parts.row.at_ k hkl
      subst hA
      have hpl2 := hplen _ (List.getElem_mem hkl)
      have hsl := Jrn.sc_len k lk
      have HBF := Lib.hid (fun W => jbefore_any k lk (by omega) W)
      have hRP : R = if (Grd.put K.boot (wn + k) d' ((K.base + u + k : Nat) : Int) (Jrn.sc k lk ++ PT[k]'hkl)).2.1 ≠ 0 then ((Grd.put K.boot (wn + k) d' ((K.base + u + k : Nat) : Int) (Jrn.sc k lk ++ PT[k]'hkl)).2.1, (Grd.put K.boot (wn + k) d' ((K.base + u + k : Nat) : Int) (Jrn.sc k lk ++ PT[k]'hkl)).2.2.1, (Grd.put K.boot (wn + k) d' ((K.base + u + k : Nat) : Int) (Jrn.sc k lk ++ PT[k]'hkl)).2.2.2)
        else Jrn.putAll K.boot (Jrn.dats K.boot (k + 1) (Grd.stamp K.boot (wn + k)) (PT.drop (k + 1)) (wn + k + 1)) (((K.base + u + k : Nat) : Int) + 1) (Grd.put K.boot (wn + k) d' ((K.base + u + k : Nat) : Int) (Jrn.sc k lk ++ PT[k]'hkl)).2.2.1 (Grd.put K.boot (wn + k) d' ((K.base + u + k : Nat) : Int) (Jrn.sc k lk ++ PT[k]'hkl)).2.2.2 := by
        rw [hP.out, hps2, ← Jrn.putAll_cons]
        rfl
      have hok := Jrn.put_ok (b := K.boot) (wn := wn + k) (d := d') (i := ((K.base + u + k : Nat) : Int)) (x := Jrn.sc k lk ++ PT[k]'hkl)
      have hbad := Jrn.put_bad (b := K.boot) (wn := wn + k) (d := d') (i := ((K.base + u + k : Nat) : Int)) (x := Jrn.sc k lk ++ PT[k]'hkl)
      have hles := Grd.put_les K.boot (wn + k) d' ((K.base + u + k : Nat) : Int) (Jrn.sc k lk ++ PT[k]'hkl)
      have hPU : ∀ W, WrLoop w W K vs vr L sure firm dead wn k (wn + k) (.slice (some ⟨g, 0, none⟩) PT.length cap) PT u6 d' → Calls Tryz.prog 54 #[.pointer (some ⟨K.gg, 0, none⟩), .int .i64 ((K.base + u + k : Nat) : Int), .string (S (Jrn.sc k lk ++ PT[k]'hkl))] W (PutPost W K.gg K.g K.bd K.mb K.boot (Grd.put K.boot (wn + k) d' ((K.base + u + k : Nat) : Int) (Jrn.sc k lk ++ PT[k]'hkl))) :=
        fun W hq => gput_any hq.jn.gd (by omega) (by omega) (by omega) _ _
      have hstl : Grd.stamp K.boot (wn + k) < 9223372036854775808 := by unfold Grd.stamp; omega
      have ecast : ((K.base + u + k : Nat) : Int) = (K.base : Int) + (u : Int) + (k : Int) := by omega
      generalize hxx : Grd.put K.boot (wn + k) d' ((K.base + u + k : Nat) : Int) (Jrn.sc k lk ++ PT[k]'hkl) = x at hRP hok hbad hles hPU
      rw [ecast] at hPU
      have HL := Lib.hid (hW.below ((Below.refl _ wr).drew))
      have hy : WS K vs wr := hW.jn.ws
      obtain ⟨A4, cap4, hv4, -, -, -⟩ := hW.jn.st.any
      rw [Jrn.sts_len L hW.jn.shp, HU.out] at hv4
      subst hv4
      have c4 := hW.jn.cs.2.2.2.2.1
      have HRP := Lib.hid hRP
      have HPU := Lib.hid hPU
      clear hxx hRP hP hps2 hW
      generalize PT[k]'hkl = pp at hc HPU hpl2
      generalize Jrn.sc k lk = sck at HBF HPU hsl
      have hg1 : ¬ 9223372036854775807 < sck.length + pp.length := by omega
      have hw1 : IntKind.i64.wrap ((K.base : Int) + (u : Int)) = (K.base : Int) + (u : Int) := by rw [IntKind.wrap_i64]; omega
      have hw2 : IntKind.i64.wrap ((K.base : Int) + (u : Int) + (k : Int)) = (K.base : Int) + (u : Int) + (k : Int) := by rw [IntKind.wrap_i64]; omega
      obtain ⟨stp, cd, wn2, d2⟩ := x
      try dsimp only at hok hbad hles HRP
      unfold PutPost at HPU
      try dsimp only at HPU
      have HOK := Lib.hid (And.intro hok (And.intro hbad hles))
      have HBND := Lib.hid (And.intro hac (And.intro hfa hps))
      clear hok hbad hles hac hfa hps hlt c4 hsl
      go_upto_region 6 with fail
      obtain ⟨c0, c1, c4⟩ := hy
      have hy : WS K (.slice A4 u cap4) wr := ⟨c0, c1, c4⟩
      go_region_held3 (fun w' => WS K (.slice A4 u cap4) w') (first | exact hy | go_keep) (first
        | (go_at_call 55; refine (HBF.out _).mono ?_; rintro r w1 ⟨rfl, hb1⟩; have HL := Lib.hid (HL.out.below hb1); have hy := HL.out.jn.ws; clear hb1)
        | (go_at_call 54; refine (HPU.out _ HL.out).mono ?_; rintro r w2 ⟨rfl, hgd, hmd⟩; have HF := Lib.hid (HL.out.put hgd hmd); have hy := HF.out.jn.ws; clear hgd hmd))
      all_goals (
        clear hy
        by_cases h0 : cd = 0
        · subst h0
          obtain ⟨o1, o2⟩ := HOK.out.1 rfl
          subst o1
          subst o2
          have hR : R = Jrn.putAll K.boot (Jrn.dats K.boot (k + 1) (Grd.stamp K.boot (wn + k)) (PT.drop (k + 1)) (wn + k + 1)) (((K.base + u + k : Nat) : Int) + 1) (wn + k + 1) d2 := by rw [HRP.out, if_neg (by simp)]
          have HR2 := Lib.hid hR
          clear hR HRP HPU HBF
          have hsl2 : (Jrn.stamps K.boot wn k).length ≤ 1000000 := by rw [Jrn.stamps_len]; omega
          generalize hstn : Grd.stamp K.boot (wn + k) = stn at *
          go_wp2_with (at_builtin; refine wpList_append_iv rfl (.tmp 50) (.tmp 52) rfl _ (Jrn.stamps K.boot wn k) [stn] w2.heap.size 1 rfl rfl (HF.out.below ((Below.refl _ w2).alloc (Nat.le_refl _) (.cells #[.int .i64 (stn : Int)] 3))).num.row (one_num w2 stn) hsl2 (by simp) (by simp) ?_; intro v' w6 hrow hmv hob; have HF2 := Lib.hid ((HF.out.below ((Below.refl _ w2).alloc (Nat.le_refl _) (.cells #[.int .i64 (stn : Int)] 3))).note (by rw [hstn]; exact hrow) hmv hob); clear hrow hmv hob)
          obtain ⟨q1, q2, q3⟩ := HBND.out
          have q4 := HOK.out.2.2
          go_roundw
          · refine ⟨k + 1, stn, PT.drop (k + 1), d2, by go_num, rfl, rfl, by omega, hstl, by omega, by omega, HF2.out, Lib.hid ?_⟩
            rw [HR2.out]
            rw [show ((K.base + u + k : Nat) : Int) + 1 = ((K.base + u + (k + 1) : Nat) : Int) by omega, show wn + (k + 1) = wn + k + 1 by omega]
          · simp only [vInt]; omega
        · have h0b : (cd == 0) = false := by rw [beq_eq_false_iff_ne]; exact h0
          have hR : R = (cd, wn2, d2) := by rw [HRP.out, if_pos h0]
          go_wp2_with fail
          go_ret2
          unfold WritePost
          rw [hR]
          exact ⟨HF.out.jn, HF.out.mv, Or.inl ⟨h0, rfl⟩⟩)
    · obtain rfl : k = n := by omega
      have hki : ¬ (k : Int) < (PT.length : Int) := by omega
      have hps0 : ps = [] := by rw [← hps]; exact List.drop_eq_nil_of_le (by omega)
      subst hps0
      have HF := Lib.hid hW
      have HPE := Lib.hid hP.out
      clear hW hP hps
      go_wp2_with fail
      go_ret2
      unfold WritePost
      rw [HPE.out]
      exact ⟨HF.out.jn, HF.out.mv, Or.inr ⟨rfl, _, rfl, HF.out.num⟩⟩
end
end Go.Proofs.YtjdklifkalnamaaGreatDoor
