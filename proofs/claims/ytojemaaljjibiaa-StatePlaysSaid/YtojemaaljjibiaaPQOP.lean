/-
  QOP: the texts StaQO, StaQP in one.
-/
import Derived.Test.YtojemaaljjibiaaPEvCQ
import Derived.Test.YtojemaaljjibiaaPQNH
namespace Go.Proofs.Ytojemaaljjibiaa
open Go.RowKit
set_option linter.unusedVariables false

/-- What Apply leaves. -/
def ApPost (w : World) (q : Nat) (s ot : List Nat) (st : Sta) (n : Nat) (w' : World) : Prop := ∃ s', StAt w' q s' ot st n ∧ Mv w w' (q :: s) ∧ ∀ x ∈ s', x ∈ s ∨ w.heap.size ≤ x
theorem StStep.post {w w' : World} {q : Nat} {s ot : List Nat} {st : Sta} {M : List EntX} {n : Nat} (h : StStep w q s M st.Q st.now n w') (hu : ∀ x ∈ ot, x < w.heap.size) (hM : M.map EntX.e = st.P) : ApPost w q s ot st n w' := by
  obtain ⟨s', r, m, c⟩ := h
  exact ⟨s', ⟨⟨M, hM, r⟩, fun x hx => Nat.lt_of_lt_of_le (hu x hx) m.size⟩, m, c⟩
theorem StStep.tail {w w' : World} {q : Nat} {s : List Nat} {M : List EntX} {Q : List Pt} {now : Int} {n : Nat} (h : StStep w q s M Q now n w') : w'.cell? ⟨q, 4, none⟩ = some (.int .i64 (n : Int)) ∧ w'.frozen? ⟨q, 4, none⟩ = false ∧ StStep w q s M Q now (n + 1) (w'.setCell ⟨q, 4, none⟩ (.int .i64 ((n : Int) + 1))) := by
  obtain ⟨s', r, -, -⟩ := id h
  obtain ⟨A, ca, mb, B, cb, h1, -⟩ := r.ex
  refine ⟨h1.cell 4, h1.free 4, h.trans (fun s2 r2 => ?_)⟩
  obtain ⟨r3, m3⟩ := r2.setN (n + 1)
  rw [show ((n + 1 : Nat) : Int) = (n : Int) + 1 from by omega] at r3 m3
  exact ⟨s2, r3, m3, fun y hy => Or.inl hy⟩
theorem StRep.one {w w' : World} {q : Nat} {s : List Nat} {M : List EntX} {Q : List Pt} {now : Int} {n : Nat} (h : StRep w' q s M Q now n) (hm : Mv w w' (q :: s)) : StStep w q s M Q now n w' := ⟨s, h, hm, fun y hy => Or.inl hy⟩
section
variable {w : World} {q : Nat} {s ot : List Nat} {st : Sta} {n : Nat}
set_option maxRecDepth 100000 in
set_option maxHeartbeats 16000000 in
theorem stApplyNo (h : StAt w q s ot st n) (hI : Sta.Inv st) (hQ : st.Q.length ≤ 1000) (hn : n ≤ 1000) {v : Evt} {A B : Option Addr} {ca cb : Nat} (hin : EntIn w ((q :: s) ++ ot) v.ent A ca B cb) (hf : EvtFew v) {res : Int} (hc : Sta.check st v = res) (h0 : res ≠ 0) :
    Calls Try.prog 13 #[.pointer (some ⟨q, 0, none⟩), v.val A ca B cb] w fun r w' => r = .returned (.int .i64 res) ∧ ApPost w q s ot st n w' := by
  have hbv : Below w.heap.size w (w.alloc (.cells #[.int .i64 v.kind, .string (S v.ent.id), .int .i64 v.ent.cls, .int .i64 v.ent.born, .int .i64 v.ent.slot, .slice A v.ent.L.length ca, .bool v.ent.gone, .slice B v.ent.H.length cb, .int .i64 v.seq, .int .i64 v.idx, .string (S v.name), .int .i64 v.size, .string (S v.root), .int .i64 v.now] 37)) := stBox _ _
  have hhv := Has.made w 37 #[.int .i64 v.kind, .string (S v.ent.id), .int .i64 v.ent.cls, .int .i64 v.ent.born, .int .i64 v.ent.slot, .slice A v.ent.L.length ca, .bool v.ent.gone, .slice B v.ent.H.length cb, .int .i64 v.seq, .int .i64 v.idx, .string (S v.name), .int .i64 v.size, .string (S v.root), .int .i64 v.now]
  have hck := stCheck (h.below hbv) hI hQ (EntIn.below (hin.sub (t := []) (by simp)) hbv) hf
  rw [hc] at hck
  have HCK := Lib.hid hck
  have hu := h.ul
  obtain ⟨⟨M, hM, hr0⟩, -⟩ := h
  have hbx : EvBox w.heap.size v A ca B cb (w.alloc (.cells #[.int .i64 v.kind, .string (S v.ent.id), .int .i64 v.ent.cls, .int .i64 v.ent.born, .int .i64 v.ent.slot, .slice A v.ent.L.length ca, .bool v.ent.gone, .slice B v.ent.H.length cb, .int .i64 v.seq, .int .i64 v.idx, .string (S v.name), .int .i64 v.size, .string (S v.root), .int .i64 v.now] 37)) := ⟨hhv.cell 0, hhv.cell 1, hhv.cell 2, hhv.cell 3, hhv.cell 4, hhv.cell 5, hhv.cell 6, hhv.cell 7, hhv.cell 8, hhv.cell 9, hhv.cell 10, hhv.cell 11, hhv.cell 12, hhv.cell 13⟩
  have hblt := hhv.lt
  have hbq : w.heap.size ∉ q :: s := fun hx => by have := hr0.ltAll _ hx; omega
  have hrw := hr0.mid hbv
  have HU := Lib.hid hu
  have HM := Lib.hid hM
  clear hhv hck hin hf hI hQ hu hM hr0
  unfold Evt.val at HCK ⊢
  obtain ⟨kind, ⟨id, cls, born, slot, L, gone, H⟩, seq, idx, name, size, root, now2⟩ := v
  dsimp only at *
  go_enter Try.func13, Try.ntmps13
  go_upto_region 1 with fail
  generalize w.alloc (.cells #[.int .i64 kind, .string (S id), .int .i64 cls, .int .i64 born, .int .i64 slot, .slice A L.length ca, .bool gone, .slice B H.length cb, .int .i64 seq, .int .i64 idx, .string (S name), .int .i64 size, .string (S root), .int .i64 now2] 37) = W0 at HCK hbx hbv hblt hrw ⊢
  obtain ⟨b0, hq0⟩ : ∃ b0, w.heap.size = b0 := ⟨_, rfl⟩
  rw [hq0] at hbx hblt hbq ⊢
  have HQ0 := Lib.hid (And.intro hq0 hbq)
  have HB := Lib.hid hbv
  have HBX := Lib.hid (And.intro hblt hbx)
  have HRW := Lib.hid hrw
  obtain ⟨y0, y1, y2, y3, y4, y5, y6, y7, y8, y9, y10, y11, y12, y13⟩ := hbx
  clear hbv hrw hq0 hblt hbq
  go_wp2_with fail
  refine HCK.out.mono ?_
  rintro r w1 ⟨rfl, hb1⟩
  have HB1 := Lib.hid (HB.out.trans (hb1.mono HB.out.size))
  have HR1 := Lib.hid (HRW.out.mid hb1)
  have hbx1 := EvBox.below (v := ⟨kind, ⟨id, cls, born, slot, L, gone, H⟩, seq, idx, name, size, root, now2⟩) HBX.out.2 hb1 HBX.out.1
  have hblt1 : b0 < w1.heap.size := Nat.lt_of_lt_of_le HBX.out.1 hb1.size
  clear hb1 HB HRW HBX HCK y0 y1 y2 y3 y4 y5 y6 y7 y8 y9 y10 y11 y12 y13
  have HBX1 := Lib.hid (And.intro hblt1 hbx1)
  obtain ⟨y0, y1, y2, y3, y4, y5, y6, y7, y8, y9, y10, y11, y12, y13⟩ := hbx1
  dsimp only at y0 y1 y2 y3 y4 y5 y6 y7 y8 y9 y10 y11 y12 y13
  obtain ⟨PA, pca, mb, PB, pcb, hh, hca, hcb, -, -, hsq⟩ := HR1.out.reads
  have hne : (res != 0) = true := by rw [bne_iff_ne]; exact h0
  have hst := StStep.from HB1.out (StStep.below HR1.out (Below.refl _ _))
  have HF := Lib.hid (hst.post (ot := ot) HU.out HM.out)
  clear hst hsq hca hcb h0
  go_wp2_with fail
  go_ret
  exact ⟨rfl, HF.out⟩
set_option maxRecDepth 100000 in
set_option maxHeartbeats 16000000 in
theorem stApply7 (h : StAt w q s ot st n) (hI : Sta.Inv st) (hQ : st.Q.length ≤ 1000) (hn : n ≤ 1000) {v : Evt} {A B : Option Addr} {ca cb : Nat} (hin : EntIn w ((q :: s) ++ ot) v.ent A ca B cb) (hf : EvtFew v) (hc : Sta.check st v = 0) (hk : v.kind = 7) :
    Calls Try.prog 13 #[.pointer (some ⟨q, 0, none⟩), v.val A ca B cb] w fun r w' => r = .returned (.int .i64 0) ∧ ApPost w q s ot (Sta.apply st v) (n + 1) w' := by
  have hap : Sta.apply st v = { st with now := v.now } := by
    unfold Sta.apply
    rw [if_neg (by omega), if_neg (by omega), if_neg (by omega), if_neg (by omega), if_neg (by omega)]
  rw [hap]
  have hbv : Below w.heap.size w (w.alloc (.cells #[.int .i64 v.kind, .string (S v.ent.id), .int .i64 v.ent.cls, .int .i64 v.ent.born, .int .i64 v.ent.slot, .slice A v.ent.L.length ca, .bool v.ent.gone, .slice B v.ent.H.length cb, .int .i64 v.seq, .int .i64 v.idx, .string (S v.name), .int .i64 v.size, .string (S v.root), .int .i64 v.now] 37)) := stBox _ _
  have hhv := Has.made w 37 #[.int .i64 v.kind, .string (S v.ent.id), .int .i64 v.ent.cls, .int .i64 v.ent.born, .int .i64 v.ent.slot, .slice A v.ent.L.length ca, .bool v.ent.gone, .slice B v.ent.H.length cb, .int .i64 v.seq, .int .i64 v.idx, .string (S v.name), .int .i64 v.size, .string (S v.root), .int .i64 v.now]
  have hck := stCheck (h.below hbv) hI hQ (EntIn.below (hin.sub (t := []) (by simp)) hbv) hf
  rw [hc] at hck
  have HCK := Lib.hid hck
  have hu := h.ul
  obtain ⟨⟨M, hM, hr0⟩, -⟩ := h
  have hbx : EvBox w.heap.size v A ca B cb (w.alloc (.cells #[.int .i64 v.kind, .string (S v.ent.id), .int .i64 v.ent.cls, .int .i64 v.ent.born, .int .i64 v.ent.slot, .slice A v.ent.L.length ca, .bool v.ent.gone, .slice B v.ent.H.length cb, .int .i64 v.seq, .int .i64 v.idx, .string (S v.name), .int .i64 v.size, .string (S v.root), .int .i64 v.now] 37)) := ⟨hhv.cell 0, hhv.cell 1, hhv.cell 2, hhv.cell 3, hhv.cell 4, hhv.cell 5, hhv.cell 6, hhv.cell 7, hhv.cell 8, hhv.cell 9, hhv.cell 10, hhv.cell 11, hhv.cell 12, hhv.cell 13⟩
  have hblt := hhv.lt
  have hbq : w.heap.size ∉ q :: s := fun hx => by have := hr0.ltAll _ hx; omega
  have hrw := hr0.mid hbv
  have HU := Lib.hid hu
  have HM := Lib.hid hM
  clear hap
  clear hhv hck hin hf hI hQ hu hM hr0
  unfold Evt.val at HCK ⊢
  obtain ⟨kind, ⟨id, cls, born, slot, L, gone, H⟩, seq, idx, name, size, root, now2⟩ := v
  dsimp only at *
  subst hk
  go_enter Try.func13, Try.ntmps13
  go_upto_region 1 with fail
  generalize w.alloc (.cells #[.int .i64 7, .string (S id), .int .i64 cls, .int .i64 born, .int .i64 slot, .slice A L.length ca, .bool gone, .slice B H.length cb, .int .i64 seq, .int .i64 idx, .string (S name), .int .i64 size, .string (S root), .int .i64 now2] 37) = W0 at HCK hbx hbv hblt hrw ⊢
  obtain ⟨b0, hq0⟩ : ∃ b0, w.heap.size = b0 := ⟨_, rfl⟩
  rw [hq0] at hbx hblt hbq ⊢
  have HQ0 := Lib.hid (And.intro hq0 hbq)
  have HB := Lib.hid hbv
  have HBX := Lib.hid (And.intro hblt hbx)
  have HRW := Lib.hid hrw
  obtain ⟨y0, y1, y2, y3, y4, y5, y6, y7, y8, y9, y10, y11, y12, y13⟩ := hbx
  clear hbv hrw hq0 hblt hbq
  go_wp2_with fail
  refine HCK.out.mono ?_
  rintro r w1 ⟨rfl, hb1⟩
  have HB1 := Lib.hid (HB.out.trans (hb1.mono HB.out.size))
  have HR1 := Lib.hid (HRW.out.mid hb1)
  have hbx1 := EvBox.below (v := ⟨7, ⟨id, cls, born, slot, L, gone, H⟩, seq, idx, name, size, root, now2⟩) HBX.out.2 hb1 HBX.out.1
  have hblt1 : b0 < w1.heap.size := Nat.lt_of_lt_of_le HBX.out.1 hb1.size
  clear hb1 HB HRW HBX HCK y0 y1 y2 y3 y4 y5 y6 y7 y8 y9 y10 y11 y12 y13
  have HBX1 := Lib.hid (And.intro hblt1 hbx1)
  obtain ⟨y0, y1, y2, y3, y4, y5, y6, y7, y8, y9, y10, y11, y12, y13⟩ := hbx1
  dsimp only at y0 y1 y2 y3 y4 y5 y6 y7 y8 y9 y10 y11 y12 y13
  obtain ⟨PA, pca, mb, PB, pcb, hh, hca, hcb, -, -, hsq⟩ := HR1.out.reads
  have p3 := hh.cell 3
  have f3 := hh.free 3
  have hst := StStep.from HB1.out (let r := HR1.out.setNow now2; StRep.one r.1 r.2)
  clear hh hsq hca hcb HBX1 HR1
  go_upto_region 13 with fail
  clear p3 f3 y0 y1 y2 y3 y4 y5 y6 y7 y8 y9 y10 y11 y12 y13
  generalize w1.setCell ⟨q, 3, none⟩ (.int .i64 now2) = w2 at hst ⊢
  obtain ⟨z4, zf, hfin⟩ := hst.tail
  have HF := Lib.hid hfin
  clear hst hfin
  have hwr : IntKind.i64.wrap ((n : Int) + 1) = (n : Int) + 1 := by rw [IntKind.wrap_i64]; omega
  go_wp2_with fail
  go_ret
  exact ⟨rfl, HF.out.post HU.out (HM.out)⟩
end
end Go.Proofs.Ytojemaaljjibiaa

namespace Go.Proofs.Ytojemaaljjibiaa
open Go.RowKit
set_option linter.unusedVariables false

theorem map_set_e {M : List EntX} {k : Nat} (y : EntX) : (M.set k y).map EntX.e = (M.map EntX.e).set k y.e := List.map_set ..
theorem changeAll_any {w : World} {q : Nat} {s : List Nat} {st : Sta} {M : List EntX} {n : Nat} (h : StRep w q s M st.Q st.now n) (hM : M.map EntX.e = st.P) (hI : Sta.Inv st) {ca0 mb be : Nat} {B0 : Option Addr} {cb0 : Nat} (h1 : Has w q 58 #[.slice (some ⟨be, 0, none⟩) M.length ca0, .map (some mb), .slice B0 st.Q.length cb0, .int .i64 st.now, .int .i64 (n : Int)]) {k : Nat} (hk : k < M.length)
    {v : Evt} (hs : v.seq = (k : Int)) (hr : Ev.right v = true) (k1 : v.kind ≠ 1) (k6 : v.kind ≠ 6) (k7 : v.kind ≠ 7) (hc : Sta.check st v = 0) (A : Option Addr) (ca : Nat) (B : Option Addr) (cb : Nat) :
    Calls Try.prog 41 #[.pointer (some ⟨be, k * 7, none⟩), v.val A ca B cb] w fun r w' => r = .returned (.tuple #[]) ∧ ∃ M' : List EntX, M'.map EntX.e = (Sta.apply st v).P ∧ StStep w q s M' (Sta.apply st v).Q (Sta.apply st v).now n w' := by
  have hkP : k < st.P.length := by rw [← hM, List.length_map]; exact hk
  have he : st.P[k] = M[k].e := by
    have : (M.map EntX.e)[k]? = st.P[k]? := by rw [hM]
    rw [List.getElem?_map, List.getElem?_eq_getElem hk, List.getElem?_eq_getElem hkP] at this
    exact (Option.some.inj this).symm
  obtain ⟨hrr, -, hi0⟩ := (Sta.check_ways st v 0 hc).2.2.2.2 hr k1 k6 k7
  rw [hs, Int.toNat_natCast] at hrr
  rw [if_neg (by omega)] at hrr
  have hnth : Sta.nth st.P k = M[k].e := by
    unfold Sta.nth
    rw [List.getD_eq_getElem?_getD, List.getElem?_eq_getElem hkP, Option.getD_some, he]
  rw [hnth] at hrr
  have hlens := hI.lens st.P[k] (List.getElem_mem hkP)
  rw [he] at hlens
  have hpk : ∀ (f : Ent → Ent) (y : EntX), y.e = f M[k].e → (M.set k y).map EntX.e = st.P.modify k f := fun f y hy => by
    rw [map_set_e, hM, modify_set hkP, he, hy]
  have hkn := Ev.right_kind hr
  by_cases k2 : v.kind = 2
  · have hap : Sta.apply st v = { st with P := st.P.modify k fun e => { e with L := Sta.erS e.L v.idx } } := by
      unfold Sta.apply
      rw [if_neg k1, if_pos k2, hs, Int.toNat_natCast]
    rw [hap]
    rw [Sta.cc2 _ _ k2] at hrr
    have hlt : ¬ (M[k].e.L.length : Int) ≤ v.idx := fun hle => by rw [if_pos hle] at hrr; exact absurd hrr (by decide)
    have h0 := hi0 k2
    obtain ⟨i, hi⟩ : ∃ i : Nat, v.idx = (i : Int) := ⟨v.idx.toNat, by omega⟩
    have hil : i < M[k].e.L.length := by omega
    refine (change2_any h h1 hk hil k2 hi A ca B cb).mono ?_
    rintro r w' ⟨rfl, hst⟩
    refine ⟨rfl, _, hpk (fun e => { e with L := Sta.erS e.L v.idx }) _ ?_, hst⟩
    show ({ M[k].e with L := M[k].e.L.set i (Sta.gonE M[k].e.L[i]) } : Ent) = { M[k].e with L := Sta.erS M[k].e.L v.idx }
    rw [Sta.set_erS _ _ hil, hi]
  by_cases k3 : v.kind = 3
  · have hap : Sta.apply st v = { st with P := st.P.modify k fun e => { e with L := Sta.erS e.L (-1), gone := true } } := by
      unfold Sta.apply
      rw [if_neg k1, if_neg k2, if_pos k3, hs, Int.toNat_natCast]
    rw [hap]
    refine (change3_any h h1 hk hlens.1 k3 A ca B cb).mono ?_
    rintro r w' ⟨rfl, hst⟩
    exact ⟨rfl, _, hpk (fun e => { e with L := Sta.erS e.L (-1), gone := true }) _ rfl, hst⟩
  by_cases k4 : v.kind = 4
  · have hap : Sta.apply st v = { st with P := st.P.modify k fun e => { e with H := Sta.hW e.H v.name (decide (v.kind = 4)) } } := by
      unfold Sta.apply
      rw [if_neg k1, if_neg k2, if_neg k3, if_pos (Or.inl k4), hs, Int.toNat_natCast]
    rw [hap]
    rw [Sta.cc4 _ _ k4] at hrr
    have hng : ¬ M[k].e.gone = true := fun hg => by rw [if_pos hg] at hrr; exact absurd hrr (by decide)
    rw [if_neg hng] at hrr
    have hnn : v.name ∉ M[k].e.H := fun hg => by rw [if_pos hg] at hrr; exact absurd hrr (by decide)
    have hent := hI.right st.P[k] (List.getElem_mem hkP)
    rw [he] at hent
    have hrise := Sta.rise_pairs M[k].e.H |>.1 (Ev.entR_iff.1 hent).2.2.2.2.2.2.2.1
    refine (change4_any h h1 hk hlens.2 k4 A ca B cb).mono ?_
    rintro r w' ⟨rfl, B2, cb2, hst⟩
    refine ⟨rfl, _, hpk (fun e => { e with H := Sta.hW e.H v.name (decide (v.kind = 4)) }) _ ?_, hst⟩
    show ({ M[k].e with H := (M[k].e.H ++ [v.name]).mergeSort leB } : Ent) = { M[k].e with H := Sta.hW M[k].e.H v.name (decide (v.kind = 4)) }
    rw [Sta.hW_sorted hrise hnn, decide_eq_true k4]
  · have k5 : v.kind = 5 := by
      rcases Ev.kinds v with q | q | q | q | q | q | q
      · exact absurd q k1
      · exact absurd q k2
      · exact absurd q k3
      · omega
      · exact absurd q k6
      · exact absurd q k7
      · omega
    have hap : Sta.apply st v = { st with P := st.P.modify k fun e => { e with H := Sta.hW e.H v.name (decide (v.kind = 4)) } } := by
      unfold Sta.apply
      rw [if_neg k1, if_neg k2, if_neg k3, if_pos (Or.inr k5), hs, Int.toNat_natCast]
    rw [hap]
    rw [Sta.cc5 _ _ k2 k3 k4] at hrr
    have hin : v.name ∈ M[k].e.H := by
      by_cases hx : v.name ∈ M[k].e.H
      · exact hx
      · rw [if_neg hx] at hrr; exact absurd hrr (by decide)
    refine (change5_any h h1 hk k5 hin A ca B cb).mono ?_
    rintro r w' ⟨rfl, B2, cb2, hst⟩
    refine ⟨rfl, _, hpk (fun e => { e with H := Sta.hW e.H v.name (decide (v.kind = 4)) }) _ ?_, hst⟩
    show ({ M[k].e with H := M[k].e.H.filter fun x => decide (x ≠ v.name) } : Ent) = { M[k].e with H := Sta.hW M[k].e.H v.name (decide (v.kind = 4)) }
    rw [decide_eq_false k4, Sta.hW_drop]
end Go.Proofs.Ytojemaaljjibiaa
