/-
  EvCQ: the texts EvC, StaQJ in one.
-/
import Derived.Test.YtojemaaljjibiaaPEvSmall
import Derived.Test.YtojemaaljjibiaaPQHI
open List (setIfInBounds_toArray set_cons_zero set_cons_succ)
namespace Go.Proofs.Ytojemaaljjibiaa
open Go.RowKit
set_option linter.unusedVariables false

set_option maxRecDepth 100000 in
set_option maxHeartbeats 16000000 in
theorem rightV_any {w : World} {v : Evt} {A B : Option Addr} {ca cb : Nat} (hin : EntIn w [] v.ent A ca B cb) (hf : EvtFew v) :
    Calls Try.prog 35 #[v.val A ca B cb] w fun r w' => r = .returned (.bool (Ev.right v)) ∧ Below w.heap.size w w' := by
  unfold Evt.val
  have HB : Hid (Below w.heap.size w (w.alloc (.cells #[.int .i64 v.kind, .string (S v.ent.id), .int .i64 v.ent.cls, .int .i64 v.ent.born, .int .i64 v.ent.slot, .slice A v.ent.L.length ca, .bool v.ent.gone, .slice B v.ent.H.length cb, .int .i64 v.seq, .int .i64 v.idx, .string (S v.name), .int .i64 v.size, .string (S v.root), .int .i64 v.now] 37))) := Lib.hid ((Below.refl _ w).alloc (Nat.le_refl _) _)
  have HE : Hid (∀ W, Below w.heap.size w W → Calls Try.prog 52 #[.agg #[.string (S v.ent.id), .int .i64 v.ent.cls, .int .i64 v.ent.born, .int .i64 v.ent.slot, .slice A v.ent.L.length ca, .bool v.ent.gone, .slice B v.ent.H.length cb]] W fun r w' => r = .returned (.bool (Ev.entR v.ent)) ∧ Below W.heap.size W w') := Lib.hid (fun W hb => rightE_any (EntIn.at hin hb (fun x hx => by cases hx)) hf.e)
  have HW := Lib.hid (fun W => isName_any v.name hf.name W)
  have HSQ := Lib.hid (fun W => isIn_any v.seq 63 W)
  have HIX := Lib.hid (fun W => isIn_any v.idx 11 W)
  have HSZ := Lib.hid (fun W => isIn_any v.size 64 W)
  have HNW := Lib.hid (fun W => isIn_any v.now 1099511627776 W)
  have hh := Has.made w 37 #[.int .i64 v.kind, .string (S v.ent.id), .int .i64 v.ent.cls, .int .i64 v.ent.born, .int .i64 v.ent.slot, .slice A v.ent.L.length ca, .bool v.ent.gone, .slice B v.ent.H.length cb, .int .i64 v.seq, .int .i64 v.idx, .string (S v.name), .int .i64 v.size, .string (S v.root), .int .i64 v.now]
  have k1 := Lib.hid (fun h => Ev.right1 (v := v) h)
  have k2 := Lib.hid (fun h => Ev.right2 (v := v) h)
  have k3 := Lib.hid (fun h => Ev.right3 (v := v) h)
  have k4 := Lib.hid (fun h => Ev.right4 (v := v) h)
  have k6 := Lib.hid (fun h => Ev.right6 (v := v) h)
  have k7 := Lib.hid (fun h => Ev.right7 (v := v) h)
  have k0 := Lib.hid (fun h => Ev.right0 (v := v) h)
  clear hin hf
  obtain ⟨kind, ⟨id, cls, born, slot, L, gone, H⟩, seq, idx, name, size, root, now⟩ := v
  dsimp only at *
  generalize Ev.right ⟨kind, ⟨id, cls, born, slot, L, gone, H⟩, seq, idx, name, size, root, now⟩ = RR at *
  generalize Ev.entR ⟨id, cls, born, slot, L, gone, H⟩ = ER at *
  generalize Pap.word 16 name = wd at *
  generalize Ev.rng seq 63 = q1 at *
  generalize Ev.rng idx 11 = q2 at *
  generalize Ev.rng size 64 = q3 at *
  generalize Ev.rng now 1099511627776 = q4 at *
  go_enter Try.func35, Try.ntmps35
  go_upto_region 1 with fail
  generalize w.alloc (.cells #[.int .i64 kind, .string (S id), .int .i64 cls, .int .i64 born, .int .i64 slot, .slice A L.length ca, .bool gone, .slice B H.length cb, .int .i64 seq, .int .i64 idx, .string (S name), .int .i64 size, .string (S root), .int .i64 now] 37) = W0 at HB hh ⊢
  generalize w.heap.size = b0 at hh ⊢
  have y0 : W0.cell? ⟨b0, 0, none⟩ = some (.int .i64 kind) := hh.cell 0
  have y1 : W0.cell? ⟨b0, 1, none⟩ = some (.string (S id)) := hh.cell 1
  have y2 : W0.cell? ⟨b0, 2, none⟩ = some (.int .i64 cls) := hh.cell 2
  have y3 : W0.cell? ⟨b0, 3, none⟩ = some (.int .i64 born) := hh.cell 3
  have y4 : W0.cell? ⟨b0, 4, none⟩ = some (.int .i64 slot) := hh.cell 4
  have y5 : W0.cell? ⟨b0, 5, none⟩ = some (.slice A L.length ca) := hh.cell 5
  have y6 : W0.cell? ⟨b0, 6, none⟩ = some (.bool gone) := hh.cell 6
  have y7 : W0.cell? ⟨b0, 7, none⟩ = some (.slice B H.length cb) := hh.cell 7
  have y8 : W0.cell? ⟨b0, 8, none⟩ = some (.int .i64 seq) := hh.cell 8
  have y9 : W0.cell? ⟨b0, 9, none⟩ = some (.int .i64 idx) := hh.cell 9
  have y10 : W0.cell? ⟨b0, 10, none⟩ = some (.string (S name)) := hh.cell 10
  have y11 : W0.cell? ⟨b0, 11, none⟩ = some (.int .i64 size) := hh.cell 11
  have y12 : W0.cell? ⟨b0, 12, none⟩ = some (.string (S root)) := hh.cell 12
  have y13 : W0.cell? ⟨b0, 13, none⟩ = some (.int .i64 now) := hh.cell 13
  clear hh
  by_cases c1 : kind = 1
  · obtain rfl : RR = ER := k1.out c1
    subst c1
    go_wp2_with fail
    refine (HE.out _ HB.out).mono ?_
    rintro r w1 ⟨rfl, hb1⟩
    go_wp2_with fail
    go_ret
    exact ⟨rfl, HB.out.trans (hb1.mono HB.out.size)⟩
  have n1 : (kind == 1) = false := by rw [beq_eq_false_iff_ne]; exact c1
  by_cases c2 : kind = 2
  · have hr := Lib.hid (k2.out c2)
    subst c2
    clear c1
    cases q1 with
    | false =>
      obtain rfl : RR = false := hr.out
      go_wp2_with fail
      refine (HSQ.out _).mono ?_
      rintro r w1 ⟨rfl, e1⟩
      rw [← e1]
      clear e1 w1
      go_wp2_with fail
      go_ret
      exact ⟨rfl, HB.out⟩
    | true =>
      obtain rfl : RR = q2 := hr.out
      go_wp2_with fail
      refine (HSQ.out _).mono ?_
      rintro r w1 ⟨rfl, e1⟩
      rw [← e1]
      clear e1 w1
      go_wp2_with fail
      refine (HIX.out _).mono ?_
      rintro r w1 ⟨rfl, e1⟩
      rw [← e1]
      clear e1 w1
      go_wp2_with fail
      go_ret
      exact ⟨rfl, HB.out⟩
  have n2 : (kind == 2) = false := by rw [beq_eq_false_iff_ne]; exact c2
  by_cases c3 : kind = 3
  · obtain rfl : RR = q1 := k3.out c3
    subst c3
    clear c1 c2
    go_wp2_with fail
    refine (HSQ.out _).mono ?_
    rintro r w1 ⟨rfl, e1⟩
    rw [← e1]
    clear e1 w1
    go_wp2_with fail
    go_ret
    exact ⟨rfl, HB.out⟩
  have n3 : (kind == 3) = false := by rw [beq_eq_false_iff_ne]; exact c3
  by_cases c4 : kind = 4 ∨ kind = 5
  · have hr := Lib.hid (k4.out c4)
    clear c1 c2 c3
    cases q1 with
    | false =>
      obtain rfl : RR = false := hr.out
      rcases c4 with rfl | rfl
      all_goals
        go_wp2_with fail
        refine (HSQ.out _).mono ?_
        rintro r w1 ⟨rfl, e1⟩
        rw [← e1]
        clear e1 w1
        go_wp2_with fail
        go_ret
        exact ⟨rfl, HB.out⟩
    | true =>
      obtain rfl : RR = wd := hr.out
      rcases c4 with rfl | rfl
      all_goals
        go_wp2_with fail
        refine (HSQ.out _).mono ?_
        rintro r w1 ⟨rfl, e1⟩
        rw [← e1]
        clear e1 w1
        go_wp2_with fail
        refine (HW.out _).mono ?_
        rintro r w1 ⟨rfl, e1⟩
        rw [← e1]
        clear e1 w1
        go_wp2_with fail
        go_ret
        exact ⟨rfl, HB.out⟩
  have n4 : (kind == 4) = false := by rw [beq_eq_false_iff_ne]; exact fun e => c4 (Or.inl e)
  have n5 : (kind == 5) = false := by rw [beq_eq_false_iff_ne]; exact fun e => c4 (Or.inr e)
  by_cases c6 : kind = 6
  · have hr := Lib.hid (k6.out c6)
    subst c6
    clear c1 c2 c3 c4
    cases q3 with
    | false =>
      obtain rfl : RR = false := hr.out
      go_wp2_with fail
      refine (HSZ.out _).mono ?_
      rintro r w1 ⟨rfl, e1⟩
      rw [← e1]
      clear e1 w1
      go_wp2_with fail
      go_ret
      exact ⟨rfl, HB.out⟩
    | true =>
      obtain ⟨q5, hq5⟩ : ∃ q5 : Bool, ((root.length : Int) == 32) = q5 := ⟨_, rfl⟩
      have e5 : decide (root.length = 32) = q5 := by
        rw [← hq5, Bool.eq_iff_iff, decide_eq_true_iff, beq_iff_eq]
        omega
      obtain rfl : RR = q5 := by rw [hr.out, e5]; rfl
      clear e5 hr
      go_wp2_with fail
      refine (HSZ.out _).mono ?_
      rintro r w1 ⟨rfl, e1⟩
      rw [← e1]
      clear e1 w1
      go_wp2_with fail
      go_ret
      exact ⟨rfl, HB.out⟩
  have n6 : (kind == 6) = false := by rw [beq_eq_false_iff_ne]; exact c6
  by_cases c7 : kind = 7
  · obtain rfl : RR = q4 := k7.out c7
    subst c7
    clear c1 c2 c3 c4 c6
    go_wp2_with fail
    refine (HNW.out _).mono ?_
    rintro r w1 ⟨rfl, e1⟩
    rw [← e1]
    clear e1 w1
    go_wp2_with fail
    go_ret
    exact ⟨rfl, HB.out⟩
  have n7 : (kind == 7) = false := by rw [beq_eq_false_iff_ne]; exact c7
  have h0 : kind < 1 ∨ 7 < kind := by omega
  obtain rfl : RR = false := k0.out h0
  clear c1 c2 c3 c4 c6 c7 h0
  go_wp2_with fail
  go_ret
  exact ⟨rfl, HB.out⟩
end Go.Proofs.Ytojemaaljjibiaa

namespace Go.Proofs.Ytojemaaljjibiaa
open Go.RowKit
set_option linter.unusedVariables false

theorem Sta.check_ways (st : Sta) (v : Evt) (r : Int) (h : Sta.check st v = r) : (Ev.right v = false → r = 4) ∧ (Ev.right v = true → v.kind = 1 → r = Sta.paperC st v.ent) ∧ (Ev.right v = true → v.kind = 6 → r = if (st.P.length : Int) < v.size ∨ Sta.lessQ st.Q v.size = true then 21 else 0) ∧ (Ev.right v = true → v.kind = 7 → r = if v.now < st.now then 24 else 0) ∧
      (Ev.right v = true → v.kind ≠ 1 → v.kind ≠ 6 → v.kind ≠ 7 → (r = if (st.P.length : Int) ≤ v.seq then 7 else Sta.changeC (Sta.nth st.P v.seq.toNat) v) ∧ 0 ≤ v.seq ∧ (v.kind = 2 → 0 ≤ v.idx)) := by
  subst h
  unfold Sta.check
  refine ⟨fun h => by rw [if_pos h], fun h h1 => by rw [if_neg (by rw [h]; simp), if_pos h1], fun h h1 => by rw [if_neg (by rw [h]; simp), if_neg (by omega), if_pos h1], fun h h1 => by rw [if_neg (by rw [h]; simp), if_neg (by omega), if_neg (by omega), if_pos h1], fun h h1 h6 h7 => ⟨by rw [if_neg (by rw [h]; simp), if_neg h1, if_neg h6, if_neg h7], ?_, fun h2 => ?_⟩⟩
  · have hk := Ev.right_kind h
    rcases Ev.kinds v with q | q | q | q | q | q | q
    · omega
    · rw [Ev.right2 q, Bool.and_eq_true, Ev.rng_iff] at h; exact h.1.1
    · rw [Ev.right3 q, Ev.rng_iff] at h; exact h.1
    · rw [Ev.right4 q, Bool.and_eq_true, Ev.rng_iff] at h; exact h.1.1
    · omega
    · omega
    · omega
  · rw [Ev.right2 h2, Bool.and_eq_true, Ev.rng_iff, Ev.rng_iff] at h; exact h.2.1
section
variable {w : World} {q : Nat} {s ot : List Nat} {st : Sta} {n : Nat}
set_option maxRecDepth 100000 in
set_option maxHeartbeats 16000000 in
theorem stCheck (h : StAt w q s ot st n) (hI : Sta.Inv st) (hQ : st.Q.length ≤ 1000) {v : Evt} {A B : Option Addr} {ca cb : Nat} (hin : EntIn w [] v.ent A ca B cb) (hf : EvtFew v) :
    Calls Try.prog 12 #[.pointer (some ⟨q, 0, none⟩), v.val A ca B cb] w fun r w' => r = .returned (.int .i64 (Sta.check st v)) ∧ Below w.heap.size w w' := by
  obtain ⟨res, hres⟩ : ∃ res, Sta.check st v = res := ⟨_, rfl⟩
  have HR := Lib.hid (Sta.check_ways st v res hres)
  rw [hres]
  clear hres
  have hbv : Below w.heap.size w (w.alloc (.cells #[.int .i64 v.kind, .string (S v.ent.id), .int .i64 v.ent.cls, .int .i64 v.ent.born, .int .i64 v.ent.slot, .slice A v.ent.L.length ca, .bool v.ent.gone, .slice B v.ent.H.length cb, .int .i64 v.seq, .int .i64 v.idx, .string (S v.name), .int .i64 v.size, .string (S v.root), .int .i64 v.now] 37)) := stBox _ _
  have hhv := Has.made w 37 #[.int .i64 v.kind, .string (S v.ent.id), .int .i64 v.ent.cls, .int .i64 v.ent.born, .int .i64 v.ent.slot, .slice A v.ent.L.length ca, .bool v.ent.gone, .slice B v.ent.H.length cb, .int .i64 v.seq, .int .i64 v.idx, .string (S v.name), .int .i64 v.size, .string (S v.root), .int .i64 v.now]
  have HRT := Lib.hid (rightV_any (EntIn.below hin hbv) hf)
  have HS := Lib.hid (h.below hbv)
  have HPA := Lib.hid (fun (W : World) (hb : Below w.heap.size w W) => ckPaper_any (h.below hb) hI v.ent hf.e.id A ca B cb)
  have HPT := Lib.hid (fun (W : World) (hb : Below w.heap.size w W) => ckPoint_any (h.below hb) hI hQ v.size v.root)
  have HCL := Lib.hid (fun (W : World) (hb : Below w.heap.size w W) => ckClock_any (h.below hb) v.now)
  have HCH := Lib.hid (fun (W : World) (x : EntX) (hx : XIn W [] x) (hH : x.e.H.length ≤ 1000) (hi : v.kind = 2 → 0 ≤ v.idx) => ckChange_any hx hH v A ca B cb hi)
  have HWK := Lib.hid (fun (W : World) (hb : Below w.heap.size w W) => (by
    obtain ⟨⟨M, _, hr⟩, _⟩ := h.below hb
    obtain ⟨_, _, _, _, _, h1, _⟩ := hr.ex
    exact works_has h1 : Calls Try.prog 34 #[.pointer (some ⟨q, 0, none⟩)] W fun r w' => r = .returned (.bool true) ∧ w' = W))
  have HEN : Hid (∀ e ∈ st.P, e.H.length ≤ 1000) := Lib.hid (fun e he => (hI.lens e he).2)
  have hP64 := hI.few
  have hbx : EvBox w.heap.size v A ca B cb (w.alloc (.cells #[.int .i64 v.kind, .string (S v.ent.id), .int .i64 v.ent.cls, .int .i64 v.ent.born, .int .i64 v.ent.slot, .slice A v.ent.L.length ca, .bool v.ent.gone, .slice B v.ent.H.length cb, .int .i64 v.seq, .int .i64 v.idx, .string (S v.name), .int .i64 v.size, .string (S v.root), .int .i64 v.now] 37)) := ⟨hhv.cell 0, hhv.cell 1, hhv.cell 2, hhv.cell 3, hhv.cell 4, hhv.cell 5, hhv.cell 6, hhv.cell 7, hhv.cell 8, hhv.cell 9, hhv.cell 10, hhv.cell 11, hhv.cell 12, hhv.cell 13⟩
  have hblt := hhv.lt
  clear hhv hin hf h hI hQ
  unfold Evt.val at HRT HCH ⊢
  generalize Ev.right v = RT at HRT HR
  generalize Sta.paperC st v.ent = PC at HPA HR
  obtain ⟨kind, ⟨id, cls, born, slot, L, gone, H⟩, seq, idx, name, size, root, now⟩ := v
  dsimp only at *
  generalize (if (st.P.length : Int) < size ∨ Sta.lessQ st.Q size = true then (21 : Int) else 0) = PT at HPT HR
  generalize (if now < st.now then (24 : Int) else 0) = CL at HCL HR
  go_enter Try.func12, Try.ntmps12
  go_upto_region 1 with fail
  generalize w.alloc (.cells #[.int .i64 kind, .string (S id), .int .i64 cls, .int .i64 born, .int .i64 slot, .slice A L.length ca, .bool gone, .slice B H.length cb, .int .i64 seq, .int .i64 idx, .string (S name), .int .i64 size, .string (S root), .int .i64 now] 37) = W0 at HRT HS hbx hbv hblt ⊢
  generalize w.heap.size = b0 at hbx hblt ⊢
  have HB := Lib.hid hbv
  have HBX := Lib.hid (And.intro hblt hbx)
  obtain ⟨y0, y1, y2, y3, y4, y5, y6, y7, y8, y9, y10, y11, y12, y13⟩ := hbx
  clear hbv
  go_wp2_with fail
  refine (HWK.out _ HB.out).mono ?_
  rintro r w1 ⟨rfl, hw1⟩
  subst w1
  go_wp2_with fail
  refine HRT.out.mono ?_
  rintro r w1 ⟨rfl, hb1⟩
  have HB1 := Lib.hid (HB.out.trans (hb1.mono HB.out.size))
  have HS1 := Lib.hid (HS.out.below hb1)
  have hbx1 := EvBox.below (v := ⟨kind, ⟨id, cls, born, slot, L, gone, H⟩, seq, idx, name, size, root, now⟩) HBX.out.2 hb1 HBX.out.1
  have hblt1 : b0 < w1.heap.size := Nat.lt_of_lt_of_le HBX.out.1 hb1.size
  clear hb1 HB HS HBX HRT HWK y0 y1 y2 y3 y4 y5 y6 y7 y8 y9 y10 y11 y12 y13 hblt
  have HBX1 := Lib.hid (And.intro hblt1 hbx1)
  obtain ⟨y0, y1, y2, y3, y4, y5, y6, y7, y8, y9, y10, y11, y12, y13⟩ := hbx1
  dsimp only at y0 y1 y2 y3 y4 y5 y6 y7 y8 y9 y10 y11 y12 y13
  cases RT with
  | false =>
    have hr := HR.out.1 rfl
    subst hr
    go_wp2_with fail
    go_ret
    exact ⟨rfl, HB1.out⟩
  | true =>
    by_cases k1 : kind = 1
    · have hr := HR.out.2.1 rfl k1
      subst k1
      subst hr
      clear HR
      go_wp2_with fail
      refine (HPA.out _ HB1.out).mono ?_
      rintro r w2 ⟨rfl, hb2⟩
      have HB2 := Lib.hid (HB1.out.trans (hb2.mono HB1.out.size))
      clear hb2 y0 y1 y2 y3 y4 y5 y6 y7 y8 y9 y10 y11 y12 y13
      go_wp2_with fail
      go_ret
      exact ⟨rfl, HB2.out⟩
    have n1 : (kind == 1) = false := by rw [beq_eq_false_iff_ne]; exact k1
    by_cases k6 : kind = 6
    · have hr := HR.out.2.2.1 rfl k6
      subst k6
      subst hr
      clear HR
      go_wp2_with fail
      refine (HPT.out _ HB1.out).mono ?_
      rintro r w2 ⟨rfl, hb2⟩
      have HB2 := Lib.hid (HB1.out.trans (hb2.mono HB1.out.size))
      clear hb2 y0 y1 y2 y3 y4 y5 y6 y7 y8 y9 y10 y11 y12 y13
      go_wp2_with fail
      go_ret
      exact ⟨rfl, HB2.out⟩
    have n6 : (kind == 6) = false := by rw [beq_eq_false_iff_ne]; exact k6
    by_cases k7 : kind = 7
    · have hr := HR.out.2.2.2.1 rfl k7
      subst k7
      subst hr
      clear HR
      go_wp2_with fail
      refine (HCL.out _ HB1.out).mono ?_
      rintro r w2 ⟨rfl, hw2⟩
      subst w2
      go_wp2_with fail
      go_ret
      exact ⟨rfl, HB1.out⟩
    have n7 : (kind == 7) = false := by rw [beq_eq_false_iff_ne]; exact k7
    obtain ⟨⟨M, hM, hra⟩, -⟩ := HS1.out
    obtain ⟨PA, pca, mb, PB, pcb, hh, hca, -, hx, -⟩ := hra.reads
    have hPM : st.P.length = M.length := by rw [← hM, List.length_map]
    have hxin : Hid (∀ x ∈ M, XIn w1 [] x) := Lib.hid hra.xin
    have HMP : Hid (∀ k (hk : k < M.length), (M[k]).e ∈ st.P ∧ Sta.nth st.P k = (M[k]).e) := Lib.hid (fun k hk => by
      have hk2 : k < st.P.length := by omega
      have he : st.P[k] = (M[k]).e := by simp [← hM]
      refine ⟨by rw [← he]; exact List.getElem_mem hk2, ?_⟩
      unfold Sta.nth
      rw [List.getD_eq_getElem?_getD, List.getElem?_eq_getElem hk2, Option.getD_some, he])
    have p0 : w1.cell? ⟨q, 0, none⟩ = some (.slice PA M.length pca) := hh.cell 0
    have HQLT := Lib.hid hh.lt
    have HX := Lib.hid hx
    rw [hPM] at HR hP64
    obtain ⟨hrr, hs0, hi0⟩ := HR.out.2.2.2.2 rfl k1 k6 k7
    have HRR := Lib.hid hrr
    have hca1 := hca.1
    clear hx hra hh HS1 hM hPM HPA HPT HCL HR hrr k1 k6 k7
    go_upto_region 12 with fail
    go_quiet (fail)
    by_cases hle : (M.length : Int) ≤ seq
    · have hr := HRR.out
      rw [if_pos hle] at hr
      subst hr
      clear HRR HCH
      go_wp2_with fail
      go_ret
      exact ⟨rfl, evDrew HB1.out _⟩
    · have hr := HRR.out
      rw [if_neg hle] at hr
      obtain ⟨k, rfl⟩ : ∃ k : Nat, seq = (k : Int) := ⟨seq.toNat, by omega⟩
      have hk : k < M.length := by omega
      rw [Int.toNat_natCast, (HMP.out k hk).2] at hr
      obtain ⟨be, hA, hbl, -, hx⟩ := HX.out k hk
      subst hA
      have HC2 := Lib.hid (fun (W : World) (hb : Below w1.heap.size w1 W) => HCH.out W M[k] ((hxin.out M[k] (List.getElem_mem hk)).below hb) (HEN.out _ (HMP.out k hk).1) hi0)
      have hki : (k : Int) < (M.length : Int) := by omega
      have hkc : (k : Int) < (pca : Int) := by omega
      have hk0 : (0 : Int) ≤ (k : Int) := by omega
      generalize M[k]'hk = x at hx HC2 hr
      obtain ⟨⟨xid, xcls, xborn, xslot, xL, xgone, xH⟩, xA, xca, xB, xcb⟩ := x
      obtain ⟨e0, e1, e2, e3, e4, e5, e6⟩ := hx
      dsimp only at e0 e1 e2 e3 e4 e5 e6 HC2
      have HRX := Lib.hid hr
      generalize Sta.changeC _ _ = rc at HC2 HRX
      have hres := HRX.out
      subst hres
      have HLT3 : Hid (b0 < w1.heap.size ∧ q < w1.heap.size ∧ be < w1.heap.size) := Lib.hid ⟨hblt1, HQLT.out, hbl⟩
      clear hr HRR HCH HMP HX HEN hxin HRX hk hbl
      have HBQ : Hid (Below w.heap.size w (w1.drewN nq)) := Lib.hid (evDrew HB1.out nq)
      have HBQ1 : Hid (Below w1.heap.size w1 (w1.drewN nq)) := Lib.hid ⟨rfl, rfl, rfl, Nat.le_refl _, fun _ _ => rfl⟩
      go_upto_region 14 with fail
      have hS : RdC b0 q be M.length pca k kind id cls born slot L.length gone H.length idx name size root now A ca B cb xid xcls xborn xslot xA xL.length xca xgone xB xH.length xcb (w1.drewN nq).drew := ⟨p0, ⟨y0, y1, y2, y3, y4, y5, y6, y7, y8, y9, y10, y11, y12, y13⟩, e0, e1, e2, e3, e4, e5, e6⟩
      have HBD := Lib.hid HBQ.out.drew
      have HBD1 := Lib.hid HBQ1.out.drew
      clear y0 y1 y2 y3 y4 y5 y6 y7 y8 y9 y10 y11 y12 y13 p0 e0 e1 e2 e3 e4 e5 e6 HBQ HBQ1
      refine wp_region_held_drew (S := RdC b0 q be M.length pca k kind id cls born slot L.length gone H.length idx name size root now A ca B cb xid xcls xborn xslot xA xL.length xca xgone xB xH.length xcb) (by kernel_rfl) hS (fun hHeld => ?_)
      generalize (w1.drewN nq).drew = wd at hS hHeld HBD HBD1 ⊢
      first
      | (refine tkW (i := 0) (v := ?_) rfl rfl ?_ ?_; rotate_left; (focus (intro w hSw; (try dsimp only at hSw); go_simp; first | done | with_reducible rfl)); (simp only [Act.at, setIfInBounds_toArray, set_cons_zero, set_cons_succ]))
      | (refine tkU (i := 0) rfl rfl ?_; (simp only [Act.at, setIfInBounds_toArray, set_cons_zero, set_cons_succ]))
      first
      | (refine tkW (i := 1) (v := ?_) rfl rfl ?_ ?_; rotate_left; (focus (intro w hSw; (try dsimp only at hSw); go_simp; first | done | with_reducible rfl)); (simp only [Act.at, setIfInBounds_toArray, set_cons_zero, set_cons_succ]))
      | (refine tkU (i := 1) rfl rfl ?_; (simp only [Act.at, setIfInBounds_toArray, set_cons_zero, set_cons_succ]))
      first
      | (refine tkW (i := 2) (v := ?_) rfl rfl ?_ ?_; rotate_left; (focus (intro w hSw; (try dsimp only at hSw); go_simp; first | done | with_reducible rfl)); (simp only [Act.at, setIfInBounds_toArray, set_cons_zero, set_cons_succ]))
      | (refine tkU (i := 2) rfl rfl ?_; (simp only [Act.at, setIfInBounds_toArray, set_cons_zero, set_cons_succ]))
      first
      | (refine tkW (i := 3) (v := ?_) rfl rfl ?_ ?_; rotate_left; (focus (intro w hSw; (try dsimp only at hSw); go_simp; first | done | with_reducible rfl)); (simp only [Act.at, setIfInBounds_toArray, set_cons_zero, set_cons_succ]))
      | (refine tkU (i := 3) rfl rfl ?_; (simp only [Act.at, setIfInBounds_toArray, set_cons_zero, set_cons_succ]))
      first
      | (refine tkW (i := 4) (v := ?_) rfl rfl ?_ ?_; rotate_left; (focus (intro w hSw; (try dsimp only at hSw); go_simp; first | done | with_reducible rfl)); (simp only [Act.at, setIfInBounds_toArray, set_cons_zero, set_cons_succ]))
      | (refine tkU (i := 4) rfl rfl ?_; (simp only [Act.at, setIfInBounds_toArray, set_cons_zero, set_cons_succ]))
      first
      | (refine tkW (i := 5) (v := ?_) rfl rfl ?_ ?_; rotate_left; (focus (intro w hSw; (try dsimp only at hSw); go_simp; first | done | with_reducible rfl)); (simp only [Act.at, setIfInBounds_toArray, set_cons_zero, set_cons_succ]))
      | (refine tkU (i := 5) rfl rfl ?_; (simp only [Act.at, setIfInBounds_toArray, set_cons_zero, set_cons_succ]))
      first
      | (refine tkW (i := 6) (v := ?_) rfl rfl ?_ ?_; rotate_left; (focus (intro w hSw; (try dsimp only at hSw); go_simp; first | done | with_reducible rfl)); (simp only [Act.at, setIfInBounds_toArray, set_cons_zero, set_cons_succ]))
      | (refine tkU (i := 6) rfl rfl ?_; (simp only [Act.at, setIfInBounds_toArray, set_cons_zero, set_cons_succ]))
      first
      | (refine tkW (i := 7) (v := ?_) rfl rfl ?_ ?_; rotate_left; (focus (intro w hSw; (try dsimp only at hSw); go_simp; first | done | with_reducible rfl)); (simp only [Act.at, setIfInBounds_toArray, set_cons_zero, set_cons_succ]))
      | (refine tkU (i := 7) rfl rfl ?_; (simp only [Act.at, setIfInBounds_toArray, set_cons_zero, set_cons_succ]))
      first
      | (refine tkW (i := 8) (v := ?_) rfl rfl ?_ ?_; rotate_left; (focus (intro w hSw; (try dsimp only at hSw); go_simp; first | done | with_reducible rfl)); (simp only [Act.at, setIfInBounds_toArray, set_cons_zero, set_cons_succ]))
      | (refine tkU (i := 8) rfl rfl ?_; (simp only [Act.at, setIfInBounds_toArray, set_cons_zero, set_cons_succ]))
      refine take_call (i := 9) (by kernel_rfl) rfl rfl (by rfl) (fun K hK => ?_)
      go_simp
      refine (HC2.out wd HBD1.out).mono ?_
      rintro r w2 ⟨rfl, hb2⟩
      have hS2 := RdC.below hS hb2 (Nat.lt_of_lt_of_le HLT3.out.1 HBD1.out.size) (Nat.lt_of_lt_of_le HLT3.out.2.1 HBD1.out.size) (Nat.lt_of_lt_of_le HLT3.out.2.2 HBD1.out.size)
      have HB2 := Lib.hid (HBD.out.trans (hb2.mono HBD.out.size))
      clear hb2 hS hHeld HBD HBD1 HC2
      refine hK.out _ _ hS2 (fun hHeld => ?_)
      clear hK K
      try simp only [Act.put, setIfInBounds_toArray, set_cons_zero, set_cons_succ]
      first
      | (refine tkW (i := 10) (v := ?_) rfl rfl ?_ ?_; rotate_left; (focus (intro w hSw; (try dsimp only at hSw); go_simp; first | done | with_reducible rfl)); (simp only [Act.at, setIfInBounds_toArray, set_cons_zero, set_cons_succ]))
      | (refine tkU (i := 10) rfl rfl ?_; (simp only [Act.at, setIfInBounds_toArray, set_cons_zero, set_cons_succ]))
      refine wpAnyH_done (by kernel_rfl) ?_ _
      go_wp2_with fail
      go_ret
      exact ⟨rfl, HB2.out⟩
end
end Go.Proofs.Ytojemaaljjibiaa
