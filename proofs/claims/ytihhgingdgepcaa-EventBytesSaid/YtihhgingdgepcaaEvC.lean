/-
  Event's Right.
-/
import Derived.Test.YtihhgingdgepcaaEvB
namespace Go.Proofs.Ytihhgingdgepcaa
open Go.RowKit
set_option linter.unusedVariables false

set_option maxRecDepth 100000 in
set_option maxHeartbeats 16000000 in
theorem rightV_any {w : World} {v : Evt} {A B : Option Addr} {ca cb : Nat} (hin : EntIn w [] v.ent A ca B cb) (hf : EvtFew v) :
    Calls Try.prog 18 #[v.val A ca B cb] w fun r w' => r = .returned (.bool (Ev.right v)) ∧ Below w.heap.size w w' := by
  unfold Evt.val
  have HB : Hid (Below w.heap.size w (w.alloc (.cells #[.int .i64 v.kind, .string (S v.ent.id), .int .i64 v.ent.cls, .int .i64 v.ent.born, .int .i64 v.ent.slot, .slice A v.ent.L.length ca, .bool v.ent.gone, .slice B v.ent.H.length cb, .int .i64 v.seq, .int .i64 v.idx, .string (S v.name), .int .i64 v.size, .string (S v.root), .int .i64 v.now] 29))) := Lib.hid ((Below.refl _ w).alloc (Nat.le_refl _) _)
  have HE : Hid (∀ W, Below w.heap.size w W → Calls Try.prog 34 #[.agg #[.string (S v.ent.id), .int .i64 v.ent.cls, .int .i64 v.ent.born, .int .i64 v.ent.slot, .slice A v.ent.L.length ca, .bool v.ent.gone, .slice B v.ent.H.length cb]] W fun r w' => r = .returned (.bool (Ev.entR v.ent)) ∧ Below W.heap.size W w') := Lib.hid (fun W hb => rightE_any (EntIn.at hin hb (fun x hx => by cases hx)) hf.e)
  have HW := Lib.hid (fun W => isName_any v.name hf.name W)
  have HSQ := Lib.hid (fun W => isIn_any v.seq 63 W)
  have HIX := Lib.hid (fun W => isIn_any v.idx 11 W)
  have HSZ := Lib.hid (fun W => isIn_any v.size 64 W)
  have HNW := Lib.hid (fun W => isIn_any v.now 1099511627776 W)
  have hh := Has.made w 29 #[.int .i64 v.kind, .string (S v.ent.id), .int .i64 v.ent.cls, .int .i64 v.ent.born, .int .i64 v.ent.slot, .slice A v.ent.L.length ca, .bool v.ent.gone, .slice B v.ent.H.length cb, .int .i64 v.seq, .int .i64 v.idx, .string (S v.name), .int .i64 v.size, .string (S v.root), .int .i64 v.now]
  have k1 := Lib.hid (fun h => Ev.right1 (v := v) h)
  have k2 := Lib.hid (fun h => Ev.right2 (v := v) h)
  have k3 := Lib.hid (fun h => Ev.right3 (v := v) h)
  have k4 := Lib.hid (fun h => Ev.right4 (v := v) h)
  have k6 := Lib.hid (fun h => Ev.right6 (v := v) h)
  have k7 := Lib.hid (fun h => Ev.right7 (v := v) h)
  have k0 := Lib.hid (fun h => Ev.right0 (v := v) h)
  clear hin hf
  obtain ⟨kind, ⟨id, cls, born, slot, L, gone, H⟩, seq, idx, name, size, root, now⟩ := v
  dsimp only at *
  generalize Ev.right ⟨kind, ⟨id, cls, born, slot, L, gone, H⟩, seq, idx, name, size, root, now⟩ = RR at *
  generalize Ev.entR ⟨id, cls, born, slot, L, gone, H⟩ = ER at *
  generalize Pap.word 16 name = wd at *
  generalize Ev.rng seq 63 = q1 at *
  generalize Ev.rng idx 11 = q2 at *
  generalize Ev.rng size 64 = q3 at *
  generalize Ev.rng now 1099511627776 = q4 at *
  go_enter Try.func18, Try.ntmps18
  go_upto_region 1 with fail
  generalize w.alloc (.cells #[.int .i64 kind, .string (S id), .int .i64 cls, .int .i64 born, .int .i64 slot, .slice A L.length ca, .bool gone, .slice B H.length cb, .int .i64 seq, .int .i64 idx, .string (S name), .int .i64 size, .string (S root), .int .i64 now] 29) = W0 at HB hh ⊢
  generalize w.heap.size = b0 at hh ⊢
  have y0 : W0.cell? ⟨b0, 0, none⟩ = some (.int .i64 kind) := hh.cell 0
  have y1 : W0.cell? ⟨b0, 1, none⟩ = some (.string (S id)) := hh.cell 1
  have y2 : W0.cell? ⟨b0, 2, none⟩ = some (.int .i64 cls) := hh.cell 2
  have y3 : W0.cell? ⟨b0, 3, none⟩ = some (.int .i64 born) := hh.cell 3
  have y4 : W0.cell? ⟨b0, 4, none⟩ = some (.int .i64 slot) := hh.cell 4
  have y5 : W0.cell? ⟨b0, 5, none⟩ = some (.slice A L.length ca) := hh.cell 5
  have y6 : W0.cell? ⟨b0, 6, none⟩ = some (.bool gone) := hh.cell 6
  have y7 : W0.cell? ⟨b0, 7, none⟩ = some (.slice B H.length cb) := hh.cell 7
  have y8 : W0.cell? ⟨b0, 8, none⟩ = some (.int .i64 seq) := hh.cell 8
  have y9 : W0.cell? ⟨b0, 9, none⟩ = some (.int .i64 idx) := hh.cell 9
  have y10 : W0.cell? ⟨b0, 10, none⟩ = some (.string (S name)) := hh.cell 10
  have y11 : W0.cell? ⟨b0, 11, none⟩ = some (.int .i64 size) := hh.cell 11
  have y12 : W0.cell? ⟨b0, 12, none⟩ = some (.string (S root)) := hh.cell 12
  have y13 : W0.cell? ⟨b0, 13, none⟩ = some (.int .i64 now) := hh.cell 13
  clear hh
  by_cases c1 : kind = 1
  · obtain rfl : RR = ER := k1.out c1
    subst c1
    go_wp2_with fail
    refine (HE.out _ HB.out).mono ?_
    rintro r w1 ⟨rfl, hb1⟩
    go_wp2_with fail
    go_ret
    exact ⟨rfl, HB.out.trans (hb1.mono HB.out.size)⟩
  have n1 : (kind == 1) = false := by rw [beq_eq_false_iff_ne]; exact c1
  by_cases c2 : kind = 2
  · have hr := Lib.hid (k2.out c2)
    subst c2
    clear c1
    cases q1 with
    | false =>
      obtain rfl : RR = false := hr.out
      go_wp2_with fail
      refine (HSQ.out _).mono ?_
      rintro r w1 ⟨rfl, e1⟩
      rw [← e1]
      clear e1 w1
      go_wp2_with fail
      go_ret
      exact ⟨rfl, HB.out⟩
    | true =>
      obtain rfl : RR = q2 := hr.out
      go_wp2_with fail
      refine (HSQ.out _).mono ?_
      rintro r w1 ⟨rfl, e1⟩
      rw [← e1]
      clear e1 w1
      go_wp2_with fail
      refine (HIX.out _).mono ?_
      rintro r w1 ⟨rfl, e1⟩
      rw [← e1]
      clear e1 w1
      go_wp2_with fail
      go_ret
      exact ⟨rfl, HB.out⟩
  have n2 : (kind == 2) = false := by rw [beq_eq_false_iff_ne]; exact c2
  by_cases c3 : kind = 3
  · obtain rfl : RR = q1 := k3.out c3
    subst c3
    clear c1 c2
    go_wp2_with fail
    refine (HSQ.out _).mono ?_
    rintro r w1 ⟨rfl, e1⟩
    rw [← e1]
    clear e1 w1
    go_wp2_with fail
    go_ret
    exact ⟨rfl, HB.out⟩
  have n3 : (kind == 3) = false := by rw [beq_eq_false_iff_ne]; exact c3
  by_cases c4 : kind = 4 ∨ kind = 5
  · have hr := Lib.hid (k4.out c4)
    clear c1 c2 c3
    cases q1 with
    | false =>
      obtain rfl : RR = false := hr.out
      rcases c4 with rfl | rfl
      all_goals
        go_wp2_with fail
        refine (HSQ.out _).mono ?_
        rintro r w1 ⟨rfl, e1⟩
        rw [← e1]
        clear e1 w1
        go_wp2_with fail
        go_ret
        exact ⟨rfl, HB.out⟩
    | true =>
      obtain rfl : RR = wd := hr.out
      rcases c4 with rfl | rfl
      all_goals
        go_wp2_with fail
        refine (HSQ.out _).mono ?_
        rintro r w1 ⟨rfl, e1⟩
        rw [← e1]
        clear e1 w1
        go_wp2_with fail
        refine (HW.out _).mono ?_
        rintro r w1 ⟨rfl, e1⟩
        rw [← e1]
        clear e1 w1
        go_wp2_with fail
        go_ret
        exact ⟨rfl, HB.out⟩
  have n4 : (kind == 4) = false := by rw [beq_eq_false_iff_ne]; exact fun e => c4 (Or.inl e)
  have n5 : (kind == 5) = false := by rw [beq_eq_false_iff_ne]; exact fun e => c4 (Or.inr e)
  by_cases c6 : kind = 6
  · have hr := Lib.hid (k6.out c6)
    subst c6
    clear c1 c2 c3 c4
    cases q3 with
    | false =>
      obtain rfl : RR = false := hr.out
      go_wp2_with fail
      refine (HSZ.out _).mono ?_
      rintro r w1 ⟨rfl, e1⟩
      rw [← e1]
      clear e1 w1
      go_wp2_with fail
      go_ret
      exact ⟨rfl, HB.out⟩
    | true =>
      obtain ⟨q5, hq5⟩ : ∃ q5 : Bool, ((root.length : Int) == 32) = q5 := ⟨_, rfl⟩
      have e5 : decide (root.length = 32) = q5 := by
        rw [← hq5, Bool.eq_iff_iff, decide_eq_true_iff, beq_iff_eq]
        omega
      obtain rfl : RR = q5 := by rw [hr.out, e5]; rfl
      clear e5 hr
      go_wp2_with fail
      refine (HSZ.out _).mono ?_
      rintro r w1 ⟨rfl, e1⟩
      rw [← e1]
      clear e1 w1
      go_wp2_with fail
      go_ret
      exact ⟨rfl, HB.out⟩
  have n6 : (kind == 6) = false := by rw [beq_eq_false_iff_ne]; exact c6
  by_cases c7 : kind = 7
  · obtain rfl : RR = q4 := k7.out c7
    subst c7
    clear c1 c2 c3 c4 c6
    go_wp2_with fail
    refine (HNW.out _).mono ?_
    rintro r w1 ⟨rfl, e1⟩
    rw [← e1]
    clear e1 w1
    go_wp2_with fail
    go_ret
    exact ⟨rfl, HB.out⟩
  have n7 : (kind == 7) = false := by rw [beq_eq_false_iff_ne]; exact c7
  have h0 : kind < 1 ∨ 7 < kind := by omega
  obtain rfl : RR = false := k0.out h0
  clear c1 c2 c3 c4 c6 c7 h0
  go_wp2_with fail
  go_ret
  exact ⟨rfl, HB.out⟩
end Go.Proofs.Ytihhgingdgepcaa
