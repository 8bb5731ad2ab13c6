/-
  The reference's Right, Clean of the fourteenth layer.
-/
import Derived.Test.YtihhgingdgepcaaEvRefB
namespace Go.Proofs.Ytihhgingdgepcaa
open Go.RowKit
set_option linter.unusedVariables false

/-- Texts that are not endless. -/
structure EvtFew (v : Evt) : Prop where
  e : EntFew v.ent
  name : v.name.length ≤ 1000000
  root : v.root.length ≤ 1000000
/-- An event's value. -/
def Evt.val (v : Evt) (A : Option Addr) (ca : Nat) (B : Option Addr) (cb : Nat) : Value := .agg #[.int .i64 v.kind, .string (S v.ent.id), .int .i64 v.ent.cls, .int .i64 v.ent.born, .int .i64 v.ent.slot, .slice A v.ent.L.length ca, .bool v.ent.gone, .slice B v.ent.H.length cb, .int .i64 v.seq, .int .i64 v.idx, .string (S v.name), .int .i64 v.size, .string (S v.root), .int .i64 v.now]
theorem Ev.rng_ways (n m : Int) : (¬ (0 : Int) ≤ n ∧ Ev.rng n m = false) ∨ ((0 : Int) ≤ n ∧ ¬ n ≤ m ∧ Ev.rng n m = false) ∨ ((0 : Int) ≤ n ∧ n ≤ m ∧ Ev.rng n m = true) := by
  unfold Ev.rng
  by_cases a1 : (0 : Int) ≤ n
  · by_cases a2 : n ≤ m
    · exact Or.inr (Or.inr ⟨a1, a2, decide_eq_true ⟨a1, a2⟩⟩)
    · exact Or.inr (Or.inl ⟨a1, a2, decide_eq_false (fun x => a2 x.2)⟩)
  · exact Or.inl ⟨a1, decide_eq_false (fun x => a1 x.1)⟩
set_option maxRecDepth 100000 in
set_option maxHeartbeats 16000000 in
theorem erightV_any {w : World} {v : Evt} {A B : Option Addr} {ca cb : Nat} (hin : EntIn w [] v.ent A ca B cb) (hf : EvtFew v) :
    Calls Try.prog 9 #[v.val A ca B cb] w fun r w' => r = .returned (.bool (Ev.right v)) ∧ Below w.heap.size w w' := by
  unfold Evt.val
  have HF := Lib.hid hf
  have HB : Hid (Below w.heap.size w (w.alloc (.cells #[.int .i64 v.kind, .string (S v.ent.id), .int .i64 v.ent.cls, .int .i64 v.ent.born, .int .i64 v.ent.slot, .slice A v.ent.L.length ca, .bool v.ent.gone, .slice B v.ent.H.length cb, .int .i64 v.seq, .int .i64 v.idx, .string (S v.name), .int .i64 v.size, .string (S v.root), .int .i64 v.now] 29))) := Lib.hid ((Below.refl _ w).alloc (Nat.le_refl _) _)
  have HE : Hid (∀ W, Below w.heap.size w W → Calls Try.prog 23 #[.agg #[.string (S v.ent.id), .int .i64 v.ent.cls, .int .i64 v.ent.born, .int .i64 v.ent.slot, .slice A v.ent.L.length ca, .bool v.ent.gone, .slice B v.ent.H.length cb]] W fun r w' => r = .returned (.bool (Ev.entR v.ent)) ∧ Below W.heap.size W w') := Lib.hid (fun W hb => erightE_any (EntIn.at hin hb (fun x hx => by cases hx)) hf.e)
  have HW := Lib.hid (fun W => eword_b v.name hf.name 16 W)
  have hh := Has.made w 29 #[.int .i64 v.kind, .string (S v.ent.id), .int .i64 v.ent.cls, .int .i64 v.ent.born, .int .i64 v.ent.slot, .slice A v.ent.L.length ca, .bool v.ent.gone, .slice B v.ent.H.length cb, .int .i64 v.seq, .int .i64 v.idx, .string (S v.name), .int .i64 v.size, .string (S v.root), .int .i64 v.now]
  have k1 := Lib.hid (fun h => Ev.right1 (v := v) h)
  have k2 := Lib.hid (fun h => Ev.right2 (v := v) h)
  have k3 := Lib.hid (fun h => Ev.right3 (v := v) h)
  have k4 := Lib.hid (fun h => Ev.right4 (v := v) h)
  have k6 := Lib.hid (fun h => Ev.right6 (v := v) h)
  have k7 := Lib.hid (fun h => Ev.right7 (v := v) h)
  have k0 := Lib.hid (fun h => Ev.right0 (v := v) h)
  clear hin hf
  obtain ⟨kind, ⟨id, cls, born, slot, L, gone, H⟩, seq, idx, name, size, root, now⟩ := v
  dsimp only at *
  generalize Ev.right ⟨kind, ⟨id, cls, born, slot, L, gone, H⟩, seq, idx, name, size, root, now⟩ = RR at *
  generalize Ev.entR ⟨id, cls, born, slot, L, gone, H⟩ = ER at *
  generalize Pap.word 16 name = wd at *
  go_enter Try.func9, Try.ntmps9
  go_upto_region 1 with fail
  generalize w.alloc (.cells #[.int .i64 kind, .string (S id), .int .i64 cls, .int .i64 born, .int .i64 slot, .slice A L.length ca, .bool gone, .slice B H.length cb, .int .i64 seq, .int .i64 idx, .string (S name), .int .i64 size, .string (S root), .int .i64 now] 29) = W0 at HB hh ⊢
  generalize w.heap.size = b0 at hh ⊢
  have y0 : W0.cell? ⟨b0, 0, none⟩ = some (.int .i64 kind) := hh.cell 0
  have y8 : W0.cell? ⟨b0, 8, none⟩ = some (.int .i64 seq) := hh.cell 8
  have y9 : W0.cell? ⟨b0, 9, none⟩ = some (.int .i64 idx) := hh.cell 9
  have y10 : W0.cell? ⟨b0, 10, none⟩ = some (.string (S name)) := hh.cell 10
  have y11 : W0.cell? ⟨b0, 11, none⟩ = some (.int .i64 size) := hh.cell 11
  have y12 : W0.cell? ⟨b0, 12, none⟩ = some (.string (S root)) := hh.cell 12
  have y13 : W0.cell? ⟨b0, 13, none⟩ = some (.int .i64 now) := hh.cell 13
  have x1 : W0.cell? ⟨b0, 1, none⟩ = some (.string (S id)) := hh.cell 1
  have x2 : W0.cell? ⟨b0, 2, none⟩ = some (.int .i64 cls) := hh.cell 2
  have x3 : W0.cell? ⟨b0, 3, none⟩ = some (.int .i64 born) := hh.cell 3
  have x4 : W0.cell? ⟨b0, 4, none⟩ = some (.int .i64 slot) := hh.cell 4
  have x5 : W0.cell? ⟨b0, 5, none⟩ = some (.slice A L.length ca) := hh.cell 5
  have x6 : W0.cell? ⟨b0, 6, none⟩ = some (.bool gone) := hh.cell 6
  have x7 : W0.cell? ⟨b0, 7, none⟩ = some (.slice B H.length cb) := hh.cell 7
  clear hh
  have hseq := Lib.hid (Ev.rng_ways seq 63)
  go_cut [3] from 4 to 11 (fun v3 wr => ∃ u : Bool, v3 = .bool u ∧ Hid (u = Ev.rng seq 63 ∧ wr = W0))
  case first =>
    rcases hseq.out with ⟨q1, q⟩ | ⟨q1, q2, q⟩ | ⟨q1, q2, q⟩
    all_goals
      have HQ := Lib.hid q
      clear q hseq
      go_wp2_with fail
      go_meet
      exact ⟨_, rfl, Lib.hid ⟨by first | exact HQ.out.symm | (rw [HQ.out]; exact decide_eq_false (by omega)) | (rw [HQ.out]; exact decide_eq_true (by omega)), rfl⟩⟩
  case rest =>
    obtain ⟨u, rfl, hu⟩ := hcut
    obtain ⟨hq, rfl⟩ := hu.out
    have HU := Lib.hid hq
    clear hq hu hseq
    by_cases c1 : kind = 1
    · have hr := k1.out c1
      subst hr
      subst c1
      clear k1 k2 k3 k4 k6 k7 k0
      go_wp2_with fail
      refine (HE.out _ HB.out).mono ?_
      rintro r w2 ⟨rfl, hb2⟩
      have HF2 := Lib.hid (HB.out.trans (hb2.mono HB.out.size))
      clear hb2
      go_wp2_with fail
      go_ret
      exact ⟨rfl, HF2.out⟩
    have c1' : (kind == 1) = false := by rw [beq_eq_false_iff_ne]; exact c1
    clear x1 x2 x3 x4 x5 x6 x7 HE
    by_cases c2 : kind = 2
    · have hr := k2.out c2
      subst c2
      rw [← HU.out] at hr
      clear k1 k2 k3 k4 k6 k7 k0 c1 c1' HW HU
      cases u with
      | false =>
        rw [Bool.false_and] at hr
        subst hr
        go_wp2_with fail
        go_ret
        exact ⟨rfl, HB.out⟩
      | true =>
        rw [Bool.true_and] at hr
        rcases Ev.rng_ways idx 11 with ⟨q1, q⟩ | ⟨q1, q2, q⟩ | ⟨q1, q2, q⟩
        all_goals
          rw [q] at hr
          subst hr
          clear q
          go_wp2_with fail
          go_ret
          exact ⟨rfl, HB.out⟩
    have c2' : (kind == 2) = false := by rw [beq_eq_false_iff_ne]; exact c2
    by_cases c3 : kind = 3
    · have hr := k3.out c3
      subst c3
      rw [← HU.out] at hr
      subst hr
      clear k1 k2 k3 k4 k6 k7 k0 c1 c1' c2 c2' HW HU
      go_wp2_with fail
      go_ret
      exact ⟨rfl, HB.out⟩
    have c3' : (kind == 3) = false := by rw [beq_eq_false_iff_ne]; exact c3
    by_cases c4 : kind = 4 ∨ kind = 5
    · have hr := k4.out c4
      rw [← HU.out] at hr
      clear k1 k2 k3 k4 k6 k7 k0 c1 c2 c3 HU
      rcases c4 with rfl | rfl
      all_goals
        cases u with
        | false =>
          rw [Bool.false_and] at hr
          subst hr
          go_wp2_with fail
          go_ret
          exact ⟨rfl, HB.out⟩
        | true =>
          rw [Bool.true_and] at hr
          subst hr
          go_wp2_with fail
          refine (HW.out _).mono ?_
          rintro r w2 ⟨rfl, hb2⟩
          have HF2 := Lib.hid (HB.out.trans (hb2.mono HB.out.size))
          clear hb2
          go_wp2_with fail
          go_ret
          exact ⟨rfl, HF2.out⟩
    have c4' : (kind == 4) = false := by rw [beq_eq_false_iff_ne]; exact fun e => c4 (Or.inl e)
    have c5' : (kind == 5) = false := by rw [beq_eq_false_iff_ne]; exact fun e => c4 (Or.inr e)
    by_cases c6 : kind = 6
    · have hr := k6.out c6
      subst c6
      clear k1 k2 k3 k4 k6 k7 k0 c1 c2 c3 c4 c1' c2' c3' c4' c5' HW HU
      rcases Ev.rng_ways size 64 with ⟨q1, q⟩ | ⟨q1, q2, q⟩ | ⟨q1, q2, q⟩
      · rw [q, Bool.false_and] at hr
        subst hr
        clear q
        go_wp2_with fail
        go_ret
        exact ⟨rfl, HB.out⟩
      · rw [q, Bool.false_and] at hr
        subst hr
        clear q
        go_wp2_with fail
        go_ret
        exact ⟨rfl, HB.out⟩
      · rw [q, Bool.true_and] at hr
        clear q
        by_cases h32 : root.length = 32
        · have h32a : ((root.length : Int) == 32) = true := by rw [h32]; rfl
          rw [decide_eq_true h32] at hr
          subst hr
          clear h32
          go_wp2_with fail
          go_ret
          exact ⟨rfl, HB.out⟩
        · have h32a : ((root.length : Int) == 32) = false := by rw [beq_eq_false_iff_ne]; omega
          rw [decide_eq_false h32] at hr
          subst hr
          clear h32
          go_wp2_with fail
          go_ret
          exact ⟨rfl, HB.out⟩
    have c6' : (kind == 6) = false := by rw [beq_eq_false_iff_ne]; exact c6
    by_cases c7 : kind = 7
    · have hr := k7.out c7
      subst c7
      clear k1 k2 k3 k4 k6 k7 k0 c1 c2 c3 c4 c6 c1' c2' c3' c4' c5' c6' HW HU
      rcases Ev.rng_ways now 1099511627776 with ⟨q1, q⟩ | ⟨q1, q2, q⟩ | ⟨q1, q2, q⟩
      all_goals
        rw [q] at hr
        subst hr
        clear q
        go_wp2_with fail
        go_ret
        exact ⟨rfl, HB.out⟩
    have c7' : (kind == 7) = false := by rw [beq_eq_false_iff_ne]; exact c7
    have hr := k0.out (by omega)
    subst hr
    clear k1 k2 k3 k4 k6 k7 k0 c1 c2 c3 c4 c6 c7 HW HU
    go_wp2_with fail
    go_ret
    exact ⟨rfl, HB.out⟩
end Go.Proofs.Ytihhgingdgepcaa
