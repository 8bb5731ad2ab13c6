/-
  EvRefs: the texts EvRefC, EvRefD, EvRefG, EvLd in one.
-/
import Derived.Test.YtojemaaljjibiaaPEvRefB
import Derived.Test.YtojemaaljjibiaaPStaThree
import Derived.Deep.MidRow
namespace Go.Proofs.Ytojemaaljjibiaa
open Go.RowKit
set_option linter.unusedVariables false

/-- Texts that are not endless. -/
structure EvtFew (v : Evt) : Prop where
  e : EntFew v.ent
  name : v.name.length ≤ 1000000
  root : v.root.length ≤ 1000000
/-- An event's value. -/
def Evt.val (v : Evt) (A : Option Addr) (ca : Nat) (B : Option Addr) (cb : Nat) : Value := .agg #[.int .i64 v.kind, .string (S v.ent.id), .int .i64 v.ent.cls, .int .i64 v.ent.born, .int .i64 v.ent.slot, .slice A v.ent.L.length ca, .bool v.ent.gone, .slice B v.ent.H.length cb, .int .i64 v.seq, .int .i64 v.idx, .string (S v.name), .int .i64 v.size, .string (S v.root), .int .i64 v.now]
theorem Ev.rng_ways (n m : Int) : (¬ (0 : Int) ≤ n ∧ Ev.rng n m = false) ∨ ((0 : Int) ≤ n ∧ ¬ n ≤ m ∧ Ev.rng n m = false) ∨ ((0 : Int) ≤ n ∧ n ≤ m ∧ Ev.rng n m = true) := by
  unfold Ev.rng
  by_cases a1 : (0 : Int) ≤ n
  · by_cases a2 : n ≤ m
    · exact Or.inr (Or.inr ⟨a1, a2, decide_eq_true ⟨a1, a2⟩⟩)
    · exact Or.inr (Or.inl ⟨a1, a2, decide_eq_false (fun x => a2 x.2)⟩)
  · exact Or.inl ⟨a1, decide_eq_false (fun x => a1 x.1)⟩
set_option maxRecDepth 100000 in
set_option maxHeartbeats 16000000 in
theorem erightV_any {w : World} {v : Evt} {A B : Option Addr} {ca cb : Nat} (hin : EntIn w [] v.ent A ca B cb) (hf : EvtFew v) :
    Calls Try.prog 31 #[v.val A ca B cb] w fun r w' => r = .returned (.bool (Ev.right v)) ∧ Below w.heap.size w w' := by
  unfold Evt.val
  have HF := Lib.hid hf
  have HB : Hid (Below w.heap.size w (w.alloc (.cells #[.int .i64 v.kind, .string (S v.ent.id), .int .i64 v.ent.cls, .int .i64 v.ent.born, .int .i64 v.ent.slot, .slice A v.ent.L.length ca, .bool v.ent.gone, .slice B v.ent.H.length cb, .int .i64 v.seq, .int .i64 v.idx, .string (S v.name), .int .i64 v.size, .string (S v.root), .int .i64 v.now] 37))) := Lib.hid ((Below.refl _ w).alloc (Nat.le_refl _) _)
  have HE : Hid (∀ W, Below w.heap.size w W → Calls Try.prog 49 #[.agg #[.string (S v.ent.id), .int .i64 v.ent.cls, .int .i64 v.ent.born, .int .i64 v.ent.slot, .slice A v.ent.L.length ca, .bool v.ent.gone, .slice B v.ent.H.length cb]] W fun r w' => r = .returned (.bool (Ev.entR v.ent)) ∧ Below W.heap.size W w') := Lib.hid (fun W hb => erightE_any (EntIn.at hin hb (fun x hx => by cases hx)) hf.e)
  have HW := Lib.hid (fun W => eword_b v.name hf.name 16 W)
  have hh := Has.made w 37 #[.int .i64 v.kind, .string (S v.ent.id), .int .i64 v.ent.cls, .int .i64 v.ent.born, .int .i64 v.ent.slot, .slice A v.ent.L.length ca, .bool v.ent.gone, .slice B v.ent.H.length cb, .int .i64 v.seq, .int .i64 v.idx, .string (S v.name), .int .i64 v.size, .string (S v.root), .int .i64 v.now]
  have k1 := Lib.hid (fun h => Ev.right1 (v := v) h)
  have k2 := Lib.hid (fun h => Ev.right2 (v := v) h)
  have k3 := Lib.hid (fun h => Ev.right3 (v := v) h)
  have k4 := Lib.hid (fun h => Ev.right4 (v := v) h)
  have k6 := Lib.hid (fun h => Ev.right6 (v := v) h)
  have k7 := Lib.hid (fun h => Ev.right7 (v := v) h)
  have k0 := Lib.hid (fun h => Ev.right0 (v := v) h)
  clear hin hf
  obtain ⟨kind, ⟨id, cls, born, slot, L, gone, H⟩, seq, idx, name, size, root, now⟩ := v
  dsimp only at *
  generalize Ev.right ⟨kind, ⟨id, cls, born, slot, L, gone, H⟩, seq, idx, name, size, root, now⟩ = RR at *
  generalize Ev.entR ⟨id, cls, born, slot, L, gone, H⟩ = ER at *
  generalize Pap.word 16 name = wd at *
  go_enter Try.func31, Try.ntmps31
  go_upto_region 1 with fail
  generalize w.alloc (.cells #[.int .i64 kind, .string (S id), .int .i64 cls, .int .i64 born, .int .i64 slot, .slice A L.length ca, .bool gone, .slice B H.length cb, .int .i64 seq, .int .i64 idx, .string (S name), .int .i64 size, .string (S root), .int .i64 now] 37) = W0 at HB hh ⊢
  generalize w.heap.size = b0 at hh ⊢
  have y0 : W0.cell? ⟨b0, 0, none⟩ = some (.int .i64 kind) := hh.cell 0
  have y8 : W0.cell? ⟨b0, 8, none⟩ = some (.int .i64 seq) := hh.cell 8
  have y9 : W0.cell? ⟨b0, 9, none⟩ = some (.int .i64 idx) := hh.cell 9
  have y10 : W0.cell? ⟨b0, 10, none⟩ = some (.string (S name)) := hh.cell 10
  have y11 : W0.cell? ⟨b0, 11, none⟩ = some (.int .i64 size) := hh.cell 11
  have y12 : W0.cell? ⟨b0, 12, none⟩ = some (.string (S root)) := hh.cell 12
  have y13 : W0.cell? ⟨b0, 13, none⟩ = some (.int .i64 now) := hh.cell 13
  have x1 : W0.cell? ⟨b0, 1, none⟩ = some (.string (S id)) := hh.cell 1
  have x2 : W0.cell? ⟨b0, 2, none⟩ = some (.int .i64 cls) := hh.cell 2
  have x3 : W0.cell? ⟨b0, 3, none⟩ = some (.int .i64 born) := hh.cell 3
  have x4 : W0.cell? ⟨b0, 4, none⟩ = some (.int .i64 slot) := hh.cell 4
  have x5 : W0.cell? ⟨b0, 5, none⟩ = some (.slice A L.length ca) := hh.cell 5
  have x6 : W0.cell? ⟨b0, 6, none⟩ = some (.bool gone) := hh.cell 6
  have x7 : W0.cell? ⟨b0, 7, none⟩ = some (.slice B H.length cb) := hh.cell 7
  clear hh
  have hseq := Lib.hid (Ev.rng_ways seq 63)
  go_cut [3] from 4 to 11 (fun v3 wr => ∃ u : Bool, v3 = .bool u ∧ Hid (u = Ev.rng seq 63 ∧ wr = W0))
  case first =>
    rcases hseq.out with ⟨q1, q⟩ | ⟨q1, q2, q⟩ | ⟨q1, q2, q⟩
    all_goals
      have HQ := Lib.hid q
      clear q hseq
      go_wp2_with fail
      go_meet
      exact ⟨_, rfl, Lib.hid ⟨by first | exact HQ.out.symm | (rw [HQ.out]; exact decide_eq_false (by omega)) | (rw [HQ.out]; exact decide_eq_true (by omega)), rfl⟩⟩
  case rest =>
    obtain ⟨u, rfl, hu⟩ := hcut
    obtain ⟨hq, rfl⟩ := hu.out
    have HU := Lib.hid hq
    clear hq hu hseq
    by_cases c1 : kind = 1
    · have hr := k1.out c1
      subst hr
      subst c1
      clear k1 k2 k3 k4 k6 k7 k0
      go_wp2_with fail
      refine (HE.out _ HB.out).mono ?_
      rintro r w2 ⟨rfl, hb2⟩
      have HF2 := Lib.hid (HB.out.trans (hb2.mono HB.out.size))
      clear hb2
      go_wp2_with fail
      go_ret
      exact ⟨rfl, HF2.out⟩
    have c1' : (kind == 1) = false := by rw [beq_eq_false_iff_ne]; exact c1
    clear x1 x2 x3 x4 x5 x6 x7 HE
    by_cases c2 : kind = 2
    · have hr := k2.out c2
      subst c2
      rw [← HU.out] at hr
      clear k1 k2 k3 k4 k6 k7 k0 c1 c1' HW HU
      cases u with
      | false =>
        rw [Bool.false_and] at hr
        subst hr
        go_wp2_with fail
        go_ret
        exact ⟨rfl, HB.out⟩
      | true =>
        rw [Bool.true_and] at hr
        rcases Ev.rng_ways idx 11 with ⟨q1, q⟩ | ⟨q1, q2, q⟩ | ⟨q1, q2, q⟩
        all_goals
          rw [q] at hr
          subst hr
          clear q
          go_wp2_with fail
          go_ret
          exact ⟨rfl, HB.out⟩
    have c2' : (kind == 2) = false := by rw [beq_eq_false_iff_ne]; exact c2
    by_cases c3 : kind = 3
    · have hr := k3.out c3
      subst c3
      rw [← HU.out] at hr
      subst hr
      clear k1 k2 k3 k4 k6 k7 k0 c1 c1' c2 c2' HW HU
      go_wp2_with fail
      go_ret
      exact ⟨rfl, HB.out⟩
    have c3' : (kind == 3) = false := by rw [beq_eq_false_iff_ne]; exact c3
    by_cases c4 : kind = 4 ∨ kind = 5
    · have hr := k4.out c4
      rw [← HU.out] at hr
      clear k1 k2 k3 k4 k6 k7 k0 c1 c2 c3 HU
      rcases c4 with rfl | rfl
      all_goals
        cases u with
        | false =>
          rw [Bool.false_and] at hr
          subst hr
          go_wp2_with fail
          go_ret
          exact ⟨rfl, HB.out⟩
        | true =>
          rw [Bool.true_and] at hr
          subst hr
          go_wp2_with fail
          refine (HW.out _).mono ?_
          rintro r w2 ⟨rfl, hb2⟩
          have HF2 := Lib.hid (HB.out.trans (hb2.mono HB.out.size))
          clear hb2
          go_wp2_with fail
          go_ret
          exact ⟨rfl, HF2.out⟩
    have c4' : (kind == 4) = false := by rw [beq_eq_false_iff_ne]; exact fun e => c4 (Or.inl e)
    have c5' : (kind == 5) = false := by rw [beq_eq_false_iff_ne]; exact fun e => c4 (Or.inr e)
    by_cases c6 : kind = 6
    · have hr := k6.out c6
      subst c6
      clear k1 k2 k3 k4 k6 k7 k0 c1 c2 c3 c4 c1' c2' c3' c4' c5' HW HU
      rcases Ev.rng_ways size 64 with ⟨q1, q⟩ | ⟨q1, q2, q⟩ | ⟨q1, q2, q⟩
      · rw [q, Bool.false_and] at hr
        subst hr
        clear q
        go_wp2_with fail
        go_ret
        exact ⟨rfl, HB.out⟩
      · rw [q, Bool.false_and] at hr
        subst hr
        clear q
        go_wp2_with fail
        go_ret
        exact ⟨rfl, HB.out⟩
      · rw [q, Bool.true_and] at hr
        clear q
        by_cases h32 : root.length = 32
        · have h32a : ((root.length : Int) == 32) = true := by rw [h32]; rfl
          rw [decide_eq_true h32] at hr
          subst hr
          clear h32
          go_wp2_with fail
          go_ret
          exact ⟨rfl, HB.out⟩
        · have h32a : ((root.length : Int) == 32) = false := by rw [beq_eq_false_iff_ne]; omega
          rw [decide_eq_false h32] at hr
          subst hr
          clear h32
          go_wp2_with fail
          go_ret
          exact ⟨rfl, HB.out⟩
    have c6' : (kind == 6) = false := by rw [beq_eq_false_iff_ne]; exact c6
    by_cases c7 : kind = 7
    · have hr := k7.out c7
      subst c7
      clear k1 k2 k3 k4 k6 k7 k0 c1 c2 c3 c4 c6 c1' c2' c3' c4' c5' c6' HW HU
      rcases Ev.rng_ways now 1099511627776 with ⟨q1, q⟩ | ⟨q1, q2, q⟩ | ⟨q1, q2, q⟩
      all_goals
        rw [q] at hr
        subst hr
        clear q
        go_wp2_with fail
        go_ret
        exact ⟨rfl, HB.out⟩
    have c7' : (kind == 7) = false := by rw [beq_eq_false_iff_ne]; exact c7
    have hr := k0.out (by omega)
    subst hr
    clear k1 k2 k3 k4 k6 k7 k0 c1 c2 c3 c4 c6 c7 HW HU
    go_wp2_with fail
    go_ret
    exact ⟨rfl, HB.out⟩
end Go.Proofs.Ytojemaaljjibiaa

namespace Go.Proofs.Ytojemaaljjibiaa
open Go.RowKit
set_option linter.unusedVariables false

theorem evtSize : (Try.prog.info? 37).map (·.size) = some 14 := by kernel_rfl
theorem entSize : (Try.prog.info? 33).map (·.size) = some 7 := by kernel_rfl
theorem ret_evt {fn : Func} {p : Tmp} {R : Ending → World → Prop} {a : Act} {w : World} (h : fn.results = #[.cell p 37]) (g : Nat) (cs : Array Value)
    (hp : a.tmps.getD p undef = .pointer (some ⟨g, 0, none⟩)) (hd : a.defers = []) (hh : Has w g 37 cs) (hcs : cs.size = 14) (hR : R (.returned (.agg cs)) w) : bodyPost Try.prog fn R .ret a w :=
  bodyPost_ret (v := .agg cs) (results_cell_row h _ _ g 37 cs (0, 0) _ hp hh Try.underlying37 rfl (by rw [hcs]; exact evtSize)) hd hR
theorem ret_ent {fn : Func} {p : Tmp} {R : Ending → World → Prop} {a : Act} {w : World} (h : fn.results = #[.cell p 33]) (g : Nat) (cs : Array Value)
    (hp : a.tmps.getD p undef = .pointer (some ⟨g, 0, none⟩)) (hd : a.defers = []) (hh : Has w g 33 cs) (hcs : cs.size = 7) (hR : R (.returned (.agg cs)) w) : bodyPost Try.prog fn R .ret a w :=
  bodyPost_ret (v := .agg cs) (results_cell_row h _ _ g 33 cs (0, 0) _ hp hh Try.underlying33 rfl (by rw [hcs]; exact entSize)) hd hR
theorem EntIn.zero (w : World) : EntIn w [] Ent.zero none 0 none 0 := ⟨RowC.nil _ _ _, RowC.nil _ _ _, Nat.le_refl _, Nat.zero_le _, Nat.le_refl _, Nat.zero_le _⟩
theorem evtNew (w : World) (o : Obj) (cs : Array Value) : Has ((w.alloc o).alloc (.cells cs 37)) (w.heap.size + 1) 37 cs := by
  have h := Has.made (w.alloc o) 37 cs
  rw [asize] at h
  exact h
theorem evtUp (w : World) (o p : Obj) : Below w.heap.size w ((w.alloc o).alloc p) := ((Below.refl _ w).alloc (Nat.le_refl _) o).alloc (by rw [asize]; omega) p
end Go.Proofs.Ytojemaaljjibiaa

namespace Go.Proofs.Ytojemaaljjibiaa
open Go.RowKit
set_option linter.unusedVariables false

theorem slpFields : Try.prog.underlying 51 = some (.struct (Try.prog.fieldsOf 51)) := by kernel_rfl
theorem slpStood : Try.prog.stoodInHeld 51 = false := by kernel_rfl
theorem slpGuard : Try.prog.eqGuardType Try.prog.depth 51 = false := by kernel_rfl
abbrev slpv (n p c : List UInt8) (e : Bool) : Value := .agg #[.string (S n), .string (S p), .string (S c), .bool e]
theorem run_slpeq (n p c : List UInt8) (e : Bool) (n' p' c' : List UInt8) (e' : Bool) (W : World) : (binOp .eql 51 (slpv n p c e) (slpv n' p' c' e')).run Try.prog W = .ok (.bool (decide (Slp.mk n p c e = Slp.mk n' p' c' e'))) W := by
  rw [run_eql_struct, run_equalIn_agg W 9999 _ _ _ slpFields slpStood]
  have h1 : ((S n).toList == (S n').toList) = (n == n') := by rw [S_toList, S_toList]
  have h2 : ((S p).toList == (S p').toList) = (p == p') := by rw [S_toList, S_toList]
  have h3 : ((S c).toList == (S c').toList) = (c == c') := by rw [S_toList, S_toList]
  simp [go_sem, Try.underlying51, Try.underlying4, Try.underlying9]
  by_cases e1 : n = n' <;> by_cases e2 : p = p' <;> by_cases e3 : c = c' <;> by_cases e4 : e = e' <;> simp [e1, e2, e3, e4]
theorem run_slpneq (n p c : List UInt8) (e : Bool) (n' p' c' : List UInt8) (e' : Bool) (W : World) : (binOp .neq 51 (slpv n p c e) (slpv n' p' c' e')).run Try.prog W = .ok (.bool (!decide (Slp.mk n p c e = Slp.mk n' p' c' e'))) W := by
  have h := run_slpeq n p c e n' p' c' e' W
  rw [run_eql_struct] at h
  rw [run_neq_struct]
  generalize (Op.equalIn 10000 _ _ _).run _ _ = R at h ⊢
  cases R with
  | ok a w => simp [Result.andThen] at h ⊢; obtain ⟨h1, h2⟩ := h; exact ⟨by rw [h1], h2⟩
  | _ => simp [Result.andThen] at h
theorem run_slpguard (op : BinOp) (o1 o2 : Operand) (n p c : List UInt8) (e : Bool) (n' p' c' : List UInt8) (e' : Bool) (W : World) : (eqGuard op 51 o1 o2 (slpv n p c e) (slpv n' p' c' e')).run Try.prog W = .ok () W := run_eqGuard_agg W op _ o1 o2 _ _ slpGuard

theorem entTwo (w : World) (T : TypeId) (cs1 cs2 : Array Value) : Has ((w.alloc (.cells cs1 T)).alloc (.cells cs2 T)) w.heap.size T cs1 ∧ Has ((w.alloc (.cells cs1 T)).alloc (.cells cs2 T)) (w.heap.size + 1) T cs2 := by
  have h := Has.made (w.alloc (.cells cs1 T)) T cs2
  rw [asize] at h
  have h1 := Has.made w T cs1
  exact ⟨h1.below ((Below.refl _ (w.alloc (.cells cs1 T))).alloc (Nat.le_refl _) _) h1.lt, h⟩
theorem entPair {w : World} {o p : Obj} : Below w.heap.size w ((w.alloc o).alloc p) := ((Below.refl _ w).alloc (Nat.le_refl _) o).alloc (by rw [asize]; omega) p
set_option maxRecDepth 100000 in
set_option maxHeartbeats 16000000 in
theorem esameE_any {w : World} {e f : Ent} {A B C D : Option Addr} {ca cb cc cd : Nat} (h1 : EntIn w [] e A ca B cb) (h2 : EntIn w [] f C cc D cd) :
    Calls Try.prog 25 #[.agg #[.string (S e.id), .int .i64 e.cls, .int .i64 e.born, .int .i64 e.slot, .slice A e.L.length ca, .bool e.gone, .slice B e.H.length cb], .agg #[.string (S f.id), .int .i64 f.cls, .int .i64 f.born, .int .i64 f.slot, .slice C f.L.length cc, .bool f.gone, .slice D f.H.length cd]] w fun r w' => r = .returned (.bool (decide (e = f))) ∧ Below w.heap.size w w' := by
  have HIN1 := Lib.hid h1
  have HIN2 := Lib.hid h2
  clear h1 h2
  obtain ⟨id, cls, born, slot, L, gone, H⟩ := e
  obtain ⟨id2, cls2, born2, slot2, L2, gone2, H2⟩ := f
  dsimp only at *
  obtain ⟨res, hres⟩ : ∃ r, decide (Ent.mk id cls born slot L gone H = Ent.mk id2 cls2 born2 slot2 L2 gone2 H2) = r := ⟨_, rfl⟩
  rw [hres]
  have HE := Lib.hid hres
  clear hres
  by_cases c1 : id = id2
  rotate_left
  · have hb : (id == id2) = false := by rw [beq_eq_false_iff_ne]; exact c1
    have hr : res = false := by rw [← HE.out, decide_eq_false_iff_not]; exact fun h => c1 (by injection h)
    subst hr
    clear c1 HE HIN1 HIN2
    go_enter Try.func25, Try.ntmps25
    go_wp2_with fail
    go_ret
    exact ⟨rfl, entPair⟩
  subst c1
  by_cases cc0 : cls = cls2
  rotate_left
  · have hb : (cls == cls2) = false := by rw [beq_eq_false_iff_ne]; exact cc0
    have hc : (cls != cls2) = true := by rw [bne_iff_ne]; exact cc0
    have hr : res = false := by rw [← HE.out, decide_eq_false_iff_not]; exact fun h => cc0 (by injection h)
    subst hr
    clear cc0 HE HIN1 HIN2
    go_enter Try.func25, Try.ntmps25
    go_wp2_with fail
    go_ret
    exact ⟨rfl, entPair⟩
  subst cc0
  by_cases cc0 : born = born2
  rotate_left
  · have hb : (born == born2) = false := by rw [beq_eq_false_iff_ne]; exact cc0
    have hc : (born != born2) = true := by rw [bne_iff_ne]; exact cc0
    have hr : res = false := by rw [← HE.out, decide_eq_false_iff_not]; exact fun h => cc0 (by injection h)
    subst hr
    clear cc0 HE HIN1 HIN2
    go_enter Try.func25, Try.ntmps25
    go_wp2_with fail
    go_ret
    exact ⟨rfl, entPair⟩
  subst cc0
  by_cases cc0 : slot = slot2
  rotate_left
  · have hb : (slot == slot2) = false := by rw [beq_eq_false_iff_ne]; exact cc0
    have hc : (slot != slot2) = true := by rw [bne_iff_ne]; exact cc0
    have hr : res = false := by rw [← HE.out, decide_eq_false_iff_not]; exact fun h => cc0 (by injection h)
    subst hr
    clear cc0 HE HIN1 HIN2
    go_enter Try.func25, Try.ntmps25
    go_wp2_with fail
    go_ret
    exact ⟨rfl, entPair⟩
  subst cc0
  by_cases cc0 : gone = gone2
  rotate_left
  · have hr : res = false := by rw [← HE.out, decide_eq_false_iff_not]; exact fun h => cc0 (by injection h)
    subst hr
    clear HE HIN1 HIN2
    cases gone <;> cases gone2
    all_goals first
      | exact absurd rfl cc0
      | (clear cc0; go_enter Try.func25, Try.ntmps25; go_wp2_with fail; go_ret; exact ⟨rfl, entPair⟩)
  subst cc0
  by_cases cc0 : L.length = L2.length
  rotate_left
  · have hb : ((L.length : Int) == (L2.length : Int)) = false := by rw [beq_eq_false_iff_ne]; omega
    have hc : ((L.length : Int) != (L2.length : Int)) = true := by rw [bne_iff_ne]; omega
    have hr : res = false := by rw [← HE.out, decide_eq_false_iff_not]; exact fun h => cc0 (by injection h with _ _ _ _ h1; rw [h1])
    subst hr
    clear cc0 HE HIN1 HIN2
    go_enter Try.func25, Try.ntmps25
    go_wp2_with fail
    go_ret
    exact ⟨rfl, entPair⟩
  have HLL := Lib.hid cc0
  clear cc0
  by_cases cc0 : H.length = H2.length
  rotate_left
  · have hb : ((H.length : Int) == (H2.length : Int)) = false := by rw [beq_eq_false_iff_ne]; omega
    have hc : ((H.length : Int) != (H2.length : Int)) = true := by rw [bne_iff_ne]; omega
    have hl : ((L.length : Int) == (L2.length : Int)) = true := by rw [beq_iff_eq, HLL.out]
    have hl2 : ((L.length : Int) != (L2.length : Int)) = false := by rw [bne_eq_false_iff_eq, HLL.out]
    have hr : res = false := by rw [← HE.out, decide_eq_false_iff_not]; exact fun h => cc0 (by injection h with _ _ _ _ _ _ h1; rw [h1])
    subst hr
    clear cc0 HE HIN1 HIN2
    go_enter Try.func25, Try.ntmps25
    go_wp2_with fail
    go_ret
    exact ⟨rfl, entPair⟩
  have HHH := Lib.hid cc0
  clear cc0
  have hl : ((L.length : Int) == (L2.length : Int)) = true := by rw [beq_iff_eq, HLL.out]
  have hl2 : ((L.length : Int) != (L2.length : Int)) = false := by rw [bne_eq_false_iff_eq, HLL.out]
  have hh2 : ((H.length : Int) != (H2.length : Int)) = false := by rw [bne_eq_false_iff_eq, HHH.out]
  have hh : ((H.length : Int) == (H2.length : Int)) = true := by rw [beq_iff_eq, HHH.out]
  have HLD : Hid (L ≠ L2 → res = false) := Lib.hid (fun hne => by rw [← HE.out, decide_eq_false_iff_not]; exact fun h => hne (by injection h))
  have HHD : Hid (H ≠ H2 → res = false) := Lib.hid (fun hne => by rw [← HE.out, decide_eq_false_iff_not]; exact fun h => hne (by injection h))
  have HEQ : Hid (L = L2 → H = H2 → res = true) := Lib.hid (fun h1 h2 => by rw [← HE.out, h1, h2]; exact decide_eq_true rfl)
  clear HE
  go_enter Try.func25, Try.ntmps25
  go_wp2_with fail
  have hB := entPair (w := w) (o := (.cells #[.string (S id), .int .i64 cls, .int .i64 born, .int .i64 slot, .slice A L.length ca, .bool gone, .slice B H.length cb] 33)) (p := (.cells #[.string (S id), .int .i64 cls, .int .i64 born, .int .i64 slot, .slice C L2.length cc, .bool gone, .slice D H2.length cd] 33))
  obtain ⟨ha, hb⟩ := entTwo w 33 #[.string (S id), .int .i64 cls, .int .i64 born, .int .i64 slot, .slice A L.length ca, .bool gone, .slice B H.length cb] #[.string (S id), .int .i64 cls, .int .i64 born, .int .i64 slot, .slice C L2.length cc, .bool gone, .slice D H2.length cd]
  have HR1 := Lib.hid (HIN1.out.below hB)
  have HR2 := Lib.hid (HIN2.out.below hB)
  have HB := Lib.hid hB
  clear HIN1 HIN2 hB
  generalize (w.alloc (.cells #[.string (S id), .int .i64 cls, .int .i64 born, .int .i64 slot, .slice A L.length ca, .bool gone, .slice B H.length cb] 33)).alloc (.cells #[.string (S id), .int .i64 cls, .int .i64 born, .int .i64 slot, .slice C L2.length cc, .bool gone, .slice D H2.length cd] 33) = W0 at HB HR1 HR2 ha hb ⊢
  generalize w.heap.size + 1 = b2 at hb ⊢
  generalize w.heap.size = b1 at ha ⊢
  have a4 : W0.cell? ⟨b1, 4, none⟩ = some (.slice A L.length ca) := ha.cell 4
  have a6 : W0.cell? ⟨b1, 6, none⟩ = some (.slice B H.length cb) := ha.cell 6
  have d4 : W0.cell? ⟨b2, 4, none⟩ = some (.slice C L2.length cc) := hb.cell 4
  have d6 : W0.cell? ⟨b2, 6, none⟩ = some (.slice D H2.length cd) := hb.cell 6
  have HBD : Hid (∀ m, Below w.heap.size w (W0.drewN m)) := Lib.hid (fun m => evDrew HB.out m)
  clear ha hb HB hl hl2 hh hh2
  rw [← HLL.out] at d4
  rw [← HHH.out] at d6
  go_loopg [5] L.length (fun n v5 wr => ∃ k m : Nat, k + n = L.length ∧ v5 = .int .i64 (k : Int) ∧ Hid (L.take k = L2.take k) ∧ wr = W0.drewN m)
  case atStart => exact ⟨0, 0, Nat.zero_add _, rfl, Lib.hid (by simp), rfl⟩
  case round =>
    obtain ⟨k, m, hkn, rfl, HALL, rfl⟩ := hrel
    cases gk with
    | zero =>
      have hlt : ¬ (k : Int) < (L.length : Int) := by omega
      obtain rfl : k = L.length := by omega
      have HQ : Hid (L = L2) := Lib.hid (by
        have := HALL.out
        rwa [List.take_length, HLL.out, List.take_length] at this)
      clear hkn HALL
      go_wp2_with fail
      go_loopg [6] H.length (fun n v6 wr => ∃ k m : Nat, k + n = H.length ∧ v6 = .int .i64 (k : Int) ∧ Hid (H.take k = H2.take k) ∧ wr = W0.drewN m)
      case atStart => exact ⟨0, _, Nat.zero_add _, rfl, Lib.hid (by simp), rfl⟩
      case round =>
        obtain ⟨k, m, hkn, rfl, HALL, rfl⟩ := hrel
        cases gk with
        | zero =>
          have hlt : ¬ (k : Int) < (H.length : Int) := by omega
          obtain rfl : k = H.length := by omega
          have HQ2 : Hid (H = H2) := Lib.hid (by
            have := HALL.out
            rwa [List.take_length, HHH.out, List.take_length] at this)
          have hr := HEQ.out HQ.out HQ2.out
          subst hr
          clear hkn HALL
          go_wp2_with fail
          go_ret
          exact ⟨rfl, HBD.out _⟩
        | succ n =>
          have hlt : (k : Int) < (H.length : Int) := by omega
          have hk : k < H.length := by omega
          have hk2 : k < H2.length := by rw [← HHH.out]; exact hk
          have hinc : IntKind.i64.wrap ((k : Int) + 1) = (k : Int) + 1 := by
            have h1 := HR1.out.mb
            have h2 := HR1.out.lb
            dsimp only at h2
            rw [IntKind.wrap_i64]
            omega
          have hkc : (k : Int) < (cb : Int) := by have := HR1.out.lb; dsimp only at this; omega
          have hkc2 : (k : Int) < (cd : Int) := by have := HR2.out.lb; dsimp only at this; omega
          have hk0 : (0 : Int) ≤ (k : Int) := by omega
          obtain ⟨bl, ol, hA, -, -, p0⟩ := RowT.get HR1.out.rh k hk
          obtain ⟨bm, om, hC, -, -, q0⟩ := RowT.get HR2.out.rh k hk2
          have HST : Hid (H[k] = H2[k] → H.take (k + 1) = H2.take (k + 1)) := Lib.hid (fun h => by rw [List.take_succ_eq_append_getElem hk, List.take_succ_eq_append_getElem hk2, HALL.out, h])
          have HNO : Hid (H[k] ≠ H2[k] → res = false) := Lib.hid (fun h => HHD.out (fun hc => h (by simp only [hc])))
          dsimp only at p0 q0
          subst hA hC
          generalize H[k] = x at p0 HST HNO
          generalize H2[k] = y at q0 HST HNO
          have HN' := Lib.hid hkn
          clear hkn HALL a4 d4
          by_cases he : x = y
          · have HQ := Lib.hid (HST.out he)
            have hx : (x == y) = true := by rw [beq_iff_eq]; exact he
            have hx2 : (x != y) = false := by rw [bne_eq_false_iff_eq]; exact he
            clear HST HNO
            go_wp2_with fail
            go_quiet (fail)
            clear p0 q0 hx hx2
            go_wp2_with fail
            go_roundg n
            case measure => omega
            case rel => exact ⟨k + 1, _, by have := HN'.out; omega, by go_num, HQ, rfl⟩
          · have hr := HNO.out he
            subst hr
            have hx : (x == y) = false := by rw [beq_eq_false_iff_ne]; exact he
            have hx2 : (x != y) = true := by rw [bne_iff_ne]; exact he
            clear HST HNO
            go_wp2_with fail
            go_quiet (fail)
            clear p0 q0 hx hx2
            go_wp2_with fail
            go_ret
            exact ⟨rfl, evDrew (HBD.out _) _⟩
    | succ n =>
      have hlt : (k : Int) < (L.length : Int) := by omega
      have hk : k < L.length := by omega
      have hk2 : k < L2.length := by rw [← HLL.out]; exact hk
      have hinc : IntKind.i64.wrap ((k : Int) + 1) = (k : Int) + 1 := by
        have h1 := HR1.out.ma
        have h2 := HR1.out.la
        dsimp only at h2
        rw [IntKind.wrap_i64]
        omega
      have hkc : (k : Int) < (ca : Int) := by have := HR1.out.la; dsimp only at this; omega
      have hkc2 : (k : Int) < (cc : Int) := by have := HR2.out.la; dsimp only at this; omega
      have hk0 : (0 : Int) ≤ (k : Int) := by omega
      obtain ⟨bl, ol, hA, -, -, p0, p1, p2, p3⟩ := RowP.get HR1.out.rl k hk
      obtain ⟨bm, om, hC, -, -, q0, q1, q2, q3⟩ := RowP.get HR2.out.rl k hk2
      have HST : Hid (L[k] = L2[k] → L.take (k + 1) = L2.take (k + 1)) := Lib.hid (fun h => by rw [List.take_succ_eq_append_getElem hk, List.take_succ_eq_append_getElem hk2, HALL.out, h])
      have HNO : Hid (L[k] ≠ L2[k] → res = false) := Lib.hid (fun h => HLD.out (fun hc => h (by simp only [hc])))
      dsimp only at p0 p1 p2 p3 q0 q1 q2 q3
      subst hA hC
      generalize L[k] = x at p0 p1 p2 p3 HST HNO
      generalize L2[k] = y at q0 q1 q2 q3 HST HNO
      obtain ⟨n1, p1', c1, e1⟩ := x
      obtain ⟨n2, p2', c2, e2⟩ := y
      dsimp only at p0 p1 p2 p3 q0 q1 q2 q3
      have hE := fun W => run_slpneq n1 p1' c1 e1 n2 p2' c2 e2 W
      have hG := fun op o1 o2 W => run_slpguard op o1 o2 n1 p1' c1 e1 n2 p2' c2 e2 W
      have HN' := Lib.hid hkn
      clear hkn HALL
      by_cases he : Slp.mk n1 p1' c1 e1 = Slp.mk n2 p2' c2 e2
      · have HQ := Lib.hid (HST.out he)
        rw [decide_eq_true he] at hE
        clear he HST HNO
        go_wp2_with fail
        go_quiet (fail)
        clear p0 p1 p2 p3 q0 q1 q2 q3 hE hG
        go_wp2_with fail
        go_roundg n
        case measure => omega
        case rel => exact ⟨k + 1, _, by have := HN'.out; omega, by go_num, HQ, rfl⟩
      · have hr := HNO.out he
        subst hr
        rw [decide_eq_false he] at hE
        clear he HST HNO
        go_wp2_with fail
        go_quiet (fail)
        clear p0 p1 p2 p3 q0 q1 q2 q3 hE hG
        go_wp2_with fail
        go_ret
        exact ⟨rfl, evDrew (HBD.out _) _⟩
end Go.Proofs.Ytojemaaljjibiaa

namespace Go.Proofs.Ytojemaaljjibiaa
open Go.RowKit
set_option linter.unusedVariables false

theorem evtOpen (v : Evt) (A : Option Addr) (ca : Nat) (B : Option Addr) (cb : Nat) : ∃ CS : Array Value, v.val A ca B cb = .agg CS ∧ CS.size = 14 ∧ CS.all (·.oneCell') = true := ⟨_, rfl, rfl, by simp [Value.oneCell']⟩
end Go.Proofs.Ytojemaaljjibiaa
