/-
  EvRefs: the texts EvRefC, EvRefD, EvRefG, EvLd in one.
-/
import Derived.Test.YtojemaaljjibiaaEvRefB
import Derived.Test.YtojemaaljjibiaaStaThree
import Derived.Deep.MidRow
namespace Go.Proofs.Ytojemaaljjibiaa
open Go.RowKit
set_option linter.unusedVariables false

/-- Texts that are not endless. -/
structure EvtFew (v : Evt) : Prop where
  e : EntFew v.ent
  name : v.name.length ≤ 1000000
  root : v.root.length ≤ 1000000
/-- An event's value. -/
def Evt.val (v : Evt) (A : Option Addr) (ca : Nat) (B : Option Addr) (cb : Nat) : Value := .agg #[.int .i64 v.kind, .string (S v.ent.id), .int .i64 v.ent.cls, .int .i64 v.ent.born, .int .i64 v.ent.slot, .slice A v.ent.L.length ca, .bool v.ent.gone, .slice B v.ent.H.length cb, .int .i64 v.seq, .int .i64 v.idx, .string (S v.name), .int .i64 v.size, .string (S v.root), .int .i64 v.now]
end Go.Proofs.Ytojemaaljjibiaa

namespace Go.Proofs.Ytojemaaljjibiaa
open Go.RowKit
set_option linter.unusedVariables false

theorem evtSize : (Try.prog.info? 37).map (·.size) = some 14 := by kernel_rfl
theorem entSize : (Try.prog.info? 33).map (·.size) = some 7 := by kernel_rfl
theorem ret_evt {fn : Func} {p : Tmp} {R : Ending → World → Prop} {a : Act} {w : World} (h : fn.results = #[.cell p 37]) (g : Nat) (cs : Array Value)
    (hp : a.tmps.getD p undef = .pointer (some ⟨g, 0, none⟩)) (hd : a.defers = []) (hh : Has w g 37 cs) (hcs : cs.size = 14) (hR : R (.returned (.agg cs)) w) : bodyPost Try.prog fn R .ret a w :=
  bodyPost_ret (v := .agg cs) (results_cell_row h _ _ g 37 cs (0, 0) _ hp hh Try.underlying37 rfl (by rw [hcs]; exact evtSize)) hd hR
theorem ret_ent {fn : Func} {p : Tmp} {R : Ending → World → Prop} {a : Act} {w : World} (h : fn.results = #[.cell p 33]) (g : Nat) (cs : Array Value)
    (hp : a.tmps.getD p undef = .pointer (some ⟨g, 0, none⟩)) (hd : a.defers = []) (hh : Has w g 33 cs) (hcs : cs.size = 7) (hR : R (.returned (.agg cs)) w) : bodyPost Try.prog fn R .ret a w :=
  bodyPost_ret (v := .agg cs) (results_cell_row h _ _ g 33 cs (0, 0) _ hp hh Try.underlying33 rfl (by rw [hcs]; exact entSize)) hd hR
theorem EntIn.zero (w : World) : EntIn w [] Ent.zero none 0 none 0 := ⟨RowC.nil _ _ _, RowC.nil _ _ _, Nat.le_refl _, Nat.zero_le _, Nat.le_refl _, Nat.zero_le _⟩
theorem evtNew (w : World) (o : Obj) (cs : Array Value) : Has ((w.alloc o).alloc (.cells cs 37)) (w.heap.size + 1) 37 cs := by
  have h := Has.made (w.alloc o) 37 cs
  rw [asize] at h
  exact h
theorem evtUp (w : World) (o p : Obj) : Below w.heap.size w ((w.alloc o).alloc p) := ((Below.refl _ w).alloc (Nat.le_refl _) o).alloc (by rw [asize]; omega) p
end Go.Proofs.Ytojemaaljjibiaa

namespace Go.Proofs.Ytojemaaljjibiaa
open Go.RowKit
set_option linter.unusedVariables false

theorem slpFields : Try.prog.underlying 51 = some (.struct (Try.prog.fieldsOf 51)) := by kernel_rfl
theorem slpStood : Try.prog.stoodInHeld 51 = false := by kernel_rfl
theorem slpGuard : Try.prog.eqGuardType Try.prog.depth 51 = false := by kernel_rfl
abbrev slpv (n p c : List UInt8) (e : Bool) : Value := .agg #[.string (S n), .string (S p), .string (S c), .bool e]
theorem run_slpeq (n p c : List UInt8) (e : Bool) (n' p' c' : List UInt8) (e' : Bool) (W : World) : (binOp .eql 51 (slpv n p c e) (slpv n' p' c' e')).run Try.prog W = .ok (.bool (decide (Slp.mk n p c e = Slp.mk n' p' c' e'))) W := by
  rw [run_eql_struct, run_equalIn_agg W 9999 _ _ _ slpFields slpStood]
  have h1 : ((S n).toList == (S n').toList) = (n == n') := by rw [S_toList, S_toList]
  have h2 : ((S p).toList == (S p').toList) = (p == p') := by rw [S_toList, S_toList]
  have h3 : ((S c).toList == (S c').toList) = (c == c') := by rw [S_toList, S_toList]
  simp [go_sem, Try.underlying51, Try.underlying4, Try.underlying9]
  by_cases e1 : n = n' <;> by_cases e2 : p = p' <;> by_cases e3 : c = c' <;> by_cases e4 : e = e' <;> simp [e1, e2, e3, e4]
theorem run_slpneq (n p c : List UInt8) (e : Bool) (n' p' c' : List UInt8) (e' : Bool) (W : World) : (binOp .neq 51 (slpv n p c e) (slpv n' p' c' e')).run Try.prog W = .ok (.bool (!decide (Slp.mk n p c e = Slp.mk n' p' c' e'))) W := by
  have h := run_slpeq n p c e n' p' c' e' W
  rw [run_eql_struct] at h
  rw [run_neq_struct]
  generalize (Op.equalIn 10000 _ _ _).run _ _ = R at h ⊢
  cases R with
  | ok a w => simp [Result.andThen] at h ⊢; obtain ⟨h1, h2⟩ := h; exact ⟨by rw [h1], h2⟩
  | _ => simp [Result.andThen] at h
theorem run_slpguard (op : BinOp) (o1 o2 : Operand) (n p c : List UInt8) (e : Bool) (n' p' c' : List UInt8) (e' : Bool) (W : World) : (eqGuard op 51 o1 o2 (slpv n p c e) (slpv n' p' c' e')).run Try.prog W = .ok () W := run_eqGuard_agg W op _ o1 o2 _ _ slpGuard

theorem entTwo (w : World) (T : TypeId) (cs1 cs2 : Array Value) : Has ((w.alloc (.cells cs1 T)).alloc (.cells cs2 T)) w.heap.size T cs1 ∧ Has ((w.alloc (.cells cs1 T)).alloc (.cells cs2 T)) (w.heap.size + 1) T cs2 := by
  have h := Has.made (w.alloc (.cells cs1 T)) T cs2
  rw [asize] at h
  have h1 := Has.made w T cs1
  exact ⟨h1.below ((Below.refl _ (w.alloc (.cells cs1 T))).alloc (Nat.le_refl _) _) h1.lt, h⟩
theorem entPair {w : World} {o p : Obj} : Below w.heap.size w ((w.alloc o).alloc p) := ((Below.refl _ w).alloc (Nat.le_refl _) o).alloc (by rw [asize]; omega) p
set_option maxRecDepth 100000 in
set_option maxHeartbeats 16000000 in
theorem esameE_any {w : World} {e f : Ent} {A B C D : Option Addr} {ca cb cc cd : Nat} (h1 : EntIn w [] e A ca B cb) (h2 : EntIn w [] f C cc D cd) :
    Calls Try.prog 25 #[.agg #[.string (S e.id), .int .i64 e.cls, .int .i64 e.born, .int .i64 e.slot, .slice A e.L.length ca, .bool e.gone, .slice B e.H.length cb], .agg #[.string (S f.id), .int .i64 f.cls, .int .i64 f.born, .int .i64 f.slot, .slice C f.L.length cc, .bool f.gone, .slice D f.H.length cd]] w fun r w' => r = .returned (.bool (decide (e = f))) ∧ Below w.heap.size w w' := by
  have HIN1 := Lib.hid h1
  have HIN2 := Lib.hid h2
  clear h1 h2
  obtain ⟨id, cls, born, slot, L, gone, H⟩ := e
  obtain ⟨id2, cls2, born2, slot2, L2, gone2, H2⟩ := f
  dsimp only at *
  obtain ⟨res, hres⟩ : ∃ r, decide (Ent.mk id cls born slot L gone H = Ent.mk id2 cls2 born2 slot2 L2 gone2 H2) = r := ⟨_, rfl⟩
  rw [hres]
  have HE := Lib.hid hres
  clear hres
  by_cases c1 : id = id2
  rotate_left
  · have hb : (id == id2) = false := by rw [beq_eq_false_iff_ne]; exact c1
    have hr : res = false := by rw [← HE.out, decide_eq_false_iff_not]; exact fun h => c1 (by injection h)
    subst hr
    clear c1 HE HIN1 HIN2
    go_enter Try.func25, Try.ntmps25
    go_wp2_with fail
    go_ret
    exact ⟨rfl, entPair⟩
  subst c1
  by_cases cc0 : cls = cls2
  rotate_left
  · have hb : (cls == cls2) = false := by rw [beq_eq_false_iff_ne]; exact cc0
    have hc : (cls != cls2) = true := by rw [bne_iff_ne]; exact cc0
    have hr : res = false := by rw [← HE.out, decide_eq_false_iff_not]; exact fun h => cc0 (by injection h)
    subst hr
    clear cc0 HE HIN1 HIN2
    go_enter Try.func25, Try.ntmps25
    go_wp2_with fail
    go_ret
    exact ⟨rfl, entPair⟩
  subst cc0
  by_cases cc0 : born = born2
  rotate_left
  · have hb : (born == born2) = false := by rw [beq_eq_false_iff_ne]; exact cc0
    have hc : (born != born2) = true := by rw [bne_iff_ne]; exact cc0
    have hr : res = false := by rw [← HE.out, decide_eq_false_iff_not]; exact fun h => cc0 (by injection h)
    subst hr
    clear cc0 HE HIN1 HIN2
    go_enter Try.func25, Try.ntmps25
    go_wp2_with fail
    go_ret
    exact ⟨rfl, entPair⟩
  subst cc0
  by_cases cc0 : slot = slot2
  rotate_left
  · have hb : (slot == slot2) = false := by rw [beq_eq_false_iff_ne]; exact cc0
    have hc : (slot != slot2) = true := by rw [bne_iff_ne]; exact cc0
    have hr : res = false := by rw [← HE.out, decide_eq_false_iff_not]; exact fun h => cc0 (by injection h)
    subst hr
    clear cc0 HE HIN1 HIN2
    go_enter Try.func25, Try.ntmps25
    go_wp2_with fail
    go_ret
    exact ⟨rfl, entPair⟩
  subst cc0
  by_cases cc0 : gone = gone2
  rotate_left
  · have hr : res = false := by rw [← HE.out, decide_eq_false_iff_not]; exact fun h => cc0 (by injection h)
    subst hr
    clear HE HIN1 HIN2
    cases gone <;> cases gone2
    all_goals first
      | exact absurd rfl cc0
      | (clear cc0; go_enter Try.func25, Try.ntmps25; go_wp2_with fail; go_ret; exact ⟨rfl, entPair⟩)
  subst cc0
  by_cases cc0 : L.length = L2.length
  rotate_left
  · have hb : ((L.length : Int) == (L2.length : Int)) = false := by rw [beq_eq_false_iff_ne]; omega
    have hc : ((L.length : Int) != (L2.length : Int)) = true := by rw [bne_iff_ne]; omega
    have hr : res = false := by rw [← HE.out, decide_eq_false_iff_not]; exact fun h => cc0 (by injection h with _ _ _ _ h1; rw [h1])
    subst hr
    clear cc0 HE HIN1 HIN2
    go_enter Try.func25, Try.ntmps25
    go_wp2_with fail
    go_ret
    exact ⟨rfl, entPair⟩
  have HLL := Lib.hid cc0
  clear cc0
  by_cases cc0 : H.length = H2.length
  rotate_left
  · have hb : ((H.length : Int) == (H2.length : Int)) = false := by rw [beq_eq_false_iff_ne]; omega
    have hc : ((H.length : Int) != (H2.length : Int)) = true := by rw [bne_iff_ne]; omega
    have hl : ((L.length : Int) == (L2.length : Int)) = true := by rw [beq_iff_eq, HLL.out]
    have hl2 : ((L.length : Int) != (L2.length : Int)) = false := by rw [bne_eq_false_iff_eq, HLL.out]
    have hr : res = false := by rw [← HE.out, decide_eq_false_iff_not]; exact fun h => cc0 (by injection h with _ _ _ _ _ _ h1; rw [h1])
    subst hr
    clear cc0 HE HIN1 HIN2
    go_enter Try.func25, Try.ntmps25
    go_wp2_with fail
    go_ret
    exact ⟨rfl, entPair⟩
  have HHH := Lib.hid cc0
  clear cc0
  have hl : ((L.length : Int) == (L2.length : Int)) = true := by rw [beq_iff_eq, HLL.out]
  have hl2 : ((L.length : Int) != (L2.length : Int)) = false := by rw [bne_eq_false_iff_eq, HLL.out]
  have hh2 : ((H.length : Int) != (H2.length : Int)) = false := by rw [bne_eq_false_iff_eq, HHH.out]
  have hh : ((H.length : Int) == (H2.length : Int)) = true := by rw [beq_iff_eq, HHH.out]
  have HLD : Hid (L ≠ L2 → res = false) := Lib.hid (fun hne => by rw [← HE.out, decide_eq_false_iff_not]; exact fun h => hne (by injection h))
  have HHD : Hid (H ≠ H2 → res = false) := Lib.hid (fun hne => by rw [← HE.out, decide_eq_false_iff_not]; exact fun h => hne (by injection h))
  have HEQ : Hid (L = L2 → H = H2 → res = true) := Lib.hid (fun h1 h2 => by rw [← HE.out, h1, h2]; exact decide_eq_true rfl)
  clear HE
  go_enter Try.func25, Try.ntmps25
  go_wp2_with fail
  have hB := entPair (w := w) (o := (.cells #[.string (S id), .int .i64 cls, .int .i64 born, .int .i64 slot, .slice A L.length ca, .bool gone, .slice B H.length cb] 33)) (p := (.cells #[.string (S id), .int .i64 cls, .int .i64 born, .int .i64 slot, .slice C L2.length cc, .bool gone, .slice D H2.length cd] 33))
  obtain ⟨ha, hb⟩ := entTwo w 33 #[.string (S id), .int .i64 cls, .int .i64 born, .int .i64 slot, .slice A L.length ca, .bool gone, .slice B H.length cb] #[.string (S id), .int .i64 cls, .int .i64 born, .int .i64 slot, .slice C L2.length cc, .bool gone, .slice D H2.length cd]
  have HR1 := Lib.hid (HIN1.out.below hB)
  have HR2 := Lib.hid (HIN2.out.below hB)
  have HB := Lib.hid hB
  clear HIN1 HIN2 hB
  generalize (w.alloc (.cells #[.string (S id), .int .i64 cls, .int .i64 born, .int .i64 slot, .slice A L.length ca, .bool gone, .slice B H.length cb] 33)).alloc (.cells #[.string (S id), .int .i64 cls, .int .i64 born, .int .i64 slot, .slice C L2.length cc, .bool gone, .slice D H2.length cd] 33) = W0 at HB HR1 HR2 ha hb ⊢
  generalize w.heap.size + 1 = b2 at hb ⊢
  generalize w.heap.size = b1 at ha ⊢
  have a4 : W0.cell? ⟨b1, 4, none⟩ = some (.slice A L.length ca) := ha.cell 4
  have a6 : W0.cell? ⟨b1, 6, none⟩ = some (.slice B H.length cb) := ha.cell 6
  have d4 : W0.cell? ⟨b2, 4, none⟩ = some (.slice C L2.length cc) := hb.cell 4
  have d6 : W0.cell? ⟨b2, 6, none⟩ = some (.slice D H2.length cd) := hb.cell 6
  have HBD : Hid (∀ m, Below w.heap.size w (W0.drewN m)) := Lib.hid (fun m => evDrew HB.out m)
  clear ha hb HB hl hl2 hh hh2
  rw [← HLL.out] at d4
  rw [← HHH.out] at d6
  go_loopg [5] L.length (fun n v5 wr => ∃ k m : Nat, k + n = L.length ∧ v5 = .int .i64 (k : Int) ∧ Hid (L.take k = L2.take k) ∧ wr = W0.drewN m)
  case atStart => exact ⟨0, 0, Nat.zero_add _, rfl, Lib.hid (by simp), rfl⟩
  case round =>
    obtain ⟨k, m, hkn, rfl, HALL, rfl⟩ := hrel
    cases gk with
    | zero =>
      have hlt : ¬ (k : Int) < (L.length : Int) := by omega
      obtain rfl : k = L.length := by omega
      have HQ : Hid (L = L2) := Lib.hid (by
        have := HALL.out
        rwa [List.take_length, HLL.out, List.take_length] at this)
      clear hkn HALL
      go_wp2_with fail
      go_loopg [6] H.length (fun n v6 wr => ∃ k m : Nat, k + n = H.length ∧ v6 = .int .i64 (k : Int) ∧ Hid (H.take k = H2.take k) ∧ wr = W0.drewN m)
      case atStart => exact ⟨0, _, Nat.zero_add _, rfl, Lib.hid (by simp), rfl⟩
      case round =>
        obtain ⟨k, m, hkn, rfl, HALL, rfl⟩ := hrel
        cases gk with
        | zero =>
          have hlt : ¬ (k : Int) < (H.length : Int) := by omega
          obtain rfl : k = H.length := by omega
          have HQ2 : Hid (H = H2) := Lib.hid (by
            have := HALL.out
            rwa [List.take_length, HHH.out, List.take_length] at this)
          have hr := HEQ.out HQ.out HQ2.out
          subst hr
          clear hkn HALL
          go_wp2_with fail
          go_ret
          exact ⟨rfl, HBD.out _⟩
        | succ n =>
          have hlt : (k : Int) < (H.length : Int) := by omega
          have hk : k < H.length := by omega
          have hk2 : k < H2.length := by rw [← HHH.out]; exact hk
          have hinc : IntKind.i64.wrap ((k : Int) + 1) = (k : Int) + 1 := by
            have h1 := HR1.out.mb
            have h2 := HR1.out.lb
            dsimp only at h2
            rw [IntKind.wrap_i64]
            omega
          have hkc : (k : Int) < (cb : Int) := by have := HR1.out.lb; dsimp only at this; omega
          have hkc2 : (k : Int) < (cd : Int) := by have := HR2.out.lb; dsimp only at this; omega
          have hk0 : (0 : Int) ≤ (k : Int) := by omega
          obtain ⟨bl, ol, hA, -, -, p0⟩ := RowT.get HR1.out.rh k hk
          obtain ⟨bm, om, hC, -, -, q0⟩ := RowT.get HR2.out.rh k hk2
          have HST : Hid (H[k] = H2[k] → H.take (k + 1) = H2.take (k + 1)) := Lib.hid (fun h => by rw [List.take_succ_eq_append_getElem hk, List.take_succ_eq_append_getElem hk2, HALL.out, h])
          have HNO : Hid (H[k] ≠ H2[k] → res = false) := Lib.hid (fun h => HHD.out (fun hc => h (by simp only [hc])))
          dsimp only at p0 q0
          subst hA hC
          generalize H[k] = x at p0 HST HNO
          generalize H2[k] = y at q0 HST HNO
          have HN' := Lib.hid hkn
          clear hkn HALL a4 d4
          by_cases he : x = y
          · have HQ := Lib.hid (HST.out he)
            have hx : (x == y) = true := by rw [beq_iff_eq]; exact he
            have hx2 : (x != y) = false := by rw [bne_eq_false_iff_eq]; exact he
            clear HST HNO
            go_wp2_with fail
            go_quiet (fail)
            clear p0 q0 hx hx2
            go_wp2_with fail
            go_roundg n
            case measure => omega
            case rel => exact ⟨k + 1, _, by have := HN'.out; omega, by go_num, HQ, rfl⟩
          · have hr := HNO.out he
            subst hr
            have hx : (x == y) = false := by rw [beq_eq_false_iff_ne]; exact he
            have hx2 : (x != y) = true := by rw [bne_iff_ne]; exact he
            clear HST HNO
            go_wp2_with fail
            go_quiet (fail)
            clear p0 q0 hx hx2
            go_wp2_with fail
            go_ret
            exact ⟨rfl, evDrew (HBD.out _) _⟩
    | succ n =>
      have hlt : (k : Int) < (L.length : Int) := by omega
      have hk : k < L.length := by omega
      have hk2 : k < L2.length := by rw [← HLL.out]; exact hk
      have hinc : IntKind.i64.wrap ((k : Int) + 1) = (k : Int) + 1 := by
        have h1 := HR1.out.ma
        have h2 := HR1.out.la
        dsimp only at h2
        rw [IntKind.wrap_i64]
        omega
      have hkc : (k : Int) < (ca : Int) := by have := HR1.out.la; dsimp only at this; omega
      have hkc2 : (k : Int) < (cc : Int) := by have := HR2.out.la; dsimp only at this; omega
      have hk0 : (0 : Int) ≤ (k : Int) := by omega
      obtain ⟨bl, ol, hA, -, -, p0, p1, p2, p3⟩ := RowP.get HR1.out.rl k hk
      obtain ⟨bm, om, hC, -, -, q0, q1, q2, q3⟩ := RowP.get HR2.out.rl k hk2
      have HST : Hid (L[k] = L2[k] → L.take (k + 1) = L2.take (k + 1)) := Lib.hid (fun h => by rw [List.take_succ_eq_append_getElem hk, List.take_succ_eq_append_getElem hk2, HALL.out, h])
      have HNO : Hid (L[k] ≠ L2[k] → res = false) := Lib.hid (fun h => HLD.out (fun hc => h (by simp only [hc])))
      dsimp only at p0 p1 p2 p3 q0 q1 q2 q3
      subst hA hC
      generalize L[k] = x at p0 p1 p2 p3 HST HNO
      generalize L2[k] = y at q0 q1 q2 q3 HST HNO
      obtain ⟨n1, p1', c1, e1⟩ := x
      obtain ⟨n2, p2', c2, e2⟩ := y
      dsimp only at p0 p1 p2 p3 q0 q1 q2 q3
      have hE := fun W => run_slpneq n1 p1' c1 e1 n2 p2' c2 e2 W
      have hG := fun op o1 o2 W => run_slpguard op o1 o2 n1 p1' c1 e1 n2 p2' c2 e2 W
      have HN' := Lib.hid hkn
      clear hkn HALL
      by_cases he : Slp.mk n1 p1' c1 e1 = Slp.mk n2 p2' c2 e2
      · have HQ := Lib.hid (HST.out he)
        rw [decide_eq_true he] at hE
        clear he HST HNO
        go_wp2_with fail
        go_quiet (fail)
        clear p0 p1 p2 p3 q0 q1 q2 q3 hE hG
        go_wp2_with fail
        go_roundg n
        case measure => omega
        case rel => exact ⟨k + 1, _, by have := HN'.out; omega, by go_num, HQ, rfl⟩
      · have hr := HNO.out he
        subst hr
        rw [decide_eq_false he] at hE
        clear he HST HNO
        go_wp2_with fail
        go_quiet (fail)
        clear p0 p1 p2 p3 q0 q1 q2 q3 hE hG
        go_wp2_with fail
        go_ret
        exact ⟨rfl, evDrew (HBD.out _) _⟩
end Go.Proofs.Ytojemaaljjibiaa

namespace Go.Proofs.Ytojemaaljjibiaa
open Go.RowKit
set_option linter.unusedVariables false

theorem evtOpen (v : Evt) (A : Option Addr) (ca : Nat) (B : Option Addr) (cb : Nat) : ∃ CS : Array Value, v.val A ca B cb = .agg CS ∧ CS.size = 14 ∧ CS.all (·.oneCell') = true := ⟨_, rfl, rfl, by simp [Value.oneCell']⟩
/-- A load of a whole event at the list of a plain region's operations, guarded or not. -/
theorem wpList_evLoad {ops : Array Oper} {rest : List Oper} {o : Oper} {a : Act} {w : World} {Q : Exit → Act → World → Prop} (hw : Region.wanted o (yielded ops a.tmps) = true) (x : Operand) (ho : o.op = .load 37 x)
    (g : Nat) (cs : Array Value) (hx : a.eval x = .pointer (some ⟨g, 0, none⟩)) (hg : Has w g 37 cs) (hcs : cs.size = 14) (h : wpList Try.prog ops Q rest (a.put o.dst (.agg cs)) w) : wpList Try.prog ops Q (o :: rest) a w :=
  wpList_step fun K hK => by
    rw [if_pos hw]
    exact wp_load_row 37 x ho g hx 37 cs (0, 0) _ hg Try.underlying37 rfl (by rw [hcs]; exact evtSize) (hK _ _ h)
end Go.Proofs.Ytojemaaljjibiaa
