/-
  The contract of PledgeApart.
-/
import Derived.Test.YtlbdpadifhgloaaDoorPledgeKepts
import Derived.Test.YtlbdpadifhgloaaDoorPlgInj
import Derived.Test.YtlbdpadifhgloaaDoorMillWith
import Derived.Test.YtlbdpadifhgloaaDoorMillEnts
import Derived.StillTailTactics
import Derived.Test.YtlbdpadifhgloaaDoorLaw
import Derived.Test.YtlbdpadifhgloaaDoorRows
namespace Go.Proofs.YtlbdpadifhgloaaDoor
open Go.ChangeShapes Go.WideShapes Go.ChangeAt Go.RowKit
open Go.ChangeMaps (open_string shut_string)
set_option linter.unusedVariables false

/-- Four texts. -/
structure Four where
  i : List UInt8
  n : List UInt8
  s : List UInt8
  v : List UInt8
def Four.cs (f : Four) : Array Value := #[.string (S f.i), .string (S f.n), .string (S f.s), .string (S f.v)]
def Four.cut (f : Four) : Four := ⟨f.i.take 300, f.n.take 300, f.s.take 300, f.v.take 300⟩
set_option maxRecDepth 100000 in
theorem four_open {H : Type} {enc : TypeId × Value → H} {W : World} {r : Reach} {b0 : Nat} {v : Value} {d : DataW H} {p : List MemPlace}
    (hv : Value.okWide Tryd.prog W r b0 44 v) (h : DataW.Trod enc Tryd.prog W 0 (fun _ => true) true 44 v d p) :
    ∃ f : Four, v = .agg f.cs := by
  obtain ⟨cs, rfl, hsz⟩ := okWide_struct Tryd.underlying44 hv
  have hC : Tryd.prog.cellsOf 44 = 4 := by kernel_rfl
  obtain ⟨c0, c1, c2, c3, rfl⟩ := array4 (hsz.trans hC)
  obtain ⟨fuel, hf⟩ := h
  have hcell : (Value.agg #[c0, c1, c2, c3]).cells.toList = [c0, c1, c2, c3] := rfl
  rw [hcell] at hf
  obtain ⟨ys, n', hn', hy, hlen, hyl, hf⟩ := DataW.trod_struct Tryd.underlying44 hf
  match ys, hyl with
  | [y0, y1, y2, y3], _ =>
    have C0 : Tryd.prog.cellsOf 9 = 1 := by kernel_rfl
    have f0 : DataW.trod enc Tryd.prog W 0 (fun _ => true) true n' 9 (List.take (Tryd.prog.cellsOf 9) (List.drop 0 [c0, c1, c2, c3])) = some y0 := hf 0 _ rfl
    have f1 : DataW.trod enc Tryd.prog W 0 (fun _ => true) true n' 9 (List.take (Tryd.prog.cellsOf 9) (List.drop 1 [c0, c1, c2, c3])) = some y1 := hf 1 _ rfl
    have f2 : DataW.trod enc Tryd.prog W 0 (fun _ => true) true n' 9 (List.take (Tryd.prog.cellsOf 9) (List.drop 2 [c0, c1, c2, c3])) = some y2 := hf 2 _ rfl
    have f3 : DataW.trod enc Tryd.prog W 0 (fun _ => true) true n' 9 (List.take (Tryd.prog.cellsOf 9) (List.drop 3 [c0, c1, c2, c3])) = some y3 := hf 3 _ rfl
    rw [C0] at f0 f1 f2 f3
    obtain ⟨T0, e0, x0, _⟩ := DataW.trod_string Tryd.underlying9 f0
    obtain ⟨T1, e1, x1, _⟩ := DataW.trod_string Tryd.underlying9 f1
    obtain ⟨T2, e2, x2, _⟩ := DataW.trod_string Tryd.underlying9 f2
    obtain ⟨T3, e3, x3, _⟩ := DataW.trod_string Tryd.underlying9 f3
    simp at e0 e1 e2 e3
    subst e0; subst e1; subst e2; subst e3
    exact ⟨⟨T0.data.toList, T1.data.toList, T2.data.toList, T3.data.toList⟩, by unfold Four.cs; rw [S_of, S_of, S_of, S_of]⟩

theorem f4fields : Tryd.prog.underlying 44 = some (.struct (Tryd.prog.fieldsOf 44)) := by kernel_rfl
theorem f4stood : Tryd.prog.stoodInHeld 44 = false := by kernel_rfl
theorem f4guard : Tryd.prog.eqGuardType Tryd.prog.depth 44 = false := by kernel_rfl
theorem run_f4eq (n p c d n' p' c' d' : List UInt8) (W : World) : (binOp .eql 44 (.agg #[.string (S n), .string (S p), .string (S c), .string (S d)]) (.agg #[.string (S n'), .string (S p'), .string (S c'), .string (S d')])).run Tryd.prog W = .ok (.bool (decide (n = n' ∧ p = p' ∧ c = c' ∧ d = d'))) W := by
  rw [run_eql_struct, run_equalIn_agg W 9999 _ _ _ f4fields f4stood]
  simp [go_sem, Tryd.underlying44, Tryd.underlying9]
  by_cases e1 : n = n' <;> by_cases e2 : p = p' <;> by_cases e3 : c = c' <;> by_cases e4 : d = d' <;> simp [e1, e2, e3, e4]
theorem run_f4guard (op : BinOp) (o1 o2 : Operand) (x y : Array Value) (W : World) : (eqGuard op 44 o1 o2 (.agg x) (.agg y)).run Tryd.prog W = .ok () W := run_eqGuard_agg W op _ o1 o2 _ _ f4guard

theorem MillTv.apart {w : World} {g nb k : Nat} {tv : Option Nat} {l : List Mill.En} {st : Mill.St} {t : TypeId} {cs : Array Value} (h : MillTv w g nb tv l st) (hk : Has w k t cs) : ∀ b, tv = some b → b ≠ k := fun b hb e => by
  subst hb; subst e
  obtain ⟨D, ⟨es, clock, h1, _⟩, _⟩ := h.2.1
  unfold Has at hk
  rw [h1] at hk
  cases hk
theorem f4_set {w : World} {g : Nat} {t : TypeId} {x0 x1 x2 x3 : Value} (h : Has w g t #[x0, x1, x2, x3]) (a b c d : Value) :
    Has ((((w.setCell ⟨g, 0, none⟩ a).setCell ⟨g, 1, none⟩ b).setCell ⟨g, 2, none⟩ c).setCell ⟨g, 3, none⟩ d) g t #[a, b, c, d] := by
  have := (((h.set 0 a).set 1 b).set 2 c).set 3 d
  simpa using this
theorem f4_only (w : World) (g : Nat) (a b c d : Value) : Only w ((((w.setCell ⟨g, 0, none⟩ a).setCell ⟨g, 1, none⟩ b).setCell ⟨g, 2, none⟩ c).setCell ⟨g, 3, none⟩ d) g :=
  (((Only.set w g 0 a).trans (Only.set _ g 1 b)).trans (Only.set _ g 2 c)).trans (Only.set _ g 3 d)
/-- Both fields' blocks, and a mill behind them. -/
structure FB (w W : World) (ca cb : Array Value) (tv : Option Nat) (m : List Mill.En) (st : Mill.St) : Prop where
  a : Has W w.heap.size 44 ca
  b : Has W (w.heap.size + 1) 44 cb
  u : Below w.heap.size w W
  t : Tabs W
  m : MillTv W (w.heap.size + 2 + 1) (w.heap.size + 2) tv m st
  two : 2 ≤ w.heap.size
theorem FB.drew {w W : World} {ca cb : Array Value} {tv : Option Nat} {m : List Mill.En} {st : Mill.St} (h : FB w W ca cb tv m st) : FB w W.drew ca cb tv m st := ⟨h.a, h.b, h.u.drew, h.t, h.m, h.two⟩
theorem FB.below {w W W' : World} {ca cb : Array Value} {tv : Option Nat} {m : List Mill.En} {st : Mill.St} (h : FB w W ca cb tv m st) (hb : Below W.heap.size W W') : FB w W' ca cb tv m st :=
  ⟨h.a.below hb h.a.lt, h.b.below hb h.b.lt, h.u.trans (hb.mono h.u.size), h.t.below hb h.t.2.2, h.m.below hb, h.two⟩
theorem FB.step {w W W' : World} {ca cb : Array Value} {tv : Option Nat} {m : List Mill.En} {st st' : Mill.St} (h : FB w W ca cb tv m st) (hm : MillTv W' (w.heap.size + 2 + 1) (w.heap.size + 2) tv m st') (hv : Mv W W' [w.heap.size + 2 + 1, w.heap.size + 2]) : FB w W' ca cb tv m st' := by
  have h2 := h.two
  exact ⟨hv.has h.a (by simp only [List.mem_cons, List.not_mem_nil, or_false]; omega), hv.has h.b (by simp only [List.mem_cons, List.not_mem_nil, or_false]; omega), slip_tied hv (by omega) (by omega) h.u.size h.u, hv.tabs2 h.t (by omega) (by omega), hm, h2⟩
theorem FB.setA {w W W' : World} {ca cb ca' : Array Value} {tv : Option Nat} {m : List Mill.En} {st : Mill.St} (h : FB w W ca cb tv m st) (ho : Only W W' w.heap.size) (hh : Has W' w.heap.size 44 ca') : FB w W' ca' cb tv m st := by
  have h2 := h.two
  have hv := Mv.of_only ho (s := [w.heap.size]) (by simp)
  have hap := h.m.apart h.a
  exact ⟨hh, ho.has h.b (by omega), ho.below h.u h.u.size (Nat.le_refl _), hv.tabs h.t (fun x hx => by simp only [List.mem_cons, List.not_mem_nil, or_false] at hx; omega),
    h.m.mv hv (by simp only [List.mem_cons, List.not_mem_nil, or_false]; omega) (by simp only [List.mem_cons, List.not_mem_nil, or_false]; omega) (fun b hb => by have := hap b hb; simpa using this), h2⟩
theorem FB.setB {w W W' : World} {ca cb cb' : Array Value} {tv : Option Nat} {m : List Mill.En} {st : Mill.St} (h : FB w W ca cb tv m st) (ho : Only W W' (w.heap.size + 1)) (hh : Has W' (w.heap.size + 1) 44 cb') : FB w W' ca cb' tv m st := by
  have h2 := h.two
  have hv := Mv.of_only ho (s := [w.heap.size + 1]) (by simp)
  have hap := h.m.apart h.b
  exact ⟨ho.has h.a (by omega), hh, ho.below h.u h.u.size (by omega), hv.tabs h.t (fun x hx => by simp only [List.mem_cons, List.not_mem_nil, or_false] at hx; omega),
    h.m.mv hv (by simp only [List.mem_cons, List.not_mem_nil, or_false]; omega) (by simp only [List.mem_cons, List.not_mem_nil, or_false]; omega) (fun b hb => by have := hap b hb; simpa using this), h2⟩
theorem up2' {w : World} (A B : Obj) : Below w.heap.size w ((w.alloc A).alloc B) := ((Below.refl _ w).alloc (Nat.le_refl _) A).alloc ((Below.refl _ w).alloc (Nat.le_refl _) A).size B
set_option maxHeartbeats 4000000 in
set_option maxRecDepth 100000 in
theorem pledgeApart_cut (A : Option Addr) (m : List Mill.En) (n0 cap : Nat) (ai0 an0 ax0 av0 bi0 bn0 bs0 bv0 : List UInt8) (hm10 : m.length ≤ 10) (hfit : Mill.fit m) (w : World) (hE : Ents w A m) (hT : Tabs w)
    (hcut : (n0 = m.length ∧ ¬ (10 : Int) < (n0 : Int)) ∨ ((10 : Int) < (n0 : Int) ∧ m.length = 10 ∧ (10 : Int) ≤ (cap : Int))) (hncap : (n0 : Int) ≤ (cap : Int)) (hcm : (cap : Int) ≤ 9223372036854775807) :
    Calls Tryd.prog 8 #[.slice A n0 cap, .agg #[.string (S ai0), .string (S an0), .string (S ax0), .string (S av0)], .agg #[.string (S bi0), .string (S bn0), .string (S bs0), .string (S bv0)]] w fun e w' => e = .returned (.bool true) ∧ Below w.heap.size w w' := by
  have hCut := fun (s t : List UInt8) (h : s.take 300 = t) W => (show Calls Tryd.prog 11 #[.string (S s)] W fun e w' => e = .returned (.string (S t)) ∧ w' = W by rw [← h]; exact (plgCut_any s W).mono fun e w' hh => ⟨hh.1, hh.2.symm⟩)
  have a1 := take300 ai0; have a2 := take300 an0; have a3 := take300 ax0; have a4 := take300 av0
  have b1 := take300 bi0; have b2 := take300 bn0; have b3 := take300 bs0; have b4 := take300 bv0
  have A1 := fun W => hCut ai0 _ rfl W
  have A2 := fun W => hCut an0 _ rfl W
  have A3 := fun W => hCut ax0 _ rfl W
  have A4 := fun W => hCut av0 _ rfl W
  have B1 := fun W => hCut bi0 _ rfl W
  have B2 := fun W => hCut bn0 _ rfl W
  have B3 := fun W => hCut bs0 _ rfl W
  have B4 := fun W => hCut bv0 _ rfl W
  clear hCut
  generalize ai0.take 300 = ai at a1 A1
  generalize an0.take 300 = an at a2 A2
  generalize ax0.take 300 = ax at a3 A3
  generalize av0.take 300 = av at a4 A4
  generalize bi0.take 300 = bi at b1 B1
  generalize bn0.take 300 = bn at b2 B2
  generalize bs0.take 300 = bs at b3 B3
  generalize bv0.take 300 = bv at b4 B4
  have HCA := Lib.hid (And.intro A1 (And.intro A2 (And.intro A3 A4))); clear A1 A2 A3 A4
  have HCB := Lib.hid (And.intro B1 (And.intro B2 (And.intro B3 B4))); clear B1 B2 B3 B4
  have hO1 : Mill.right m = true → ∀ W ca cb tv st, FB w W ca cb tv m st → st.sums ≤ 10 → Calls Tryd.prog 12 #[.pointer (some ⟨w.heap.size + 2 + 1, 0, none⟩), .string (S ai), .string (S an), .string (S ax), .string (S av)] W (SumPostT W (w.heap.size + 2 + 1) (w.heap.size + 2) tv m (Mill.step m (Plg.of ai an ax av) st) (Mill.hash m (Plg.of ai an ax av))) := fun hr W ca cb tv st h hs =>
    plgOf_any _ _ tv m st W ai an ax av h.m (by omega) (by omega) (by omega) (by omega) (by omega) hr h.t (by omega)
  have hO2 : Mill.right m = true → ∀ W ca cb tv st, FB w W ca cb tv m st → st.sums ≤ 10 → Calls Tryd.prog 12 #[.pointer (some ⟨w.heap.size + 2 + 1, 0, none⟩), .string (S bi), .string (S bn), .string (S bs), .string (S bv)] W (SumPostT W (w.heap.size + 2 + 1) (w.heap.size + 2) tv m (Mill.step m (Plg.of bi bn bs bv) st) (Mill.hash m (Plg.of bi bn bs bv))) := fun hr W ca cb tv st h hs =>
    plgOf_any _ _ tv m st W bi bn bs bv h.m (by omega) (by omega) (by omega) (by omega) (by omega) hr h.t (by omega)
  have hfin : (ai = bi ∧ an = bn ∧ ax = bs ∧ av = bv) ∨ (¬ (ai = bi ∧ an = bn ∧ ax = bs ∧ av = bv) ∧ (Mill.hash m (Plg.of ai an ax av) == Mill.hash m (Plg.of bi bn bs bv)) = false) ∨
      (¬ (ai = bi ∧ an = bn ∧ ax = bs ∧ av = bv) ∧ (Mill.hash m (Plg.of ai an ax av) == Mill.hash m (Plg.of bi bn bs bv)) = true ∧ (Mill.step m (Plg.of bi bn bs bv) (Mill.step m (Plg.of ai an ax av) Mill.fresh)).met = true ∧
        ((Mill.step m (Plg.of bi bn bs bv) (Mill.step m (Plg.of ai an ax av) Mill.fresh)).a == (Mill.step m (Plg.of bi bn bs bv) (Mill.step m (Plg.of ai an ax av) Mill.fresh)).b) = false) := by
    by_cases he : ai = bi ∧ an = bn ∧ ax = bs ∧ av = bv
    · exact Or.inl he
    · refine Or.inr ?_
      by_cases hx : Mill.hash m (Plg.of ai an ax av) = Mill.hash m (Plg.of bi bn bs bv)
      · refine Or.inr ⟨he, by simpa using hx, ?_⟩
        have hne : Plg.of ai an ax av ≠ Plg.of bi bn bs bv := fun h => he (Plg.of_inj a1 a2 a3 a4 b1 b2 b3 b4 h)
        obtain ⟨h1, h2⟩ := Mill.twins_met m _ _ hne hx
        exact ⟨h1, by simpa using h2⟩
      · exact Or.inl ⟨he, by simpa using hx⟩
  have hst : ∀ s st, (Mill.step m s st).sums = st.sums + 1 := fun s st => Mill.step_sums _ _ _
  generalize Mill.hash m (Plg.of ai an ax av) = xa at hO1 hfin
  generalize Mill.hash m (Plg.of bi bn bs bv) = xb at hO2 hfin
  generalize Plg.of ai an ax av = ta at hO1 hfin
  generalize Plg.of bi bn bs bv = tb at hO2 hfin
  generalize Mill.step m = step at hO1 hO2 hfin hst
  have HO1 := Lib.hid hO1; clear hO1
  have HO2 := Lib.hid hO2; clear hO2
  have HFIN := Lib.hid hfin; clear hfin
  have HST := Lib.hid hst; clear hst
  clear a1 a2 a3 a4 b1 b2 b3 b4
  have hu := up2' (w := w) (.cells #[.string (S ai0), .string (S an0), .string (S ax0), .string (S av0)] 44) (.cells #[.string (S bi0), .string (S bn0), .string (S bs0), .string (S bv0)] 44)
  have hA := (Has.made w 44 #[.string (S ai0), .string (S an0), .string (S ax0), .string (S av0)]).of_alloc (.cells #[.string (S bi0), .string (S bn0), .string (S bs0), .string (S bv0)] 44)
  have hB := Has.made (w.alloc (.cells #[.string (S ai0), .string (S an0), .string (S ax0), .string (S av0)] 44)) 44 #[.string (S bi0), .string (S bn0), .string (S bs0), .string (S bv0)]
  have hz1 : (w.alloc (.cells #[.string (S ai0), .string (S an0), .string (S ax0), .string (S av0)] 44)).heap.size = w.heap.size + 1 := by simp
  have hz2 : ((w.alloc (.cells #[.string (S ai0), .string (S an0), .string (S ax0), .string (S av0)] 44)).alloc (.cells #[.string (S bi0), .string (S bn0), .string (S bs0), .string (S bv0)] 44)).heap.size = w.heap.size + 2 := by simp
  rw [hz1] at hB
  have hTT := hT.below hu hT.2.2
  have hWi := with_any A m cap (by omega) hfit ((w.alloc (.cells #[.string (S ai0), .string (S an0), .string (S ax0), .string (S av0)] 44)).alloc (.cells #[.string (S bi0), .string (S bn0), .string (S bs0), .string (S bv0)] 44)) (hE.below hu) hTT
  unfold WithPost at hWi
  rw [hz2] at hWi
  have H := Lib.hid (And.intro hA (And.intro hB (And.intro hu hTT)))
  have HW := Lib.hid hWi
  have h2 := hT.2.2
  clear hA hB hu hTT hWi hz1 hz2 hE hT hfit
  rcases hcut with ⟨rfl, h10⟩ | ⟨h10, hl, hc10⟩
  case' inr => rw [hl] at HW
  all_goals
    go_enter Tryd.func8, Tryd.ntmps8
    go_upto_region 3 with (fail)
    generalize (w.alloc (.cells #[.string (S ai0), .string (S an0), .string (S ax0), .string (S av0)] 44)).alloc (.cells #[.string (S bi0), .string (S bn0), .string (S bs0), .string (S bv0)] 44) = W0 at H HW ⊢
    go_wp2_with fail
    refine HW.out.mono ?_
    rintro r1 w1 ⟨hb1, ⟨hr, rfl, hm1⟩ | ⟨hr, rfl⟩⟩
    case' inr =>
      have HA := Lib.hid (awakePlg_any w1 (H.out.2.2.2.below hb1 (by omega)))
      have hb2 := H.out.2.2.1.trans (hb1.mono (by omega))
      clear HFIN
      go_wp2_with fail
      refine HA.out.mono ?_
      rintro r w6 ⟨rfl, hb⟩
      go_wp2_with fail
      go_ret
      exact ⟨rfl, hb2.trans (hb.mono hb2.size)⟩
    case' inl =>
      go_upto_region 6 with (fail)
      obtain ⟨tv, hm1⟩ := hm1
      have H' : FB w w1 #[.string (S ai0), .string (S an0), .string (S ax0), .string (S av0)] #[.string (S bi0), .string (S bn0), .string (S bs0), .string (S bv0)] tv m Mill.fresh :=
        ⟨H.out.1.below hb1 (by omega), H.out.2.1.below hb1 (by omega), H.out.2.2.1.trans (hb1.mono (by omega)), H.out.2.2.2.below hb1 (by omega), hm1, h2⟩
      replace H := Lib.hid H'
      clear hb1 hm1 H' HW
      have c0 : w1.drew.cell? ⟨w.heap.size, 0, none⟩ = some (.string (S ai0)) := H.out.a.cell 0
      have c1 : w1.drew.cell? ⟨w.heap.size, 1, none⟩ = some (.string (S an0)) := H.out.a.cell 1
      have c2 : w1.drew.cell? ⟨w.heap.size, 2, none⟩ = some (.string (S ax0)) := H.out.a.cell 2
      have c3 : w1.drew.cell? ⟨w.heap.size, 3, none⟩ = some (.string (S av0)) := H.out.a.cell 3
      go_still_tail 13, (by kernel_rfl)
      still_call (HCA.out.1 _)
      repeat still_step
      still_call (HCA.out.2.1 _)
      repeat still_step
      still_call (HCA.out.2.2.1 _)
      repeat still_step
      still_call (HCA.out.2.2.2 _)
      repeat still_step
      refine wpStill_nil ?_
      change wpList _ _ _ _ _ w1.drew
      replace H := Lib.hid H.out.drew
      have f0 : w1.drew.frozen? ⟨w.heap.size, 0, none⟩ = false := H.out.a.free 0
      have f1 : w1.drew.frozen? ⟨w.heap.size, 1, none⟩ = false := H.out.a.free 1
      have f2 : w1.drew.frozen? ⟨w.heap.size, 2, none⟩ = false := H.out.a.free 2
      have f3 : w1.drew.frozen? ⟨w.heap.size, 3, none⟩ = false := H.out.a.free 3
      generalize w1.drew = W1 at H c0 c1 c2 c3 f0 f1 f2 f3 ⊢
      go_upto_region 7 with (fail)
      replace H := Lib.hid (H.out.setA (f4_only W1 (w.heap.size) (.string (S ai)) (.string (S an)) (.string (S ax)) (.string (S av))) (f4_set H.out.a _ _ _ _))
      clear c0 c1 c2 c3 f0 f1 f2 f3
      generalize ((((W1.setCell ⟨w.heap.size, 0, none⟩ (.string (S ai))).setCell ⟨w.heap.size, 1, none⟩ (.string (S an))).setCell ⟨w.heap.size, 2, none⟩ (.string (S ax))).setCell ⟨w.heap.size, 3, none⟩ (.string (S av))) = W1' at H ⊢
      have c0 : W1'.drew.cell? ⟨w.heap.size + 1, 0, none⟩ = some (.string (S bi0)) := H.out.b.cell 0
      have c1 : W1'.drew.cell? ⟨w.heap.size + 1, 1, none⟩ = some (.string (S bn0)) := H.out.b.cell 1
      have c2 : W1'.drew.cell? ⟨w.heap.size + 1, 2, none⟩ = some (.string (S bs0)) := H.out.b.cell 2
      have c3 : W1'.drew.cell? ⟨w.heap.size + 1, 3, none⟩ = some (.string (S bv0)) := H.out.b.cell 3
      go_still_tail 13, (by kernel_rfl)
      still_call (HCB.out.1 _)
      repeat still_step
      still_call (HCB.out.2.1 _)
      repeat still_step
      still_call (HCB.out.2.2.1 _)
      repeat still_step
      still_call (HCB.out.2.2.2 _)
      repeat still_step
      refine wpStill_nil ?_
      change wpList _ _ _ _ _ W1'.drew
      replace H := Lib.hid H.out.drew
      have f0 : W1'.drew.frozen? ⟨w.heap.size + 1, 0, none⟩ = false := H.out.b.free 0
      have f1 : W1'.drew.frozen? ⟨w.heap.size + 1, 1, none⟩ = false := H.out.b.free 1
      have f2 : W1'.drew.frozen? ⟨w.heap.size + 1, 2, none⟩ = false := H.out.b.free 2
      have f3 : W1'.drew.frozen? ⟨w.heap.size + 1, 3, none⟩ = false := H.out.b.free 3
      generalize W1'.drew = W2 at H c0 c1 c2 c3 f0 f1 f2 f3 ⊢
      go_upto_region 8 with (fail)
      replace H := Lib.hid (H.out.setB (f4_only W2 (w.heap.size + 1) (.string (S bi)) (.string (S bn)) (.string (S bs)) (.string (S bv))) (f4_set H.out.b _ _ _ _))
      clear c0 c1 c2 c3 f0 f1 f2 f3
      generalize ((((W2.setCell ⟨w.heap.size + 1, 0, none⟩ (.string (S bi))).setCell ⟨w.heap.size + 1, 1, none⟩ (.string (S bn))).setCell ⟨w.heap.size + 1, 2, none⟩ (.string (S bs))).setCell ⟨w.heap.size + 1, 3, none⟩ (.string (S bv))) = W2' at H ⊢
      have hs0 : Mill.fresh.sums = 0 := rfl
      have hfin := HFIN.out
      clear HFIN
      generalize Mill.fresh = fr at H hs0 hfin
      have c0 := H.out.a.cell 0; have c1 := H.out.a.cell 1; have c2 := H.out.a.cell 2; have c3 := H.out.a.cell 3
      go_wp2_with fail
      refine (HO1.out hr _ _ _ _ _ H.out (by omega)).mono ?_
      rintro r w3 ⟨rfl, hm, hv⟩
      replace H := Lib.hid (H.out.step hm hv); clear hm hv c0 c1 c2 c3
      have hs1 : (step ta fr).sums ≤ 1 := by rw [HST.out]; omega
      generalize step ta fr = st1 at H hs1 hfin
      have c0 := H.out.b.cell 0; have c1 := H.out.b.cell 1; have c2 := H.out.b.cell 2; have c3 := H.out.b.cell 3
      go_wp2_with fail
      refine (HO2.out hr _ _ _ _ _ H.out (by omega)).mono ?_
      rintro r w4 ⟨rfl, hm, hv⟩
      replace H := Lib.hid (H.out.step hm hv); clear hm hv c0 c1 c2 c3
      generalize step tb st1 = st2 at H hfin
      go_wp2_with fail
      refine (twins_any _ _ _ _ _ H.out.m.at).mono ?_
      rintro r w5 ⟨rfl, hb⟩
      replace H := Lib.hid (H.out.below hb); clear hb
      have HA := Lib.hid (awakePlg_any w5 H.out.t)
      have c0 := H.out.a.cell 0; have c1 := H.out.a.cell 1; have c2 := H.out.a.cell 2; have c3 := H.out.a.cell 3
      have d0 := H.out.b.cell 0; have d1 := H.out.b.cell 1; have d2 := H.out.b.cell 2; have d3 := H.out.b.cell 3
      have hE := fun W => run_f4eq ai an ax av bi bn bs bv W
      have hG := fun op o1 o2 W => run_f4guard op o1 o2 #[.string (S ai), .string (S an), .string (S ax), .string (S av)] #[.string (S bi), .string (S bn), .string (S bs), .string (S bv)] W
      rcases hfin with he | ⟨he, hx⟩ | ⟨he, hx, hmet, hne⟩
      case' inl => rw [decide_eq_true he] at hE
      case' inr.inl => rw [decide_eq_false he] at hE
      case' inr.inr => rw [decide_eq_false he, ] at hE; rw [hmet]
      all_goals
        clear he
        go_wp2_with fail
        refine HA.out.mono ?_
        rintro r w6 ⟨rfl, hb⟩
        go_wp2_with fail
        go_ret
        exact ⟨rfl, (H.out.below hb).u⟩

theorem pledgeApart_any (A : Option Addr) (l : List Mill.En) (cap : Nat) (a b : Four) (hlc : l.length ≤ cap) (hcm : cap ≤ maxLen) (hfit : Mill.fit l) (w : World) (hE : Ents w A l) (hT : Tabs w) :
    Calls Tryd.prog 8 #[.slice A l.length cap, .agg a.cs, .agg b.cs] w fun e w' => e = .returned (.bool true) ∧ Below w.heap.size w w' := by
  have hmax : maxLen = 9223372036854775807 := rfl
  refine pledgeApart_cut A (l.take 10) l.length cap a.i a.n a.s a.v b.i b.n b.s b.v (by rw [List.length_take]; omega) (fun e he => hfit e (List.mem_of_mem_take he)) w (hE.take 10) hT ?_ (by omega) (by omega)
  by_cases h : 10 < l.length
  · refine Or.inr ⟨by omega, by rw [List.length_take]; omega, by omega⟩
  · refine Or.inl ⟨by rw [List.length_take]; omega, by omega⟩

set_option maxRecDepth 100000 in
theorem pledgeApart_contract {H : Type} (enc : TypeId × Value → H) (W : World) (base : Nat) (args : Array Value) (ds gs : List (DataW H)) (before : List MemPlace)
    (hval : ∀ (j : Nat) t v, Tryd.f8.params[j]? = some t → args[j]? = some v → Value.okWide Tryd.prog W .any base t v)
    (hW : DataW.Whole enc Tryd.prog Tryd.f8.params.toList Rows.pledgeApartSpec.vars false W args.toList ds gs before)
    (hsz : (DataW.weightsEach Tryd.prog (Tryd.f8.params.toList ++ Rows.pledgeApartSpec.plain.varTypes Tryd.prog) (ds ++ gs)).all (· ≤ reachBytes) = true) (hT : Tabs W) :
    Calls Tryd.prog 8 args W fun e W' =>
      ((Rows.pledgeApartSpec.fn H (ds ++ gs)).results = [.lit (.bool true)] ∧ (Rows.pledgeApartSpec.fn H (ds ++ gs)).args = ds ∧ (Rows.pledgeApartSpec.fn H (ds ++ gs)).vars = []) ∧ e = .returned (.bool true) ∧ Below W.heap.size W W' := by
  obtain ⟨p, q, hA0, hV, rfl, hfz, hnd⟩ := hW
  have hA : DataW.TrodAll enc Tryd.prog W 0 (fun _ => true) true Tryd.f8.params.toList args.toList ds p := hA0
  rw [Tryd.params8] at hA hval hsz
  obtain ⟨v0, v1, v2, d0, d1, d2, p0, p1, p2, rfl, rfl, rfl, h0, h1, h2⟩ := trodAll_three hA
  obtain ⟨rfl, rfl⟩ := trodVars_none hV
  obtain ⟨A, len, cap, rfl⟩ := okWide_slice Tryd.underlying42 (hval 0 42 v0 rfl rfl)
  obtain ⟨a, rfl⟩ := four_open (hval 1 44 v1 rfl rfl) h1
  obtain ⟨b, rfl⟩ := four_open (hval 2 44 v2 rfl rfl) h2
  obtain ⟨fuel, hf⟩ := h0
  have hreach : reachBytes ≤ 1000000000000000 := by decide
  obtain ⟨l, rfl, hE, hfit, hlc, hcm⟩ := ents_open hf (fun n hn => by
    have h := List.all_eq_true.1 hsz n (DataW.weights_mem_each (j := 0) (t := 42) (d := d0) rfl rfl n hn)
    exact Nat.le_trans (by simpa using h) hreach)
  exact (pledgeApart_any A l cap a b hlc hcm hfit W hE hT).mono fun e W' h => ⟨⟨rfl, rfl, rfl⟩, h⟩
end Go.Proofs.YtlbdpadifhgloaaDoor
