/-
  EvGm: the texts EvG, EvRefH, StaMade in one.
-/
import Derived.Test.YtojemaaljjibiaaPEvFewE
import Derived.Test.YtojemaaljjibiaaPEvRefs
import Derived.Test.YtojemaaljjibiaaPQWQ
import Derived.Test.YtojemaaljjibiaaPArgs
import Derived.Test.YtojemaaljjibiaaPEvSmall
namespace Go.Proofs.Ytojemaaljjibiaa
open Go.RowKit
set_option linter.unusedVariables false

set_option maxHeartbeats 16000000 in
set_option maxRecDepth 100000 in
theorem fewV_any {w : World} {v : Evt} {A B : Option Addr} {ca cb : Nat} (hin : EntIn w [] v.ent A ca B cb) (s : List Nat) (hs : ∀ x ∈ s, x < w.heap.size) :
    Calls Try.prog 10 #[v.val A ca B cb] w fun e w' => ∃ (A B : Option Addr) (ca cb : Nat), e = .returned ((Ev.few v).val A ca B cb) ∧ EntIn w' s (Ev.few v).ent A ca B cb ∧ Below w.heap.size w w' := by
  unfold Evt.val
  have hbb : Below w.heap.size w ((w.alloc (.cells #[.int .i64 v.kind, .string (S v.ent.id), .int .i64 v.ent.cls, .int .i64 v.ent.born, .int .i64 v.ent.slot, .slice A v.ent.L.length ca, .bool v.ent.gone, .slice B v.ent.H.length cb, .int .i64 v.seq, .int .i64 v.idx, .string (S v.name), .int .i64 v.size, .string (S v.root), .int .i64 v.now] 37)).alloc (.cells #[.int .i64 0, .string ⟨#[]⟩, .int .i64 0, .int .i64 0, .int .i64 0, .slice none 0 0, .bool false, .slice none 0 0, .int .i64 0, .int .i64 0, .string ⟨#[]⟩, .int .i64 0, .string ⟨#[]⟩, .int .i64 0] 37)) := evtUp w _ _
  have HE := Lib.hid (fun (W : World) (s : List Nat) hb hs => fewE_any (w := W) (EntIn.at hin (W := W) hb (s := []) (fun x hx => by cases hx)) s hs)
  have HC1 := Lib.hid (fun W => ecut_any v.name W)
  have HC2 := Lib.hid (fun W => ecut_any v.root W)
  have hh := (Has.made w 37 #[.int .i64 v.kind, .string (S v.ent.id), .int .i64 v.ent.cls, .int .i64 v.ent.born, .int .i64 v.ent.slot, .slice A v.ent.L.length ca, .bool v.ent.gone, .slice B v.ent.H.length cb, .int .i64 v.seq, .int .i64 v.idx, .string (S v.name), .int .i64 v.size, .string (S v.root), .int .i64 v.now]).below ((Below.refl _ (w.alloc (.cells #[.int .i64 v.kind, .string (S v.ent.id), .int .i64 v.ent.cls, .int .i64 v.ent.born, .int .i64 v.ent.slot, .slice A v.ent.L.length ca, .bool v.ent.gone, .slice B v.ent.H.length cb, .int .i64 v.seq, .int .i64 v.idx, .string (S v.name), .int .i64 v.size, .string (S v.root), .int .i64 v.now] 37))).alloc (Nat.le_refl _) (.cells #[.int .i64 0, .string ⟨#[]⟩, .int .i64 0, .int .i64 0, .int .i64 0, .slice none 0 0, .bool false, .slice none 0 0, .int .i64 0, .int .i64 0, .string ⟨#[]⟩, .int .i64 0, .string ⟨#[]⟩, .int .i64 0] 37)) (by rw [asize]; omega)
  have hz := evtNew w (.cells #[.int .i64 v.kind, .string (S v.ent.id), .int .i64 v.ent.cls, .int .i64 v.ent.born, .int .i64 v.ent.slot, .slice A v.ent.L.length ca, .bool v.ent.gone, .slice B v.ent.H.length cb, .int .i64 v.seq, .int .i64 v.idx, .string (S v.name), .int .i64 v.size, .string (S v.root), .int .i64 v.now] 37) #[.int .i64 0, .string ⟨#[]⟩, .int .i64 0, .int .i64 0, .int .i64 0, .slice none 0 0, .bool false, .slice none 0 0, .int .i64 0, .int .i64 0, .string ⟨#[]⟩, .int .i64 0, .string ⟨#[]⟩, .int .i64 0]
  have hsz : ((w.alloc (.cells #[.int .i64 v.kind, .string (S v.ent.id), .int .i64 v.ent.cls, .int .i64 v.ent.born, .int .i64 v.ent.slot, .slice A v.ent.L.length ca, .bool v.ent.gone, .slice B v.ent.H.length cb, .int .i64 v.seq, .int .i64 v.idx, .string (S v.name), .int .i64 v.size, .string (S v.root), .int .i64 v.now] 37)).alloc (.cells #[.int .i64 0, .string ⟨#[]⟩, .int .i64 0, .int .i64 0, .int .i64 0, .slice none 0 0, .bool false, .slice none 0 0, .int .i64 0, .int .i64 0, .string ⟨#[]⟩, .int .i64 0, .string ⟨#[]⟩, .int .i64 0] 37)).heap.size = w.heap.size + 2 := by rw [asize, asize]
  have hFE : ∀ E : Ent, E = Ev.fewE v.ent → Ev.few v = { v with ent := E, name := v.name.take 300, root := v.root.take 300 } := fun E h => by rw [h]; rfl
  have HFE := Lib.hid hFE
  clear hin hFE
  obtain ⟨kind, ⟨id, cls, born, slot, L, gone, H⟩, seq, idx, name, size, root, now⟩ := v
  dsimp only at *
  have hFE0 : Ev.fewE ⟨id, cls, born, slot, L, gone, H⟩ = ⟨id.take 300, cls, born, slot, Ev.slipsK L 20, gone, Ev.holdsK H 20⟩ := rfl
  have HFE0 := Lib.hid hFE0
  clear hFE0
  generalize Ev.slipsK L 20 = L1 at *
  generalize Ev.holdsK H 20 = M1 at *
  obtain ⟨res, hres⟩ : ∃ r, r = Ev.few ⟨kind, ⟨id, cls, born, slot, L, gone, H⟩, seq, idx, name, size, root, now⟩ := ⟨_, rfl⟩
  rw [← hres] at HFE ⊢
  clear hres
  generalize name.take 300 = yn at *
  generalize root.take 300 = yr at *
  go_enter Try.func10, Try.ntmps10
  go_upto_region 1 with fail
  generalize (w.alloc (.cells #[.int .i64 kind, .string (S id), .int .i64 cls, .int .i64 born, .int .i64 slot, .slice A L.length ca, .bool gone, .slice B H.length cb, .int .i64 seq, .int .i64 idx, .string (S name), .int .i64 size, .string (S root), .int .i64 now] 37)).alloc (.cells #[.int .i64 0, .string ⟨#[]⟩, .int .i64 0, .int .i64 0, .int .i64 0, .slice none 0 0, .bool false, .slice none 0 0, .int .i64 0, .int .i64 0, .string ⟨#[]⟩, .int .i64 0, .string ⟨#[]⟩, .int .i64 0] 37) = W0 at hh hz hbb hsz ⊢
  have HB0 := Lib.hid hbb
  have HE0 : Hid (_ : Prop) := Lib.hid (HE.out W0 (w.heap.size :: (w.heap.size + 1) :: s) hbb (by
    intro x hx
    rcases List.mem_cons.1 hx with rfl | hx
    · omega
    rcases List.mem_cons.1 hx with rfl | hx
    · omega
    have := hs x hx
    omega))
  clear hbb HE hs
  obtain ⟨b0, hb0⟩ : ∃ b0, w.heap.size = b0 := ⟨_, rfl⟩
  rw [hb0] at hh hz hsz HE0 ⊢
  have y1 : W0.cell? ⟨b0, 1, none⟩ = some (.string (S id)) := hh.cell 1
  have y2 : W0.cell? ⟨b0, 2, none⟩ = some (.int .i64 cls) := hh.cell 2
  have y3 : W0.cell? ⟨b0, 3, none⟩ = some (.int .i64 born) := hh.cell 3
  have y4 : W0.cell? ⟨b0, 4, none⟩ = some (.int .i64 slot) := hh.cell 4
  have y5 : W0.cell? ⟨b0, 5, none⟩ = some (.slice A L.length ca) := hh.cell 5
  have y6 : W0.cell? ⟨b0, 6, none⟩ = some (.bool gone) := hh.cell 6
  have y7 : W0.cell? ⟨b0, 7, none⟩ = some (.slice B H.length cb) := hh.cell 7
  have HH := Lib.hid hh
  have HZ := Lib.hid hz
  have HSZ := Lib.hid hsz
  clear hh hz hsz
  go_wp2_with fail
  refine HE0.out.mono ?_
  rintro r w1 ⟨A1, B1, ca1, cb1, rfl, hin1, hb1⟩
  rw [HFE0.out] at hin1
  have hh1 := HH.out.below hb1 (by have := HSZ.out; omega)
  have hz1 := HZ.out.below hb1 (by have := HSZ.out; omega)
  have HB1 := Lib.hid (HB0.out.trans (hb1.mono HB0.out.size))
  have HIN1 := Lib.hid hin1
  clear hin1 hb1 y1 y2 y3 y4 y5 y6 y7 HH HZ HB0 HE0
  have d1 : w1.cell? ⟨b0, 1, none⟩ = some (.string (S id)) := hh1.cell 1
  have d2 : w1.cell? ⟨b0, 2, none⟩ = some (.int .i64 cls) := hh1.cell 2
  have d3 : w1.cell? ⟨b0, 3, none⟩ = some (.int .i64 born) := hh1.cell 3
  have d4 : w1.cell? ⟨b0, 4, none⟩ = some (.int .i64 slot) := hh1.cell 4
  have d5 : w1.cell? ⟨b0, 5, none⟩ = some (.slice A L.length ca) := hh1.cell 5
  have d6 : w1.cell? ⟨b0, 6, none⟩ = some (.bool gone) := hh1.cell 6
  have d7 : w1.cell? ⟨b0, 7, none⟩ = some (.slice B H.length cb) := hh1.cell 7
  have f1 := hh1.free 1
  have f2 := hh1.free 2
  have f3 := hh1.free 3
  have f4 := hh1.free 4
  have f5 := hh1.free 5
  have f6 := hh1.free 6
  have f7 := hh1.free 7
  have hh2 : Has (((((((w1.setCell ⟨b0, 1, none⟩ (.string (S (id.take 300)))).setCell ⟨b0, 2, none⟩ (.int .i64 cls)).setCell ⟨b0, 3, none⟩ (.int .i64 born)).setCell ⟨b0, 4, none⟩ (.int .i64 slot)).setCell ⟨b0, 5, none⟩ (.slice A1 L1.length ca1)).setCell ⟨b0, 6, none⟩ (.bool gone)).setCell ⟨b0, 7, none⟩ (.slice B1 M1.length cb1)) b0 37 #[.int .i64 kind, .string (S (id.take 300)), .int .i64 cls, .int .i64 born, .int .i64 slot, .slice A1 L1.length ca1, .bool gone, .slice B1 M1.length cb1, .int .i64 seq, .int .i64 idx, .string (S name), .int .i64 size, .string (S root), .int .i64 now] := by
    simpa using ((((((hh1.set 1 (.string (S (id.take 300)))).set 2 (.int .i64 cls)).set 3 (.int .i64 born)).set 4 (.int .i64 slot)).set 5 (.slice A1 L1.length ca1)).set 6 (.bool gone)).set 7 (.slice B1 M1.length cb1)
  have ho2 : Only w1 (((((((w1.setCell ⟨b0, 1, none⟩ (.string (S (id.take 300)))).setCell ⟨b0, 2, none⟩ (.int .i64 cls)).setCell ⟨b0, 3, none⟩ (.int .i64 born)).setCell ⟨b0, 4, none⟩ (.int .i64 slot)).setCell ⟨b0, 5, none⟩ (.slice A1 L1.length ca1)).setCell ⟨b0, 6, none⟩ (.bool gone)).setCell ⟨b0, 7, none⟩ (.slice B1 M1.length cb1)) b0 :=
    ((((((Only.set w1 b0 1 _).trans (Only.set _ b0 2 _)).trans (Only.set _ b0 3 _)).trans (Only.set _ b0 4 _)).trans (Only.set _ b0 5 _)).trans (Only.set _ b0 6 _)).trans (Only.set _ b0 7 _)
  have HZ2 := Lib.hid (ho2.has hz1 (by omega : b0 + 1 ≠ b0))
  have HO2 := Lib.hid ho2
  have HH2 := Lib.hid hh2
  clear hh1 hz1 hh2 ho2
  go_upto_region 2 with fail
  clear d1 d2 d3 d4 d5 d6 d7 f1 f2 f3 f4 f5 f6 f7
  generalize ((((((w1.setCell ⟨b0, 1, none⟩ (.string (S (id.take 300)))).setCell ⟨b0, 2, none⟩ (.int .i64 cls)).setCell ⟨b0, 3, none⟩ (.int .i64 born)).setCell ⟨b0, 4, none⟩ (.int .i64 slot)).setCell ⟨b0, 5, none⟩ (.slice A1 L1.length ca1)).setCell ⟨b0, 6, none⟩ (.bool gone)).setCell ⟨b0, 7, none⟩ (.slice B1 M1.length cb1) = W2 at HZ2 HO2 HH2 ⊢
  have d10 : W2.cell? ⟨b0, 10, none⟩ = some (.string (S name)) := HH2.out.cell 10
  have f10 := HH2.out.free 10
  go_wp2_with fail
  refine (HC1.out _).mono ?_
  rintro r w3 ⟨rfl, e3⟩
  rw [e3]
  clear e3 w3
  have HH3 : Hid (Has (W2.setCell ⟨b0, 10, none⟩ (.string (S yn))) b0 37 #[.int .i64 kind, .string (S (id.take 300)), .int .i64 cls, .int .i64 born, .int .i64 slot, .slice A1 L1.length ca1, .bool gone, .slice B1 M1.length cb1, .int .i64 seq, .int .i64 idx, .string (S yn), .int .i64 size, .string (S root), .int .i64 now]) := Lib.hid (by simpa using HH2.out.set 10 (.string (S yn)))
  have HO3 := Lib.hid (HO2.out.trans (Only.set W2 b0 10 (.string (S yn))))
  have HZ3 := Lib.hid ((Only.set W2 b0 10 (.string (S yn))).has HZ2.out (by omega : b0 + 1 ≠ b0))
  clear HZ2 HO2 HH2
  go_upto_region 3 with fail
  clear d10 f10
  generalize W2.setCell ⟨b0, 10, none⟩ (.string (S yn)) = W3 at HH3 HO3 HZ3 ⊢
  have d12 : W3.cell? ⟨b0, 12, none⟩ = some (.string (S root)) := HH3.out.cell 12
  have f12 := HH3.out.free 12
  go_wp2_with fail
  refine (HC2.out _).mono ?_
  rintro r w3 ⟨rfl, e3⟩
  rw [e3]
  clear e3 w3
  have HH4 : Hid (Has (W3.setCell ⟨b0, 12, none⟩ (.string (S yr))) b0 37 #[.int .i64 kind, .string (S (id.take 300)), .int .i64 cls, .int .i64 born, .int .i64 slot, .slice A1 L1.length ca1, .bool gone, .slice B1 M1.length cb1, .int .i64 seq, .int .i64 idx, .string (S yn), .int .i64 size, .string (S yr), .int .i64 now]) := Lib.hid (by simpa using HH3.out.set 12 (.string (S yr)))
  have HO4 := Lib.hid (HO3.out.trans (Only.set W3 b0 12 (.string (S yr))))
  have HZ4 := Lib.hid ((Only.set W3 b0 12 (.string (S yr))).has HZ3.out (by omega : b0 + 1 ≠ b0))
  clear HZ3 HO3 HH3
  go_upto_region 4 with fail
  clear d12 f12
  generalize W3.setCell ⟨b0, 12, none⟩ (.string (S yr)) = W4 at HH4 HO4 HZ4 ⊢
  have HRES : Hid (res = _) := Lib.hid (HFE.out _ HFE0.out.symm)
  have HIN4 := Lib.hid (HIN1.out.mv (Mv.of_only HO4.out (s := [b0]) (by simp)) (by simp))
  refine wp_region_lit ?_
  refine wpList_load_row rfl 37 (.tmp 1) rfl b0 ?e1 _ _ _ _ HH4.out Try.underlying37 rfl evtSize ?_
  case e1 => rfl
  refine wpList_store_row rfl 37 (.tmp 2) (.tmp 17) rfl (b0 + 1) #[.int .i64 kind, .string (S (id.take 300)), .int .i64 cls, .int .i64 born, .int .i64 slot, .slice A1 L1.length ca1, .bool gone, .slice B1 M1.length cb1, .int .i64 seq, .int .i64 idx, .string (S yn), .int .i64 size, .string (S yr), .int .i64 now] ?e2 ?e3 _ _ HZ4.out evtSize rfl (by simp [Value.oneCell']) ?_
  case e2 => rfl
  case e3 => rfl
  go_wp2_with fail
  refine ret_evt (p := 2) rfl (b0 + 1) #[.int .i64 kind, .string (S (id.take 300)), .int .i64 cls, .int .i64 born, .int .i64 slot, .slice A1 L1.length ca1, .bool gone, .slice B1 M1.length cb1, .int .i64 seq, .int .i64 idx, .string (S yn), .int .i64 size, .string (S yr), .int .i64 now] rfl rfl (setRow_heap _ _ _ _ _ _ HZ4.out) rfl ?_
  rw [HRES.out]
  exact ⟨A1, B1, ca1, cb1, rfl, (HIN4.out.mv (Mv.of_only (onlySetRow _ _ _) (s := [b0 + 1]) (by simp)) (by simp)).sub (fun x hx => List.mem_cons_of_mem _ (List.mem_cons_of_mem _ hx)), below_setRow (HO4.out.below HB1.out HB1.out.size (by omega)) (by omega) _⟩
end Go.Proofs.Ytojemaaljjibiaa

namespace Go.Proofs.Ytojemaaljjibiaa
open Go.RowKit
set_option linter.unusedVariables false

theorem ptFields : Try.prog.underlying 35 = some (.struct (Try.prog.fieldsOf 35)) := by kernel_rfl
theorem ptStood : Try.prog.stoodInHeld 35 = false := by kernel_rfl
theorem ptGuard : Try.prog.eqGuardType Try.prog.depth 35 = false := by kernel_rfl
abbrev ptv (n : Int) (r : List UInt8) : Value := .agg #[.int .i64 n, .string (S r)]
theorem run_pteq (n : Int) (r : List UInt8) (n' : Int) (r' : List UInt8) (W : World) : (binOp .eql 35 (ptv n r) (ptv n' r')).run Try.prog W = .ok (.bool (decide (n = n' ∧ r = r'))) W := by
  rw [run_eql_struct, run_equalIn_agg W 9999 _ _ _ ptFields ptStood]
  have h1 : ((S r).toList == (S r').toList) = (r == r') := by rw [S_toList, S_toList]
  simp [go_sem, Try.underlying35, Try.underlying3, Try.underlying9]
  by_cases e1 : n = n' <;> by_cases e2 : r = r' <;> simp [e1, e2]
theorem run_ptguard (op : BinOp) (o1 o2 : Operand) (n : Int) (r : List UInt8) (n' : Int) (r' : List UInt8) (W : World) : (eqGuard op 35 o1 o2 (ptv n r) (ptv n' r')).run Try.prog W = .ok () W := run_eqGuard_agg W op _ o1 o2 _ _ ptGuard

end Go.Proofs.Ytojemaaljjibiaa

namespace Go.Proofs.Ytojemaaljjibiaa
open Go.RowKit
set_option linter.unusedVariables false

namespace Sta
theorem step_Q (s : Sta) (v : Evt) : (step s v).Q.length ≤ s.Q.length + 1 := by
  unfold step
  split
  · unfold apply
    repeat' split
    all_goals (simp only [List.length_append, List.length_cons, List.length_nil]; omega)
  · omega
end Sta
/-- The first events of a row, made few. -/
def fews (L : List EvX) (k : Nat) : List Evt := (L.take k).map fun x => Ev.few x.v
theorem RowX.more {w w' : World} {p : Nat} {s s' : List Nat} {A : Option Addr} {M : List EntX} (h : RowX w (p :: s) A M) (hm : Mv w w' (p :: s)) (hs : ∀ y ∈ s', y ∈ s ∨ w.heap.size ≤ y) : RowX w' (p :: s') A M := by
  have key : ∀ {B : Option Addr} {cs : List Value}, RowC w (p :: s) B cs → RowC w' (p :: s') B cs := fun {B cs} hr => by
    have := RowC.more (ot := []) (by rw [List.append_nil]; exact hr) hm hs
    rwa [List.append_nil] at this
  exact ⟨key h.row, fun x hx => ⟨key (h.ents x hx).rl, key (h.ents x hx).rh, (h.ents x hx).la, (h.ents x hx).ma, (h.ents x hx).lb, (h.ents x hx).mb⟩⟩
theorem RowX.none (w : World) (s : List Nat) : RowX w s none [] := ⟨RowC.nil _ _ _, fun x hx => by cases hx⟩
/-- Where a law stands: the state that the first events came to, and papers in a row that it had before. -/
def MadeS (w0 : World) (q : Nat) (st0 : Sta) (L : List EvX) (A0 : Option Addr) (M0 : List EntX) (m k : Nat) (W : World) : Prop :=
  Below w0.heap.size w0 W ∧ ∃ s n, StAt W q s [] (Sta.run st0 (fews L k)) n ∧ n ≤ m + k ∧ (∀ x ∈ q :: s, w0.heap.size ≤ x) ∧ RowX W (q :: s) A0 M0
theorem MadeS.below {w0 w w' : World} {q : Nat} {st0 : Sta} {L : List EvX} {A0 : Option Addr} {M0 : List EntX} {m k : Nat} (h : MadeS w0 q st0 L A0 M0 m k w) (hb : Below w.heap.size w w') : MadeS w0 q st0 L A0 M0 m k w' := by
  obtain ⟨h1, s, n, h2, h3, h4, h5⟩ := h
  exact ⟨h1.trans (hb.mono h1.size), s, n, h2.below hb, h3, h4, h5.below hb⟩
/-- What a law reads of an event in a row. -/
abbrev EvC (W : World) (b o : Nat) (x : EvX) : Prop := ∀ j u, x.cs[j]? = some u → W.cell? ⟨b, o + j, none⟩ = some u
end Go.Proofs.Ytojemaaljjibiaa
