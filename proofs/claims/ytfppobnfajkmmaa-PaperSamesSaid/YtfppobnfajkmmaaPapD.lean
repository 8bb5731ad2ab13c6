/-
  The contract of paper's readField.
-/
import Derived.Test.YtfppobnfajkmmaaPapC
import Derived.Test.YtfppobnfajkmmaaValJ
namespace Go.Proofs.Ytfppobnfajkmmaa
open Go.RowKit Go.Lib
set_option linter.unusedVariables false

/-- A field that lies in a block, handed back. -/
theorem ret_fld {fn : Func} {p : Tmp} {R : Ending → World → Prop} {a : Act} {w : World} (h : fn.results = #[.cell p 40]) (g : Nat) (cs : Array Value)
    (hp : a.tmps.getD p undef = .pointer (some ⟨g, 0, none⟩)) (hd : a.defers = []) (hh : Has w g 40 cs) (hcs : cs.size = 6) (hR : R (.returned (.agg cs)) w) : bodyPost Try.prog fn R .ret a w :=
  bodyPost_ret (v := .agg cs) (results_cell_row h _ _ g 40 cs (0, 0) _ hp hh Try.underlying40 rfl (by rw [hcs]; exact fldSize)) hd hR

namespace Pap
/-- What readField answers. -/
def readF (st : R.St) : Fld × R.St :=
  (⟨(R.text 16 st).1, (Val.readV (R.text 208 (R.text 16 st).2).1).1⟩, R.fail (Val.readV (R.text 208 (R.text 16 st).2).1).2 (R.text 208 (R.text 16 st).2).2)
end Pap
theorem R.text_len (m : Int) (hm : 0 ≤ m) (st : R.St) : ((R.text m st).1.length : Int) ≤ m := by
  have h1 := R.num_le m hm st
  have h2 := R.next_len (R.num m st).1 (R.num m st).2
  show ((R.next (R.num m st).1 (R.num m st).2).1.length : Int) ≤ m
  omega
theorem R.text_rest (m : Int) (st : R.St) : (R.text m st).2.1.length ≤ st.1.length :=
  Nat.le_trans (R.next_rest _ _) (R.num_rest m st)
theorem readV_ok (l : List UInt8) : (Val.readV l).1.ok := by
  have hz : zeroV.ok := ⟨by decide, by decide, by decide⟩
  unfold Val.readV
  split
  · exact hz
  · split
    · exact Val.read_ok l
    · exact hz
theorem readF_ok (st : R.St) : (Pap.readF st).1.ok := readV_ok _
theorem readF_name (st : R.St) : (Pap.readF st).1.name.length ≤ 16 := by
  have := R.text_len 16 (by decide) st
  show (R.text 16 st).1.length ≤ 16
  omega
theorem readF_rest (st : R.St) : (Pap.readF st).2.1.length ≤ st.1.length := by
  show (R.text 208 (R.text 16 st).2).2.1.length ≤ _
  exact Nat.le_trans (R.text_rest _ _) (R.text_rest _ _)

theorem Only.new {w W W' : World} {g k : Nat} (h : Only w W g) (ho : Only W W' k) (hk : w.heap.size ≤ k) : Only w W' g :=
  ⟨ho.os.trans h.os, ho.tape.trans h.tape, ho.output.trans h.output, Nat.le_trans h.size ho.size, fun i hi hne => (ho.block i (Nat.lt_of_lt_of_le hi h.size) (fun e => by injection e with e; omega)).trans (h.block i hi hne)⟩
/-- A field stored whole. -/
theorem Has.fstored {W : World} {g : Nat} {n n' : List UInt8} {k k' : Int} {f f' : Bool} {i i' : Int} {b b' : Nat} {t t' : List UInt8} (h : Has W g 40 (fcs n k f i b t)) :
    Has ((((((W.setCell ⟨g, 0, none⟩ (.string (S n'))).setCell ⟨g, 1, none⟩ (.int .i64 k')).setCell ⟨g, 2, none⟩ (.bool f')).setCell ⟨g, 3, none⟩ (.int .i64 i')).setCell ⟨g, 4, none⟩ (.int .u64 (b' : Int))).setCell ⟨g, 5, none⟩ (.string (S t'))) g 40 (fcs n' k' f' i' b' t') := by
  have := (((((h.set 0 (.string (S n'))).set 1 (.int .i64 k')).set 2 (.bool f')).set 3 (.int .i64 i')).set 4 (.int .u64 (b' : Int))).set 5 (.string (S t'))
  simpa using this
theorem fstored_only (W : World) (g : Nat) (v0 v1 v2 v3 v4 v5 : Value) :
    Only W ((((((W.setCell ⟨g, 0, none⟩ v0).setCell ⟨g, 1, none⟩ v1).setCell ⟨g, 2, none⟩ v2).setCell ⟨g, 3, none⟩ v3).setCell ⟨g, 4, none⟩ v4).setCell ⟨g, 5, none⟩ v5) g :=
  (((((Only.set _ g 0 _).trans (Only.set _ g 1 _)).trans (Only.set _ g 2 _)).trans (Only.set _ g 3 _)).trans (Only.set _ g 4 _)).trans (Only.set _ g 5 _)
theorem vstored_only (W : World) (g : Nat) (v1 v2 v3 v4 v5 : Value) :
    Only W (((((W.setCell ⟨g, 1, none⟩ v1).setCell ⟨g, 2, none⟩ v2).setCell ⟨g, 3, none⟩ v3).setCell ⟨g, 4, none⟩ v4).setCell ⟨g, 5, none⟩ v5) g :=
  ((((Only.set _ g 1 _).trans (Only.set _ g 2 _)).trans (Only.set _ g 3 _)).trans (Only.set _ g 4 _)).trans (Only.set _ g 5 _)

set_option maxHeartbeats 4000000 in
set_option maxRecDepth 100000 in
theorem readField_rd (g b : Nat) (st : R.St) (w : World) (h : Rd w g b st) (hcap : st.1.length ≤ 4611686018427387904) (hb : b < w.heap.size) :
    Calls Try.prog 33 #[.pointer (some ⟨g, 0, none⟩)] w fun r w' => r = .returned (Pap.readF st).1.v ∧ Rd w' g b (Pap.readF st).2 ∧ Only w w' g := by
  have hglt := h.lt
  have h0 := h.below (up1 (w := w) (.cells (fcs [] 0 false 0 0 []) 40)) (Nat.le_refl _)
  have hN := text_rd 16 g b st _ h0 hcap
  have hr1 := R.text_rest 16 st
  have hF : Pap.readF st = (⟨(R.text 16 st).1, (Val.readV (R.text 208 (R.text 16 st).2).1).1⟩, R.fail (Val.readV (R.text 208 (R.text 16 st).2).1).2 (R.text 208 (R.text 16 st).2).2) := rfl
  generalize Pap.readF st = res at hF ⊢
  generalize R.text 16 st = x at hN hr1 hF
  obtain ⟨n, st1⟩ := x
  dsimp only at hN hr1 hF
  have hT := fun W (hR : Rd W g b st1) => text_rd 208 g b st1 W hR (by omega)
  have hl2 := R.text_len 208 (by decide) st1
  generalize R.text 208 st1 = y at hT hl2 hF
  obtain ⟨vb, st2⟩ := y
  dsimp only at hT hl2 hF
  have hV := fun W => vread_any vb (by omega) W
  generalize Val.readV vb = z at hV hF
  obtain ⟨v, e⟩ := z
  dsimp only at hV hF
  subst hF
  obtain ⟨vk, vf, vi, vbb, vt⟩ := v
  rw [Val.v_eq] at hV
  have hFl := fun W (hR : Rd W g b st2) => rfail_rd e g b W hR
  show Calls _ _ _ _ fun r w' => r = .returned (Fld.v ⟨n, ⟨vk, vf, vi, vbb, vt⟩⟩) ∧ Rd w' g b (R.fail e st2) ∧ _
  rw [Fld.v_eq]
  dsimp only
  have HN := Lib.hid hN
  have HT := Lib.hid hT
  have HV := Lib.hid hV
  have HFL := Lib.hid hFl
  clear hN hT hV hFl hl2 hr1 h0 hcap h
  have hR0 : Has (w.alloc (.cells (fcs [] 0 false 0 0 []) 40)) w.heap.size 40 (fcs [] 0 false 0 0 []) := Has.made w _ _
  have ho0 := Only.of_below (up1 (w := w) (.cells (fcs [] 0 false 0 0 []) 40)) g
  go_enter Try.func33, Try.ntmps33
  go_wp2_with fail
  refine (HN.out).mono ?_
  rintro r w1 ⟨rfl, hr1, ho1⟩
  have hres1 := ho1.has hR0 (by omega)
  have hso1 := ho0.trans ho1
  clear hR0 ho0 ho1 HN
  have hsz1 : w.heap.size < w1.heap.size := hres1.lt
  have hr1' := hr1.below (up1 (.cells (fcs n 0 false 0 0 []) 40)) (Nat.le_refl _)
  have hf1 : Has (w1.alloc (.cells (fcs n 0 false 0 0 []) 40)) w1.heap.size 40 (fcs n 0 false 0 0 []) := Has.made w1 _ _
  have hres1' := hres1.of_alloc (.cells (fcs n 0 false 0 0 []) 40)
  have hso1' := hso1.trans (Only.of_below (up1 (.cells (fcs n 0 false 0 0 []) 40)) g)
  have HTT := Lib.hid (HT.out _ hr1')
  clear hr1 hr1' hres1 hso1 HT
  go_wp2_with fail
  refine (HTT.out).mono ?_
  rintro r w2 ⟨rfl, hr2, ho2⟩
  have hf2 := ho2.has hf1 (by omega)
  have hres2 := ho2.has hres1' (by omega)
  have hso2 := hso1'.trans ho2
  clear hf1 hres1' hso1' ho2 HTT
  go_wp2_with fail
  refine (HV.out _).mono ?_
  rintro r w3 ⟨rfl, hb3⟩
  have hr3 := (hr2.below hb3 (Nat.le_refl _)).below (up1 (.cells (vcs vk vf vi vbb vt) 38)) (Nat.le_refl _)
  have hf3 := (hf2.below hb3 hf2.lt).of_alloc (.cells (vcs vk vf vi vbb vt) 38)
  have hres3 := (hres2.below hb3 hres2.lt).of_alloc (.cells (vcs vk vf vi vbb vt) 38)
  have hso3 := (hso2.trans (Only.of_below hb3 g)).trans (Only.of_below (up1 (.cells (vcs vk vf vi vbb vt) 38)) g)
  have hv3 : Has (w3.alloc (.cells (vcs vk vf vi vbb vt) 38)) w3.heap.size 38 (vcs vk vf vi vbb vt) := Has.made w3 _ _
  have hw23 := hb3.size
  have hfl2 := hf2.lt
  have HFF := Lib.hid (HFL.out _ hr3)
  clear hr2 hr3 hf2 hres2 hso2 hb3 HFL HV
  go_wp2_with fail
  refine (HFF.out).mono ?_
  rintro r w4 ⟨rfl, hr4, ho4⟩
  have hw1l : w1.heap.size < w3.heap.size := by omega
  have hf4 := ho4.has hf3 (by omega)
  have hres4 := ho4.has hres3 (by omega)
  have hv4 := ho4.has hv3 (by omega)
  have hso4 := hso3.trans ho4
  clear hf3 hres3 hv3 hso3 ho4 HFF
  obtain ⟨c0, c1, c2, c3, c4, c5⟩ := flies hf4
  obtain ⟨e0, e1, e2, e3, e4⟩ := lies hv4
  have f1 := hf4.free 1; have f2 := hf4.free 2; have f3 := hf4.free 3; have f4 := hf4.free 4; have f5 := hf4.free 5
  have hoA := vstored_only w4 w1.heap.size (.int .i64 vk) (.bool vf) (.int .i64 vi) (.int .u64 (vbb : Int)) (.string (S vt))
  have hres5 := hoA.has hres4 (by omega)
  have hf5 : Has (((((w4.setCell ⟨w1.heap.size, 1, none⟩ (.int .i64 vk)).setCell ⟨w1.heap.size, 2, none⟩ (.bool vf)).setCell ⟨w1.heap.size, 3, none⟩ (.int .i64 vi)).setCell ⟨w1.heap.size, 4, none⟩ (.int .u64 (vbb : Int))).setCell ⟨w1.heap.size, 5, none⟩ (.string (S vt))) w1.heap.size 40 (fcs n vk vf vi vbb vt) := by
    have := ((((hf4.set 1 (.int .i64 vk)).set 2 (.bool vf)).set 3 (.int .i64 vi)).set 4 (.int .u64 (vbb : Int))).set 5 (.string (S vt))
    simpa using this
  have hr5 := hr4.only hoA (by omega) (by omega)
  have hso5 := hso4.new hoA (by omega)
  have HW5 := Lib.hid (And.intro hres5 (And.intro hf5 (And.intro hr5 hso5)))
  clear hres5 hf5 hr5 hso5 hoA hf4 hres4 hv4 hso4 hr4
  have hgl := Lib.hid (And.intro hglt (And.intro hb (And.intro hsz1 (And.intro hw1l (And.intro hw23 hfl2))))); clear hglt hb hsz1 hw1l hw23 hfl2
  go_upto_region 5 with (fail)
  clear c0 c1 c2 c3 c4 c5 e0 e1 e2 e3 e4 f1 f2 f3 f4 f5
  generalize (((((w4.setCell ⟨w1.heap.size, 1, none⟩ (.int .i64 vk)).setCell ⟨w1.heap.size, 2, none⟩ (.bool vf)).setCell ⟨w1.heap.size, 3, none⟩ (.int .i64 vi)).setCell ⟨w1.heap.size, 4, none⟩ (.int .u64 (vbb : Int))).setCell ⟨w1.heap.size, 5, none⟩ (.string (S vt))) = W5 at HW5 ⊢
  obtain ⟨c0, c1, c2, c3, c4, c5⟩ := flies HW5.out.2.1
  obtain ⟨d0, d1, d2, d3, d4, d5⟩ := flies HW5.out.1
  have g0 := HW5.out.1.free 0; have g1 := HW5.out.1.free 1; have g2 := HW5.out.1.free 2; have g3 := HW5.out.1.free 3; have g4 := HW5.out.1.free 4; have g5 := HW5.out.1.free 5
  have hfin := HW5.out.1.fstored (n' := n) (k' := vk) (f' := vf) (i' := vi) (b' := vbb) (t' := vt)
  have hoB := fstored_only W5 w.heap.size (.string (S n)) (.int .i64 vk) (.bool vf) (.int .i64 vi) (.int .u64 (vbb : Int)) (.string (S vt))
  have hrf := HW5.out.2.2.1.only hoB (by have := hgl.out; omega) (by have := hgl.out; omega)
  have hof := HW5.out.2.2.2.new hoB (Nat.le_refl _)
  have HFIN := Lib.hid (And.intro hfin (And.intro hrf hof)); clear hfin hrf hof hoB HW5
  go_wp2_with fail
  exact ret_fld (p := 2) rfl w.heap.size _ rfl rfl HFIN.out.1 rfl ⟨rfl, HFIN.out.2.1, HFIN.out.2.2⟩
end Go.Proofs.Ytfppobnfajkmmaa
