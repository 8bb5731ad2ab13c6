/-
  The contract of find's own field.
-/
import Derived.Test.YtfcmkbeilpclmaaFndMem
import Derived.Test.YtfcmkbeilpclmaaPapB
import Derived.Test.YtfcmkbeilpclmaaValE
namespace Go.Proofs.Ytfcmkbeilpclmaa
open Go.RowKit Go.Lib
set_option linter.unusedVariables false

theorem ret_valb {fn : Func} {p u : Tmp} {R : Ending → World → Prop} {a : Act} {w : World} (h : fn.results = #[.cell p 35, .tmp u]) (g : Nat) (cs : Array Value) (v : Value)
    (hp : a.tmps.getD p undef = .pointer (some ⟨g, 0, none⟩)) (hu : a.tmps.getD u undef = v) (hd : a.defers = []) (hh : Has w g 35 cs) (hcs : cs.size = 5) (hR : R (.returned (.tuple #[.agg cs, v])) w) : bodyPost Try.prog fn R .ret a w :=
  bodyPost_ret (v := .tuple #[.agg cs, v]) (by
    rw [results_cell_tmp h, hp, hu]
    simp [asAddr, whole hh hcs, Result.andThen]) hd hR

/-- What field gives. -/
def Fnd.fieldV (L : List Fld) (n : List UInt8) : Value := match Fnd.field L n with | some v => .tuple #[v.v, .bool true] | none => .tuple #[.agg #[.int .i64 0, .bool false, .int .i64 0, .int .u64 0, .string ⟨#[]⟩], .bool false]
set_option maxRecDepth 100000 in
theorem ffield_any (p : Ppr) (n : List UInt8) (w : World) (hp : p.In w) :
    Calls Try.prog 31 #[p.v, .string (S n)] w fun r w' => r = .returned (Fnd.fieldV p.L n) ∧ Below w.heap.size w w' := by
  have HF : Hid (_ : Prop) := Lib.hid (fun W (h : p.In W) => find_any p.id p.cls p.L n p.b p.cap p.A W h.fs h.few)
  have HIN := Lib.hid hp
  unfold Fnd.fieldV
  have hfc := Fnd.field_cases p.L n
  obtain ⟨id, cls, A, L, cap, b⟩ := p
  dsimp only at *
  unfold Ppr.v
  dsimp only
  generalize Fnd.field L n = o at *
  generalize Pap.find n L = k at *
  clear hp
  rcases hfc with ⟨rfl, rfl⟩ | ⟨j, hj, rfl, rfl⟩
  · have hP := (Has.made w 27 #[.string (S id), .int .i64 cls, .slice A L.length cap]).of_alloc (.cells #[.int .i64 0, .bool false, .int .i64 0, .int .u64 0, .string ⟨#[]⟩] 35)
    have hV := has_new w (.cells #[.string (S id), .int .i64 cls, .slice A L.length cap] 27) 35 #[.int .i64 0, .bool false, .int .i64 0, .int .u64 0, .string ⟨#[]⟩]
    have hB := up2 (w := w) (.cells #[.string (S id), .int .i64 cls, .slice A L.length cap] 27) (.cells #[.int .i64 0, .bool false, .int .i64 0, .int .u64 0, .string ⟨#[]⟩] 35)
    go_enter Try.func31, Try.ntmps31
    go_upto_region 1 with fail
    generalize (w.alloc (.cells #[.string (S id), .int .i64 cls, .slice A L.length cap] 27)).alloc (.cells #[.int .i64 0, .bool false, .int .i64 0, .int .u64 0, .string ⟨#[]⟩] 35) = W0 at hP hV hB ⊢
    have p0 := hP.cell 0
    have p1 := hP.cell 1
    have p2 := hP.cell 2
    have HV := Lib.hid hV; clear hV hP
    have HB := Lib.hid hB; clear hB
    go_wp2_with fail
    refine (HF.out _ (HIN.out.below HB.out)).mono ?_
    rintro r w1 ⟨rfl, hb1⟩
    have hV1 := HV.out.below hb1 HV.out.lt
    have c0 := hV1.cell 0
    have c1 := hV1.cell 1
    have c2 := hV1.cell 2
    have c3 := hV1.cell 3
    have c4 := hV1.cell 4
    have f0 := hV1.free 0
    have f1 := hV1.free 1
    have f2 := hV1.free 2
    have f3 := hV1.free 3
    have f4 := hV1.free 4
    have HB1 := Lib.hid (HB.out.trans (hb1.mono HB.out.size))
    have HV1 := Lib.hid hV1
    clear hb1 hV1 HB HV p0 p1 p2
    go_wp2_with fail
    have h9 := Has.stored HV1.out 0 false 0 0 []
    exact ret_valb (p := 4) (u := 5) rfl (w.heap.size + 1) _ _ rfl rfl rfl h9 rfl ⟨rfl, (stored_only w1 (w.heap.size + 1) 0 false 0 0 []).below HB1.out HB1.out.size (by omega)⟩
  · have hP := (Has.made w 27 #[.string (S id), .int .i64 cls, .slice A L.length cap]).of_alloc (.cells #[.int .i64 0, .bool false, .int .i64 0, .int .u64 0, .string ⟨#[]⟩] 35)
    have hV := has_new w (.cells #[.string (S id), .int .i64 cls, .slice A L.length cap] 27) 35 #[.int .i64 0, .bool false, .int .i64 0, .int .u64 0, .string ⟨#[]⟩]
    have hB := up2 (w := w) (.cells #[.string (S id), .int .i64 cls, .slice A L.length cap] 27) (.cells #[.int .i64 0, .bool false, .int .i64 0, .int .u64 0, .string ⟨#[]⟩] 35)
    obtain ⟨off, hA, hbl, hat⟩ := HIN.out.fs (by intro e; dsimp only at e; rw [e] at hj; cases hj)
    dsimp only at hA hbl hat
    subst hA
    have hfat := hat j hj
    have HFAT : Hid (∀ W : World, Below w.heap.size w W → FAt W b (off + j * 6) L[j]) := fun W hb => hfat.keep (hb.block b hbl)
    have hjz : (j : Int) < (L.length : Int) := by omega
    have hj0 : ¬ (j : Int) < 0 := by omega
    have hj0' : (0 : Int) ≤ (j : Int) := by omega
    have hlm : L.length ≤ 1000000 := HIN.out.few
    clear hat hfat
    generalize L[j] = x at *
    obtain ⟨xn, ⟨k, f, i, bb, tx⟩⟩ := x
    dsimp only
    rw [Val.v_eq]
    go_enter Try.func31, Try.ntmps31
    go_upto_region 1 with fail
    generalize (w.alloc (.cells #[.string (S id), .int .i64 cls, .slice (some ⟨b, off, none⟩) L.length cap] 27)).alloc (.cells #[.int .i64 0, .bool false, .int .i64 0, .int .u64 0, .string ⟨#[]⟩] 35) = W0 at hP hV hB ⊢
    have p0 := hP.cell 0
    have p1 := hP.cell 1
    have p2 := hP.cell 2
    have HV := Lib.hid hV
    have HP := Lib.hid hP
    have HB := Lib.hid hB
    clear hV hP hB
    go_wp2_with fail
    refine (HF.out _ (HIN.out.below HB.out)).mono ?_
    rintro r w1 ⟨rfl, hb1⟩
    have hV1 := HV.out.below hb1 HV.out.lt
    have p2 := (HP.out.below hb1 HP.out.lt).cell 2
    have c0 := hV1.cell 0
    have c1 := hV1.cell 1
    have c2 := hV1.cell 2
    have c3 := hV1.cell 3
    have c4 := hV1.cell 4
    have f0 := hV1.free 0
    have f1 := hV1.free 1
    have f2 := hV1.free 2
    have f3 := hV1.free 3
    have f4 := hV1.free 4
    have HB1 := Lib.hid (HB.out.trans (hb1.mono HB.out.size))
    have HV1 := Lib.hid hV1
    obtain ⟨q0, q1, q2, q3, q4, q5⟩ := HFAT.out w1 HB1.out
    dsimp only at q0 q1 q2 q3 q4 q5
    clear hb1 hV1 HB HV HP p0 p1 HFAT HIN HF
    go_wp2_with fail
    have h9 := Has.stored HV1.out k f i bb tx
    exact ret_valb (p := 4) (u := 5) rfl (w.heap.size + 1) _ _ rfl rfl rfl h9 rfl ⟨rfl, (stored_only w1 (w.heap.size + 1) k f i bb tx).below HB1.out HB1.out.size (by omega)⟩
end Go.Proofs.Ytfcmkbeilpclmaa
