/-
  The contract of FindMore.
-/
import Derived.Test.YtfcmkbeilpclmaaFndE
import Derived.Test.YtfcmkbeilpclmaaFndI
import Derived.Test.YtfcmkbeilpclmaaFndJ
import Derived.Test.YtfcmkbeilpclmaaFndApp
namespace Go.Proofs.Ytfcmkbeilpclmaa
open Go.ChangeShapes Go.WideShapes Go.ChangeAt Go.RowKit
open Go.ChangeMaps (open_string shut_string)
set_option linter.unusedVariables false

theorem zval_ok : (⟨0, false, 0, 0, []⟩ : Val).ok := ⟨by decide, by decide, by decide⟩
namespace Fnd
theorem more_check (t : Trm) (T : List Trm) (d : Bool) (h : T.length ≤ 7) : check ⟨t :: T, [], d, 1000⟩ = termsE (t :: T) := by
  unfold check
  rw [if_neg (by simp only [List.length_cons]; omega), if_neg (fun e => e.1 rfl)]
theorem more_neg (t : Trm) (T : List Trm) (d b : Bool) (h : T.length ≤ 7) : check ⟨{ t with neg := b } :: T, [], d, 1000⟩ = check ⟨t :: T, [], d, 1000⟩ := by
  rw [more_check _ _ _ h, more_check _ _ _ h, termsE_cons, termsE_cons, termE_neg]
theorem more_there (t : Trm) (T : List Trm) (d : Bool) (a b : Val) (h : T.length ≤ 7) (hc : check ⟨t :: T, [], d, 1000⟩ = 0) : check ⟨⟨t.name, a, b, false, false, false⟩ :: T, [], d, 1000⟩ = 0 := by
  rw [more_check _ _ _ h] at hc ⊢
  have hg := termsE_good.1 hc
  refine termsE_good.2 fun u hu => ?_
  rcases List.mem_cons.1 hu with rfl | hu
  · exact termE_there (hg t (List.mem_cons_self ..)) a b
  · exact hg u (List.mem_cons_of_mem _ hu)
/-- The three rows that FindMore goes through. -/
theorem more_rows (t : Trm) (T : List Trm) (d : Bool) (a b : Val) (L : List (List Fld)) (h : L.length ≤ 30) :
    run ⟨t :: T, [], d, 1000⟩ L = (run ⟨⟨t.name, a, b, false, false, false⟩ :: T, [], d, 1000⟩ L).filter (fun i => holds t (L.getD i [])) ∧
    run ⟨{ t with neg := !t.neg } :: T, [], d, 1000⟩ L = (run ⟨⟨t.name, a, b, false, false, false⟩ :: T, [], d, 1000⟩ L).filter (fun i => !holds t (L.getD i [])) := by
  have hr := fun (q : Qry) (h1 : q.nm = []) (h2 : q.most = 1000) => run_plain (q := q) (L := L) h1 (by rw [h2]; omega)
  rw [hr _ rfl rfl, hr _ rfl rfl, hr _ rfl rfl]
  exact ⟨more_yes t a b T [] d 1000 L L.length, more_no t a b T [] d 1000 L L.length⟩
end Fnd
theorem RowN.get {w : World} {s : List Nat} {A : Option Addr} {L : List Nat} (h : RowC w s A (nvs L)) (k : Nat) (hk : k < L.length) : ∃ b off, A = some ⟨b, off, none⟩ ∧ w.cell? ⟨b, off + k, none⟩ = some (.int .i64 (L[k] : Int)) := by
  obtain ⟨b, off, hA, -, -, hr⟩ := h (fun e => by
    have := nvs_len L
    rw [e, List.length_nil] at this
    omega)
  exact ⟨b, off, hA, hr k _ (by unfold nvs; rw [List.getElem?_map, List.getElem?_eq_getElem hk]; rfl)⟩
theorem belowDrewM {B : Nat} {w w1 : World} (h : Below B w w1) (k : Nat) : Below B w (w1.drewN k) := h.trans ⟨rfl, rfl, rfl, Nat.le_refl _, fun _ _ => rfl⟩
/-- Where FindMore stands, once its three arguments are as they stay. -/
structure FM (w W : World) (A : Option Addr) (cap : Nat) (T : List Fnd.Trm) (d : Bool) (t : Fnd.Trm) (B : Option Addr) (M : List Ppr) : Prop where
  q : QHas W w.heap.size A T.length cap [] d 1000
  th : Has W (w.heap.size + 1) 37 t.cs.toArray
  row : RowTm W A T
  pps : RowPp W B M
  up : Below w.heap.size w W
theorem FM.below {w W W' : World} {A : Option Addr} {cap : Nat} {T : List Fnd.Trm} {d : Bool} {t : Fnd.Trm} {B : Option Addr} {M : List Ppr} (h : FM w W A cap T d t B M) (hb : Below W.heap.size W W') : FM w W' A cap T d t B M :=
  ⟨h.q.below hb h.q.lt, h.th.below hb h.th.lt, h.row.below hb, h.pps.below hb, h.up.trans (hb.mono h.up.size)⟩

set_option maxHeartbeats 16000000 in
set_option maxRecDepth 100000 in
theorem findMore_any {w : World} {T0 : List Fnd.Trm} {A0 : Option Addr} {cap0 : Nat} (nm0 : List UInt8) (d : Bool) (m : Int) (hrow : RowTm w A0 T0) (hlc : T0.length ≤ cap0) (hcm : cap0 ≤ 9223372036854775807) (hok : ∀ t ∈ T0, t.low.ok ∧ t.high.ok)
    (t0 : Fnd.Trm) (htl : t0.low.ok) (hth : t0.high.ok) {B0 : Option Addr} {capB0 : Nat} {L0 : List Ppr} (hL : RowPl w B0 L0) (hlcB : L0.length ≤ capB0) (hcmB : capB0 ≤ 9223372036854775807) :
    Calls Try.prog 5 #[.agg #[.slice A0 T0.length cap0, .string (S nm0), .bool d, .int .i64 m], t0.v, .slice B0 L0.length capB0] w fun e w' => e = .returned (.bool true) ∧ Below w.heap.size w w' := by
  have HQF : Hid (_ : Prop) := Lib.hid (fun W (h : Below w.heap.size w W) (h2 : w.heap.size + 2 ≤ W.heap.size) => fewQ_any (w := W) (T := T0) (A := A0) (cap := cap0) [w.heap.size, w.heap.size + 1] (by intro x hx; simp at hx; omega) nm0 d m (hrow.below h) hlc hcm)
  have HPP : Hid (_ : Prop) := Lib.hid (fun W (h : Below w.heap.size w W) => fpapers_any (w := W) (hL.below h) hlcB hcmB)
  have hT1 := Fnd.fewTs_len T0
  have hok1 := Fnd.fewTs_ok hok
  have HA := Lib.hid (fun W => fawake_any W)
  unfold FewQ at HQF
  unfold PapsPost at HPP
  clear hrow hlc hcm hok hL hlcB hcmB
  generalize Fnd.fewTs T0 = T1 at hT1 hok1 HQF
  generalize nm0.take 300 = nm at HQF
  have HOK := Lib.hid hok1
  clear hok1
  obtain ⟨n, ⟨lk, lf, li, lb, lt⟩, ⟨hk, hf, hi, hb, ht⟩, a, bb, c⟩ := t0
  have HCN := Lib.hid (fun W => fcut_any n W)
  have HTO := Lib.hid (And.intro htl hth)
  have hn1 : (n.take 300).length ≤ 300 := by rw [List.length_take]; omega
  clear htl hth
  rw [Fnd.Trm.v_eq]
  generalize n.take 300 = n1 at HCN hn1
  dsimp only at HTO
  have hQ := (Has.made w 24 #[.slice A0 T0.length cap0, .string (S nm0), .bool d, .int .i64 m]).of_alloc (.cells (tcs n lk lf li lb lt hk hf hi hb ht a bb c) 37)
  have hP := has_new w (.cells #[.slice A0 T0.length cap0, .string (S nm0), .bool d, .int .i64 m] 24) 37 (tcs n lk lf li lb lt hk hf hi hb ht a bb c)
  have hB := up2 (w := w) (.cells #[.slice A0 T0.length cap0, .string (S nm0), .bool d, .int .i64 m] 24) (.cells (tcs n lk lf li lb lt hk hf hi hb ht a bb c) 37)
  have hz : ((w.alloc (.cells #[.slice A0 T0.length cap0, .string (S nm0), .bool d, .int .i64 m] 24)).alloc (.cells (tcs n lk lf li lb lt hk hf hi hb ht a bb c) 37)).heap.size = w.heap.size + 2 := by simp
  go_enter Try.func5, Try.ntmps5
  go_upto_region 1 with fail
  generalize (w.alloc (.cells #[.slice A0 T0.length cap0, .string (S nm0), .bool d, .int .i64 m] 24)).alloc (.cells (tcs n lk lf li lb lt hk hf hi hb ht a bb c) 37) = W0 at hQ hP hB hz ⊢
  have HQ := Lib.hid hQ
  have HP := Lib.hid hP
  have HB := Lib.hid hB
  obtain ⟨q0, q1, q2, q3⟩ := qlies hQ
  clear hQ hP hB
  go_wp2_with fail
  refine (HQF.out _ HB.out (Nat.le_of_eq hz.symm)).mono ?_
  rintro r W1 ⟨A1, cap1, rfl, hrow1, hlc1, hcm1, hb1⟩
  have hQ1 := HQ.out.below hb1 HQ.out.lt
  have hP1 := HP.out.below hb1 HP.out.lt
  have HB1 := Lib.hid (HB.out.trans (hb1.mono HB.out.size))
  have hs1 := hb1.size
  clear hb1 HQ HP HB HQF q0 q1 q2 q3
  obtain ⟨q0, q1, q2, q3⟩ := qlies hQ1
  have f0 := hQ1.free 0; have f1 := hQ1.free 1; have f2 := hQ1.free 2; have f3 := hQ1.free 3
  have hQ2 : QHas ((((W1.setCell ⟨w.heap.size, 0, none⟩ (.slice A1 T1.length cap1)).setCell ⟨w.heap.size, 1, none⟩ (.string (S nm))).setCell ⟨w.heap.size, 2, none⟩ (.bool d)).setCell ⟨w.heap.size, 3, none⟩ (.int .i64 m)) w.heap.size A1 T1.length cap1 nm d m := by
    have := (((hQ1.set 0 (.slice A1 T1.length cap1)).set 1 (.string (S nm))).set 2 (.bool d)).set 3 (.int .i64 m)
    simpa using this
  have hoo := (((Only.set W1 w.heap.size 0 (.slice A1 T1.length cap1)).trans (Only.set _ w.heap.size 1 (.string (S nm)))).trans (Only.set _ w.heap.size 2 (.bool d))).trans (Only.set _ w.heap.size 3 (.int .i64 m))
  have hP2 := hoo.has hP1 (by omega : w.heap.size + 1 ≠ w.heap.size)
  have hB2 := hoo.below HB1.out HB1.out.size (Nat.le_refl _)
  have hs2 := hoo.size
  have hrow2 := hrow1.mv (Mv.of_only hoo (s := [w.heap.size, w.heap.size + 1]) (by simp)) (by simp)
  have HQ2 := Lib.hid hQ2
  have HP2 := Lib.hid hP2
  have HB2 := Lib.hid hB2
  have HR2 := Lib.hid hrow2
  clear hQ2 hP2 hB2 hrow1 hrow2 hQ1 hP1 hoo HB1
  go_upto_region 2 with fail
  generalize (((W1.setCell ⟨w.heap.size, 0, none⟩ (.slice A1 T1.length cap1)).setCell ⟨w.heap.size, 1, none⟩ (.string (S nm))).setCell ⟨w.heap.size, 2, none⟩ (.bool d)).setCell ⟨w.heap.size, 3, none⟩ (.int .i64 m) = W2 at HQ2 HP2 HB2 HR2 hs2 ⊢
  clear q0 q1 q2 q3 f0 f1 f2 f3
  go_wp2_with fail
  refine (HPP.out _ HB2.out).mono ?_
  rintro r W3 ⟨B, M, capB, rfl, hMM, hPN, hlcB, hcmB, hM30, hb3⟩
  have hs3 := hb3.size
  have hQ3 := HQ2.out.below hb3 HQ2.out.lt
  have hP3 := HP2.out.below hb3 HP2.out.lt
  have hR3 := HR2.out.mv (Mv.of_below hb3 []) (by simp)
  have hB3 := HB2.out.trans (hb3.mono HB2.out.size)
  have HPN := Lib.hid hPN
  clear hb3 hPN HQ2 HP2 HR2 HB2 HPP
  have t0 := hP3.cell 0
  have f0 := hP3.free 0
  go_wp2_with fail
  refine (HCN.out _).mono ?_
  rintro r w4 ⟨rfl, e4⟩
  rw [e4]
  clear e4 w4
  have hbl : w.heap.size + 2 ≤ W2.heap.size := by omega
  obtain ⟨n2, hn2⟩ : ∃ n2, n2 = (T1.take 7).length := ⟨_, rfl⟩
  have hn2' : n2 = min 7 T1.length := by rw [hn2, List.length_take]
  have h7 : (7 : Int) < (T1.length : Int) ∨ (¬ (7 : Int) < (T1.length : Int) ∧ n2 = T1.length) := by omega
  have hc7 : (7 : Int) < (T1.length : Int) → (7 : Int) ≤ (cap1 : Int) := by omega
  have hP4 : Has (W3.setCell ⟨w.heap.size + 1, 0, none⟩ (.string (S n1))) (w.heap.size + 1) 37 (tcs n1 lk lf li lb lt hk hf hi hb ht a bb c) := by
    have := hP3.set 0 (.string (S n1))
    simpa using this
  have ho4 := Only.set W3 (w.heap.size + 1) 0 (.string (S n1))
  have hQ4 := ho4.has hQ3 (by omega : w.heap.size ≠ w.heap.size + 1)
  have hR4 := hR3.mv (Mv.of_only ho4 (s := [w.heap.size, w.heap.size + 1]) (by simp)) (by simp)
  have hN4 := HPN.out.mv (Mv.of_only ho4 (s := [w.heap.size, w.heap.size + 1]) (by simp)) (by intro x hx; simp at hx; omega)
  have hB4 := ho4.below hB3 hB3.size (by omega)
  have HP4 := Lib.hid hP4
  have HN4 := Lib.hid hN4
  have HB4 := Lib.hid hB4
  have HR4 := Lib.hid hR4
  clear hP3 hP4 ho4 hQ3 hR3 hR4 hN4 HPN hB3 hB4 hs3
  go_upto_region 4 with fail
  generalize W3.setCell ⟨w.heap.size + 1, 0, none⟩ (.string (S n1)) = W4 at hQ4 HP4 HN4 HB4 HR4 ⊢
  clear t0 f0
  obtain ⟨q0, q1, q2, q3⟩ := qlies hQ4
  have f0 := hQ4.free 0; have f1 := hQ4.free 1; have f2 := hQ4.free 2; have f3 := hQ4.free 3
  -- the query's own block, whichever way
  have HX : Hid (∀ W, Only W4 W w.heap.size → QHas W w.heap.size A1 n2 cap1 [] d 1000 → FM w W A1 cap1 (T1.take 7) d ⟨n1, ⟨lk, lf, li, lb, lt⟩, ⟨hk, hf, hi, hb, ht⟩, a, bb, c⟩ B M) := fun W ho hq =>
    ⟨by rw [← hn2]; exact hq, ho.has HP4.out (by omega), by
      have h1 := HR4.out.mv (Mv.of_only ho (s := [w.heap.size, w.heap.size + 1]) (by simp)) (by simp)
      have h2 := h1.take (7 * 14)
      rw [show (tms T1).take (7 * 14) = tms (T1.take 7) from flat_take Fnd.Trm.cs 14 Fnd.Trm.cs_len T1 7] at h2
      exact h2.sub (by simp), (HN4.out.mv (Mv.of_only ho (s := [w.heap.size, w.heap.size + 1]) (by simp)) (by intro x hx; simp at hx; omega)).rows, ho.below HB4.out HB4.out.size (Nat.le_refl _)⟩
  have hQ5 : QHas ((W4.setCell ⟨w.heap.size, 1, none⟩ (.string ⟨#[]⟩)).setCell ⟨w.heap.size, 3, none⟩ (.int .i64 1000)) w.heap.size A1 T1.length cap1 [] d 1000 := by
    have := (hQ4.set 1 (.string ⟨#[]⟩)).set 3 (.int .i64 1000)
    simp at this
    exact this
  have ho5 := (Only.set W4 w.heap.size 1 (.string ⟨#[]⟩)).trans (Only.set _ w.heap.size 3 (.int .i64 1000))
  go_upto_region 6 with fail
  clear q0 q1 q2 q3 f0 f1 f2 f3
  generalize (W4.setCell ⟨w.heap.size, 1, none⟩ (.string ⟨#[]⟩)).setCell ⟨w.heap.size, 3, none⟩ (.int .i64 1000) = W5 at hQ5 ho5 ⊢
  have q0 : W5.cell? ⟨w.heap.size, 0, none⟩ = some (.slice A1 T1.length cap1) := hQ5.cell 0
  have f0 := hQ5.free 0
  have hQ6 : QHas (W5.setCell ⟨w.heap.size, 0, none⟩ (.slice A1 7 cap1)) w.heap.size A1 7 cap1 [] d 1000 := by
    have := hQ5.set 0 (.slice A1 7 cap1)
    simp at this
    exact this
  have HQ5 := Lib.hid (And.intro (And.intro hQ5 ho5) (And.intro hQ6 (ho5.trans (Only.set W5 w.heap.size 0 (.slice A1 7 cap1)))))
  clear hQ5 ho5 hQ6 hQ4 HB4 HN4 HR4 HP4
  go_upto_if 34 with (fail)
  generalize hz7 : decide ((7 : Int) < (T1.length : Int)) = z7
  go_cut [] (fun wc => Hid (FM w wc A1 cap1 (T1.take 7) d ⟨n1, ⟨lk, lf, li, lb, lt⟩, ⟨hk, hf, hi, hb, ht⟩, a, bb, c⟩ B M))
  case first =>
    cases z7 with
    | true =>
      have e7 : n2 = 7 := by have := of_decide_eq_true hz7; omega
      have hc8 := hc7 (of_decide_eq_true hz7)
      have HF := Lib.hid (HX.out _ HQ5.out.2.2 (by rw [e7]; exact HQ5.out.2.1))
      go_wp2_with fail
      go_meet
      case rel => exact HF
    | false =>
      have e7 : n2 = T1.length := by have := of_decide_eq_false hz7; omega
      have HF := Lib.hid (HX.out _ HQ5.out.1.2 (by rw [e7]; exact HQ5.out.1.1))
      go_wp2_with fail
      go_meet
      case rel => exact HF
  case rest =>
    clear HX HQ5 q0 f0 hz7 h7 hc7 hn2 hn2' hlc1 hcm1 hs1 hs2 hbl
    have HX := hcut
    clear hcut
    obtain ⟨T, hT⟩ : ∃ T, T = T1.take 7 := ⟨_, rfl⟩
    have hT7 : T.length ≤ 7 := by rw [hT, List.length_take]; omega
    have HOK2 : Hid (∀ t ∈ T, t.Ok) := fun t ht => HOK.out t (List.mem_of_mem_take (by rw [← hT]; exact ht))
    rw [← hT] at HX
    clear hT HOK hT1
    obtain ⟨t0, t1, t2, t3, t4, t5, t6, t7, t8, t9, t10, t11, t12, t13⟩ := tlies (T := 37) HX.out.th
    have hg2 : w.heap.size + 1 < wc.heap.size := HX.out.th.lt
    go_upto_region 11 with fail
    have hNT := (Has.made wc 37 (tcs n1 lk lf li lb lt hk hf hi hb ht a bb (!c))).of_alloc (.cells #[.string (S n1), .int .i64 0, .bool false, .int .i64 0, .int .u64 0, .string ⟨#[]⟩, .int .i64 0, .bool false, .int .i64 0, .int .u64 0, .string ⟨#[]⟩, .bool false, .bool false, .bool false] 37)
    have hTH := has_new wc (.cells (tcs n1 lk lf li lb lt hk hf hi hb ht a bb (!c)) 37) 37 #[.string (S n1), .int .i64 0, .bool false, .int .i64 0, .int .u64 0, .string ⟨#[]⟩, .int .i64 0, .bool false, .int .i64 0, .int .u64 0, .string ⟨#[]⟩, .bool false, .bool false, .bool false]
    have hX2 := HX.out.below (up2 (w := wc) (.cells (tcs n1 lk lf li lb lt hk hf hi hb ht a bb (!c)) 37) (.cells #[.string (S n1), .int .i64 0, .bool false, .int .i64 0, .int .u64 0, .string ⟨#[]⟩, .int .i64 0, .bool false, .int .i64 0, .int .u64 0, .string ⟨#[]⟩, .bool false, .bool false, .bool false] 37))
    have hz2 : ((wc.alloc (.cells (tcs n1 lk lf li lb lt hk hf hi hb ht a bb (!c)) 37)).alloc (.cells #[.string (S n1), .int .i64 0, .bool false, .int .i64 0, .int .u64 0, .string ⟨#[]⟩, .int .i64 0, .bool false, .int .i64 0, .int .u64 0, .string ⟨#[]⟩, .bool false, .bool false, .bool false] 37)).heap.size = wc.heap.size + 2 := by simp
    clear t0 t1 t2 t3 t4 t5 t6 t7 t8 t9 t10 t11 t12 t13 HX
    generalize (wc.alloc (.cells (tcs n1 lk lf li lb lt hk hf hi hb ht a bb (!c)) 37)).alloc (.cells #[.string (S n1), .int .i64 0, .bool false, .int .i64 0, .int .u64 0, .string ⟨#[]⟩, .int .i64 0, .bool false, .int .i64 0, .int .u64 0, .string ⟨#[]⟩, .bool false, .bool false, .bool false] 37) = W10 at hNT hTH hX2 hz2 ⊢
    generalize wc.heap.size = G at hNT hTH hz2 hg2 ⊢
    have HNT := Lib.hid hNT
    have HTH := Lib.hid (show Has W10 (G + 1) 37 (tcs n1 0 false 0 0 [] 0 false 0 0 [] false false false) from hTH)
    have HX := Lib.hid hX2
    have hy := qlies hX2.q
    clear hNT hTH hX2
    have hgl : w.heap.size < W10.heap.size := by omega
    go_cut [9, 10, 11] from 47 to 49 (fun v9 v10 v11 W => ∃ g9 g10 g11, v9 = .pointer (some ⟨g9, 0, none⟩) ∧ v10 = .pointer (some ⟨g10, 0, none⟩) ∧ v11 = .pointer (some ⟨g11, 0, none⟩) ∧ Hid (QHas W g9 A1 T.length cap1 [] d 1000 ∧ QHas W g10 A1 T.length cap1 [] d 1000 ∧ QHas W g11 A1 T.length cap1 [] d 1000 ∧ g9 ≠ g10 ∧ g9 ≠ g11 ∧ g10 ≠ g11 ∧ G + 2 ≤ g9 ∧ G + 2 ≤ g10 ∧ G + 2 ≤ g11 ∧ Below W10.heap.size W10 W))
    case first =>
      have hyd : QryS w.heap.size A1 T.length cap1 [] d 1000 W10.drew := hy
      have HQK : Hid (∀ W, Below W10.heap.size W10 W → QryS w.heap.size A1 T.length cap1 [] d 1000 W) := fun W hW => qlies (HX.out.below hW).q
      have HK1 : Hid (∀ o, Below W10.heap.size W10 (W10.alloc o).drew) := fun o => (up1 o).drew
      have HK2 : Hid (∀ o p, Below W10.heap.size W10 ((W10.alloc o).alloc p).drew) := fun o p => (up2 o p).drew
      have HK3 : Hid (∀ o p q, Below W10.heap.size W10 (((W10.alloc o).alloc p).alloc q).drew) := fun o p q => (up3 o p q).drew
      have h2 := (((Has.made W10 24 #[.slice A1 T.length cap1, .string (S []), .bool d, .int .i64 1000]).of_alloc (.cells #[.slice A1 T.length cap1, .string (S []), .bool d, .int .i64 1000] 24)).of_alloc (.cells #[.slice A1 T.length cap1, .string (S []), .bool d, .int .i64 1000] 24))
      have h3 := ((has_new W10 (.cells #[.slice A1 T.length cap1, .string (S []), .bool d, .int .i64 1000] 24) 24 #[.slice A1 T.length cap1, .string (S []), .bool d, .int .i64 1000]).of_alloc (.cells #[.slice A1 T.length cap1, .string (S []), .bool d, .int .i64 1000] 24))
      have h4 := Has.made ((W10.alloc (.cells #[.slice A1 T.length cap1, .string (S []), .bool d, .int .i64 1000] 24)).alloc (.cells #[.slice A1 T.length cap1, .string (S []), .bool d, .int .i64 1000] 24)) 24 #[.slice A1 T.length cap1, .string (S []), .bool d, .int .i64 1000]
      have hzz : ((W10.alloc (.cells #[.slice A1 T.length cap1, .string (S []), .bool d, .int .i64 1000] 24)).alloc (.cells #[.slice A1 T.length cap1, .string (S []), .bool d, .int .i64 1000] 24)).heap.size = G + 4 := by rw [asize, asize, hz2]
      rw [hz2] at h2 h3
      rw [hzz] at h4
      have HH : Hid (QHas ((((W10.alloc (.cells #[.slice A1 T.length cap1, .string (S []), .bool d, .int .i64 1000] 24)).alloc (.cells #[.slice A1 T.length cap1, .string (S []), .bool d, .int .i64 1000] 24)).alloc (.cells #[.slice A1 T.length cap1, .string (S []), .bool d, .int .i64 1000] 24)).drew) (G + 2) A1 T.length cap1 [] d 1000 ∧ QHas ((((W10.alloc (.cells #[.slice A1 T.length cap1, .string (S []), .bool d, .int .i64 1000] 24)).alloc (.cells #[.slice A1 T.length cap1, .string (S []), .bool d, .int .i64 1000] 24)).alloc (.cells #[.slice A1 T.length cap1, .string (S []), .bool d, .int .i64 1000] 24)).drew) (G + 2 + 1) A1 T.length cap1 [] d 1000 ∧ QHas ((((W10.alloc (.cells #[.slice A1 T.length cap1, .string (S []), .bool d, .int .i64 1000] 24)).alloc (.cells #[.slice A1 T.length cap1, .string (S []), .bool d, .int .i64 1000] 24)).alloc (.cells #[.slice A1 T.length cap1, .string (S []), .bool d, .int .i64 1000] 24)).drew) (G + 2 + 1 + 1) A1 T.length cap1 [] d 1000) := ⟨h2, h3, h4⟩
      go_region_held3 (QryS w.heap.size A1 T.length cap1 [] d 1000) (first | exact hyd | exact HQK.out _ (HK1.out _) | exact HQK.out _ (HK2.out _ _) | exact HQK.out _ (HK3.out _ _ _)) (fail)
      all_goals
        clear h2 h3 h4 hzz hyd hy HQK HK1 HK2
        go_wp2_with fail
        go_meet
        case rel => exact ⟨_, _, _, rfl, rfl, rfl, Lib.hid ⟨by first | exact HH.out.1 | exact HH.out.2.1 | exact HH.out.2.2, by first | exact HH.out.1 | exact HH.out.2.1 | exact HH.out.2.2, by first | exact HH.out.1 | exact HH.out.2.1 | exact HH.out.2.2, by omega, by omega, by omega, by omega, by omega, by omega, HK3.out _ _ _⟩⟩
    case rest =>
      obtain ⟨g9, g10, g11, rfl, rfl, rfl, HC⟩ := hcut
      obtain ⟨i0, hi0, hz0, hz1, hz2'⟩ := info_parts tInfo
      have HI := Lib.hid (And.intro hi0 (And.intro hz0 (And.intro hz1 hz2')))
      have hgs : G + 2 ≤ g9 ∧ G + 2 ≤ g10 ∧ G + 2 ≤ g11 ∧ g9 ≠ g10 ∧ g9 ≠ g11 ∧ g10 ≠ g11 := ⟨HC.out.2.2.2.2.2.2.1, HC.out.2.2.2.2.2.2.2.1, HC.out.2.2.2.2.2.2.2.2.1, HC.out.2.2.2.1, HC.out.2.2.2.2.1, HC.out.2.2.2.2.2.1⟩
      have HG := Lib.hid hgs
      have HQ9 := Lib.hid HC.out.1
      have HQ10 := Lib.hid HC.out.2.1
      have HQ11 := Lib.hid HC.out.2.2.1
      have HB := Lib.hid HC.out.2.2.2.2.2.2.2.2.2
      have hW : wc.heap.size = wc.heap.size := rfl
      have HONE : Hid (∀ u ∈ tms T, u.oneCell' = true) := fun u hu => by
        obtain ⟨x, -, hx⟩ := List.mem_flatMap.1 hu
        exact Fnd.Trm.cs_one x u hx
      clear hi0 hz0 hz1 hz2' HC hy hgs hW
      have hX0 := HX
      obtain ⟨W11, hW11⟩ : ∃ W, W = wc := ⟨_, rfl⟩
      rw [← hW11] at HQ9 HQ10 HQ11 HB ⊢
      clear hW11
      have hXk := HX.out.below HB.out
      have q0 : W11.cell? ⟨w.heap.size, 0, none⟩ = some (.slice A1 T.length cap1) := hXk.q.cell 0
      obtain ⟨t0, t1, t2, t3, t4, t5, t6, t7, t8, t9, t10, t11, t12, t13⟩ : TLies (w.heap.size + 1) n1 lk lf li lb lt hk hf hi hb ht a bb c W11 := tlies (T := 37) hXk.th
      have HOWN := Lib.hid (World.ownsRow_lit (base := W11.heap.size) (e := 37) (size := 14) W11 (tcs n1 lk lf li lb lt hk hf hi hb ht a bb c) 1 (Nat.le_refl _) (by decide) rfl)
      have HROW := Lib.hid (hXk.row.below (up1 (w := W11) (.cells (tcs n1 lk lf li lb lt hk hf hi hb ht a bb c) 37)))
      have hbs : W11.heap.size ≤ (W11.alloc (.cells (tcs n1 lk lf li lb lt hk hf hi hb ht a bb c) 37)).heap.size := by rw [asize]; omega
      have hq9 := HQ9.out.lt
      have hgw : W10.heap.size ≤ W11.heap.size := HB.out.size
      have hbo : w.heap.size < W11.heap.size := by omega
      have HLT : Hid (∀ x ∈ [g9, g10, g11], x < W11.heap.size) := by
        intro x hx
        have h9 := HQ9.out.lt
        have h10 := HQ10.out.lt
        have h11 := HQ11.out.lt
        simp only [List.mem_cons, List.not_mem_nil, or_false] at hx
        rcases hx with rfl | rfl | rfl <;> assumption
      have hbo2 : w.heap.size + 1 < W11.heap.size := by omega
      clear hXk
      go_upto_region 13 with (at_builtin; refine wpList_append_rowC rfl (.tmp 51) (.tmp 53) 22 rfl W11.heap.size 37 i0 (.agg (tcs [] 0 false 0 0 [] 0 false 0 0 [] false false false)) 14 120 Try.underlying22 HI.out.1 HI.out.2.1 HI.out.2.2.1 HI.out.2.2.2 rfl (by decide) (.slice (some ⟨W11.heap.size, 0, none⟩) 1 1) 1 (Fnd.Trm.cs ⟨n1, ⟨lk, lf, li, lb, lt⟩, ⟨hk, hf, hi, hb, ht⟩, a, bb, c⟩) rfl HOWN.out A1 T.length cap1 (tms T) rfl HROW.out (tms_len T) HONE.out (by simp only [maxLen]; omega) (by omega) hbs ?_; intro v9 w9 hown9 hg9; have hb9 : Below W11.heap.size W11 w9 := fndGrown (up1 (w := W11) (.cells (tcs n1 lk lf li lb lt hk hf hi hb ht a bb c) 37)) hg9 hbs (fun q hq => by have e : some W11.heap.size = some q := hq; injection e with e; omega); obtain ⟨AQ0, cq0, rfl, hlc0, hcm0, -, -, hr9⟩ := own_rowC hown9 (s := [g9, g10, g11]) (HLT.out) (by decide); have hq := HQ9.out.below hb9 HQ9.out.lt; have c0 := hq.cell 0; have f0 := hq.free 0)
      clear t0 t1 t2 t3 t4 t5 t6 t7 t8 t9 t10 t11 t12 t13 q0 HOWN HROW hg9 hbs HLT
      have ho := Only.set w9 g9 0 (.slice AQ0 (1 + T.length) cq0)
      have hq2 : QHas (w9.setCell ⟨g9, 0, none⟩ (.slice AQ0 (1 + T.length) cq0)) g9 AQ0 (1 + T.length) cq0 [] d 1000 := by
        have := hq.set 0 (.slice AQ0 (1 + T.length) cq0)
        simp at this
        exact this
      have hHQ10 := ho.has (HQ10.out.below hb9 HQ10.out.lt) (by have := HG.out; omega : g10 ≠ g9)
      have hHQ11 := ho.has (HQ11.out.below hb9 HQ11.out.lt) (by have := HG.out; omega : g11 ≠ g9)
      have hrow0 : RowC (w9.setCell ⟨g9, 0, none⟩ (.slice AQ0 (1 + T.length) cq0)) [g9, g10, g11] AQ0 (tms (⟨n1, ⟨lk, lf, li, lb, lt⟩, ⟨hk, hf, hi, hb, ht⟩, a, bb, c⟩ :: T)) := hr9.mv (Mv.of_only ho (s := [g9, g10, g11]) (by simp)) (by simp)
      have hB' := ho.below (HB.out.trans (hb9.mono hgw)) (HB.out.trans (hb9.mono hgw)).size (by have := HG.out; omega)
      generalize w9.setCell ⟨g9, 0, none⟩ (.slice AQ0 (1 + T.length) cq0) = W12 at hq2 hHQ10 hHQ11 hrow0 hB' ⊢
      clear HQ9 HQ10 HQ11 HB  hr9 hown9 hb9 hq c0 f0 ho hq9 hgw hbo hbo2
      have HQ9 := Lib.hid hq2
      have HQ10 := Lib.hid hHQ10
      have HQ11 := Lib.hid hHQ11
      have HR0 := Lib.hid hrow0
      have HB := Lib.hid hB'
      clear hq2 hHQ10 hHQ11 hrow0 hB'
      have hXk := HX.out.below HB.out
      have q0 : W12.cell? ⟨w.heap.size, 0, none⟩ = some (.slice A1 T.length cap1) := hXk.q.cell 0
      obtain ⟨t0, t1, t2, t3, t4, t5, t6, t7, t8, t9, t10, t11, t12, t13⟩ : TLies G n1 lk lf li lb lt hk hf hi hb ht a bb (!c) W12 := tlies (T := 37) (HNT.out.below HB.out HNT.out.lt)
      have HOWN := Lib.hid (World.ownsRow_lit (base := W12.heap.size) (e := 37) (size := 14) W12 (tcs n1 lk lf li lb lt hk hf hi hb ht a bb (!c)) 1 (Nat.le_refl _) (by decide) rfl)
      have HROW := Lib.hid (hXk.row.below (up1 (w := W12) (.cells (tcs n1 lk lf li lb lt hk hf hi hb ht a bb (!c)) 37)))
      have hbs : W12.heap.size ≤ (W12.alloc (.cells (tcs n1 lk lf li lb lt hk hf hi hb ht a bb (!c)) 37)).heap.size := by rw [asize]; omega
      have hq9 := HQ10.out.lt
      have hgw : W10.heap.size ≤ W12.heap.size := HB.out.size
      have hbo : w.heap.size < W12.heap.size := by omega
      have HLT : Hid (∀ x ∈ [g9, g10, g11], x < W12.heap.size) := by
        intro x hx
        have h9 := HQ9.out.lt
        have h10 := HQ10.out.lt
        have h11 := HQ11.out.lt
        simp only [List.mem_cons, List.not_mem_nil, or_false] at hx
        rcases hx with rfl | rfl | rfl <;> assumption
      have hbo2 : G < W12.heap.size := by omega
      clear hXk
      go_upto_region 14 with (at_builtin; refine wpList_append_rowC rfl (.tmp 57) (.tmp 59) 22 rfl W12.heap.size 37 i0 (.agg (tcs [] 0 false 0 0 [] 0 false 0 0 [] false false false)) 14 120 Try.underlying22 HI.out.1 HI.out.2.1 HI.out.2.2.1 HI.out.2.2.2 rfl (by decide) (.slice (some ⟨W12.heap.size, 0, none⟩) 1 1) 1 (Fnd.Trm.cs ⟨n1, ⟨lk, lf, li, lb, lt⟩, ⟨hk, hf, hi, hb, ht⟩, a, bb, !c⟩) rfl HOWN.out A1 T.length cap1 (tms T) rfl HROW.out (tms_len T) HONE.out (by simp only [maxLen]; omega) (by omega) hbs ?_; intro v9 w9 hown9 hg9; have hb9 : Below W12.heap.size W12 w9 := fndGrown (up1 (w := W12) (.cells (tcs n1 lk lf li lb lt hk hf hi hb ht a bb (!c)) 37)) hg9 hbs (fun q hq => by have e : some W12.heap.size = some q := hq; injection e with e; omega); obtain ⟨AQ1, cq1, rfl, hlc1, hcm1, -, -, hr9⟩ := own_rowC hown9 (s := [g9, g10, g11]) (HLT.out) (by decide); have hq := HQ10.out.below hb9 HQ10.out.lt; have c0 := hq.cell 0; have f0 := hq.free 0)
      clear t0 t1 t2 t3 t4 t5 t6 t7 t8 t9 t10 t11 t12 t13 q0 HOWN HROW hg9 hbs HLT
      have ho := Only.set w9 g10 0 (.slice AQ1 (1 + T.length) cq1)
      have hq2 : QHas (w9.setCell ⟨g10, 0, none⟩ (.slice AQ1 (1 + T.length) cq1)) g10 AQ1 (1 + T.length) cq1 [] d 1000 := by
        have := hq.set 0 (.slice AQ1 (1 + T.length) cq1)
        simp at this
        exact this
      have hHQ9 := ho.has (HQ9.out.below hb9 HQ9.out.lt) (by have := HG.out; omega : g9 ≠ g10)
      have hHQ11 := ho.has (HQ11.out.below hb9 HQ11.out.lt) (by have := HG.out; omega : g11 ≠ g10)
      have hrow1 : RowC (w9.setCell ⟨g10, 0, none⟩ (.slice AQ1 (1 + T.length) cq1)) [g9, g10, g11] AQ1 (tms (⟨n1, ⟨lk, lf, li, lb, lt⟩, ⟨hk, hf, hi, hb, ht⟩, a, bb, !c⟩ :: T)) := hr9.mv (Mv.of_only ho (s := [g9, g10, g11]) (by simp)) (by simp)
      have hrow0 := (HR0.out.mv (Mv.of_below hb9 []) (by simp)).mv (Mv.of_only ho (s := [g9, g10, g11]) (by simp)) (by simp)
      have hB' := ho.below (HB.out.trans (hb9.mono hgw)) (HB.out.trans (hb9.mono hgw)).size (by have := HG.out; omega)
      generalize w9.setCell ⟨g10, 0, none⟩ (.slice AQ1 (1 + T.length) cq1) = W13 at hq2 hHQ9 hHQ11 hrow0 hrow1 hB' ⊢
      clear HQ10 HQ9 HQ11 HB HR0 hr9 hown9 hb9 hq c0 f0 ho hq9 hgw hbo hbo2
      have HQ10 := Lib.hid hq2
      have HQ9 := Lib.hid hHQ9
      have HQ11 := Lib.hid hHQ11
      have HR0 := Lib.hid hrow0
      have HR1 := Lib.hid hrow1
      have HB := Lib.hid hB'
      clear hq2 hHQ9 hHQ11 hrow0 hrow1 hB'
      have hXk := HX.out.below HB.out
      have q0 : W13.cell? ⟨w.heap.size, 0, none⟩ = some (.slice A1 T.length cap1) := hXk.q.cell 0
      obtain ⟨t0, t1, t2, t3, t4, t5, t6, t7, t8, t9, t10, t11, t12, t13⟩ : TLies (G + 1) n1 0 false 0 0 [] 0 false 0 0 [] false false false W13 := tlies (T := 37) (HTH.out.below HB.out HTH.out.lt)
      have HOWN := Lib.hid (World.ownsRow_lit (base := W13.heap.size) (e := 37) (size := 14) W13 (tcs n1 0 false 0 0 [] 0 false 0 0 [] false false false) 1 (Nat.le_refl _) (by decide) rfl)
      have HROW := Lib.hid (hXk.row.below (up1 (w := W13) (.cells (tcs n1 0 false 0 0 [] 0 false 0 0 [] false false false) 37)))
      have hbs : W13.heap.size ≤ (W13.alloc (.cells (tcs n1 0 false 0 0 [] 0 false 0 0 [] false false false) 37)).heap.size := by rw [asize]; omega
      have hq9 := HQ11.out.lt
      have hgw : W10.heap.size ≤ W13.heap.size := HB.out.size
      have hbo : w.heap.size < W13.heap.size := by omega
      have HLT : Hid (∀ x ∈ [g9, g10, g11], x < W13.heap.size) := by
        intro x hx
        have h9 := HQ9.out.lt
        have h10 := HQ10.out.lt
        have h11 := HQ11.out.lt
        simp only [List.mem_cons, List.not_mem_nil, or_false] at hx
        rcases hx with rfl | rfl | rfl <;> assumption
      have hbo2 : G + 1 < W13.heap.size := by omega
      clear hXk
      go_upto_region 15 with (at_builtin; refine wpList_append_rowC rfl (.tmp 63) (.tmp 65) 22 rfl W13.heap.size 37 i0 (.agg (tcs [] 0 false 0 0 [] 0 false 0 0 [] false false false)) 14 120 Try.underlying22 HI.out.1 HI.out.2.1 HI.out.2.2.1 HI.out.2.2.2 rfl (by decide) (.slice (some ⟨W13.heap.size, 0, none⟩) 1 1) 1 (Fnd.Trm.cs ⟨n1, ⟨0, false, 0, 0, []⟩, ⟨0, false, 0, 0, []⟩, false, false, false⟩) rfl HOWN.out A1 T.length cap1 (tms T) rfl HROW.out (tms_len T) HONE.out (by simp only [maxLen]; omega) (by omega) hbs ?_; intro v9 w9 hown9 hg9; have hb9 : Below W13.heap.size W13 w9 := fndGrown (up1 (w := W13) (.cells (tcs n1 0 false 0 0 [] 0 false 0 0 [] false false false) 37)) hg9 hbs (fun q hq => by have e : some W13.heap.size = some q := hq; injection e with e; omega); obtain ⟨AQ2, cq2, rfl, hlc2, hcm2, -, -, hr9⟩ := own_rowC hown9 (s := [g9, g10, g11]) (HLT.out) (by decide); have hq := HQ11.out.below hb9 HQ11.out.lt; have c0 := hq.cell 0; have f0 := hq.free 0)
      clear t0 t1 t2 t3 t4 t5 t6 t7 t8 t9 t10 t11 t12 t13 q0 HOWN HROW hg9 hbs HLT
      have ho := Only.set w9 g11 0 (.slice AQ2 (1 + T.length) cq2)
      have hq2 : QHas (w9.setCell ⟨g11, 0, none⟩ (.slice AQ2 (1 + T.length) cq2)) g11 AQ2 (1 + T.length) cq2 [] d 1000 := by
        have := hq.set 0 (.slice AQ2 (1 + T.length) cq2)
        simp at this
        exact this
      have hHQ9 := ho.has (HQ9.out.below hb9 HQ9.out.lt) (by have := HG.out; omega : g9 ≠ g11)
      have hHQ10 := ho.has (HQ10.out.below hb9 HQ10.out.lt) (by have := HG.out; omega : g10 ≠ g11)
      have hrow2 : RowC (w9.setCell ⟨g11, 0, none⟩ (.slice AQ2 (1 + T.length) cq2)) [g9, g10, g11] AQ2 (tms (⟨n1, ⟨0, false, 0, 0, []⟩, ⟨0, false, 0, 0, []⟩, false, false, false⟩ :: T)) := hr9.mv (Mv.of_only ho (s := [g9, g10, g11]) (by simp)) (by simp)
      have hrow0 := (HR0.out.mv (Mv.of_below hb9 []) (by simp)).mv (Mv.of_only ho (s := [g9, g10, g11]) (by simp)) (by simp)
      have hrow1 := (HR1.out.mv (Mv.of_below hb9 []) (by simp)).mv (Mv.of_only ho (s := [g9, g10, g11]) (by simp)) (by simp)
      have hB' := ho.below (HB.out.trans (hb9.mono hgw)) (HB.out.trans (hb9.mono hgw)).size (by have := HG.out; omega)
      generalize w9.setCell ⟨g11, 0, none⟩ (.slice AQ2 (1 + T.length) cq2) = W14 at hq2 hHQ9 hHQ10 hrow0 hrow1 hrow2 hB' ⊢
      clear HQ11 HQ9 HQ10 HB HR0 HR1 hr9 hown9 hb9 hq c0 f0 ho hq9 hgw hbo hbo2
      have HQ11 := Lib.hid hq2
      have HQ9 := Lib.hid hHQ9
      have HQ10 := Lib.hid hHQ10
      have HR0 := Lib.hid hrow0
      have HR1 := Lib.hid hrow1
      have HR2 := Lib.hid hrow2
      have HB := Lib.hid hB'
      clear hq2 hHQ9 hHQ10 hrow0 hrow1 hrow2 hB'
      -- what the three find
      obtain ⟨Ls, hLs⟩ : ∃ Ls, Ls = M.map Ppr.L := ⟨_, rfl⟩
      have hLl : Ls.length ≤ 30 := by rw [hLs, List.length_map]; exact hM30
      have HLS := Lib.hid hLs
      clear hLs
      obtain ⟨qa0, hqa0⟩ : ∃ q, q = (⟨⟨n1, ⟨lk, lf, li, lb, lt⟩, ⟨hk, hf, hi, hb, ht⟩, a, bb, c⟩ :: T, [], d, 1000⟩ : Fnd.Qry) := ⟨_, rfl⟩
      have HQA0 := Lib.hid hqa0
      clear hqa0
      have HRUN0 : Hid (∀ W, Below W14.heap.size W14 W → Calls Try.prog 16 #[.agg #[.slice AQ0 (1 + T.length) cq0, .string (S []), .bool d, .int .i64 1000], .slice B M.length capB] W fun r w' => ∃ A n cap, r = .returned (.tuple #[.slice A n cap, .int .i64 (Fnd.check qa0)]) ∧ (Fnd.check qa0 = 0 → n = (Fnd.run qa0 Ls).length ∧ n ≤ cap ∧ RowC w' [] A (nvs (Fnd.run qa0 Ls))) ∧ Below W.heap.size W w') := fun W hW => by
        have h := run_any (w := W) (T := ⟨n1, ⟨lk, lf, li, lb, lt⟩, ⟨hk, hf, hi, hb, ht⟩, a, bb, c⟩ :: T) (A := AQ0) (B := B) (cap := cq0) (capB := capB) (L := M) [] d 1000 ((HR0.out.mv (Mv.of_below hW []) (by simp)).sub (by simp)) (by
          intro x hx
          rcases List.mem_cons.1 hx with rfl | hx
          · exact ⟨HTO.out.1, HTO.out.2, show n1.length ≤ 1000000 by omega⟩
          · exact HOK2.out x hx) (by decide) ((HX.out.below (HB.out.trans (hW.mono HB.out.size))).pps) (by rw [List.length_cons]; omega) (by omega) (fun h => absurd rfl h)
        rw [List.length_cons, Nat.add_comm, ← HQA0.out, ← HLS.out] at h
        refine h.mono ?_
        rintro r w' ⟨hb, ⟨h1, rfl⟩ | ⟨h1, A, cap, rfl, h2, h3⟩⟩
        · exact ⟨none, 0, 0, rfl, fun e => absurd e h1, hb⟩
        · exact ⟨A, _, cap, by rw [h1], fun _ => ⟨rfl, h3, h2⟩, hb⟩
      obtain ⟨qa1, hqa1⟩ : ∃ q, q = (⟨⟨n1, ⟨lk, lf, li, lb, lt⟩, ⟨hk, hf, hi, hb, ht⟩, a, bb, !c⟩ :: T, [], d, 1000⟩ : Fnd.Qry) := ⟨_, rfl⟩
      have HQA1 := Lib.hid hqa1
      clear hqa1
      have HRUN1 : Hid (∀ W, Below W14.heap.size W14 W → Calls Try.prog 16 #[.agg #[.slice AQ1 (1 + T.length) cq1, .string (S []), .bool d, .int .i64 1000], .slice B M.length capB] W fun r w' => ∃ A n cap, r = .returned (.tuple #[.slice A n cap, .int .i64 (Fnd.check qa1)]) ∧ (Fnd.check qa1 = 0 → n = (Fnd.run qa1 Ls).length ∧ n ≤ cap ∧ RowC w' [] A (nvs (Fnd.run qa1 Ls))) ∧ Below W.heap.size W w') := fun W hW => by
        have h := run_any (w := W) (T := ⟨n1, ⟨lk, lf, li, lb, lt⟩, ⟨hk, hf, hi, hb, ht⟩, a, bb, !c⟩ :: T) (A := AQ1) (B := B) (cap := cq1) (capB := capB) (L := M) [] d 1000 ((HR1.out.mv (Mv.of_below hW []) (by simp)).sub (by simp)) (by
          intro x hx
          rcases List.mem_cons.1 hx with rfl | hx
          · exact ⟨HTO.out.1, HTO.out.2, show n1.length ≤ 1000000 by omega⟩
          · exact HOK2.out x hx) (by decide) ((HX.out.below (HB.out.trans (hW.mono HB.out.size))).pps) (by rw [List.length_cons]; omega) (by omega) (fun h => absurd rfl h)
        rw [List.length_cons, Nat.add_comm, ← HQA1.out, ← HLS.out] at h
        refine h.mono ?_
        rintro r w' ⟨hb, ⟨h1, rfl⟩ | ⟨h1, A, cap, rfl, h2, h3⟩⟩
        · exact ⟨none, 0, 0, rfl, fun e => absurd e h1, hb⟩
        · exact ⟨A, _, cap, by rw [h1], fun _ => ⟨rfl, h3, h2⟩, hb⟩
      obtain ⟨qa2, hqa2⟩ : ∃ q, q = (⟨⟨n1, ⟨0, false, 0, 0, []⟩, ⟨0, false, 0, 0, []⟩, false, false, false⟩ :: T, [], d, 1000⟩ : Fnd.Qry) := ⟨_, rfl⟩
      have HQA2 := Lib.hid hqa2
      clear hqa2
      have HRUN2 : Hid (∀ W, Below W14.heap.size W14 W → Calls Try.prog 16 #[.agg #[.slice AQ2 (1 + T.length) cq2, .string (S []), .bool d, .int .i64 1000], .slice B M.length capB] W fun r w' => ∃ A n cap, r = .returned (.tuple #[.slice A n cap, .int .i64 (Fnd.check qa2)]) ∧ (Fnd.check qa2 = 0 → n = (Fnd.run qa2 Ls).length ∧ n ≤ cap ∧ RowC w' [] A (nvs (Fnd.run qa2 Ls))) ∧ Below W.heap.size W w') := fun W hW => by
        have h := run_any (w := W) (T := ⟨n1, ⟨0, false, 0, 0, []⟩, ⟨0, false, 0, 0, []⟩, false, false, false⟩ :: T) (A := AQ2) (B := B) (cap := cq2) (capB := capB) (L := M) [] d 1000 ((HR2.out.mv (Mv.of_below hW []) (by simp)).sub (by simp)) (by
          intro x hx
          rcases List.mem_cons.1 hx with rfl | hx
          · exact ⟨zval_ok, zval_ok, show n1.length ≤ 1000000 by omega⟩
          · exact HOK2.out x hx) (by decide) ((HX.out.below (HB.out.trans (hW.mono HB.out.size))).pps) (by rw [List.length_cons]; omega) (by omega) (fun h => absurd rfl h)
        rw [List.length_cons, Nat.add_comm, ← HQA2.out, ← HLS.out] at h
        refine h.mono ?_
        rintro r w' ⟨hb, ⟨h1, rfl⟩ | ⟨h1, A, cap, rfl, h2, h3⟩⟩
        · exact ⟨none, 0, 0, rfl, fun e => absurd e h1, hb⟩
        · exact ⟨A, _, cap, by rw [h1], fun _ => ⟨rfl, h3, h2⟩, hb⟩
      obtain ⟨q0, q1, q2, q3⟩ : QryS g9 AQ0 (1 + T.length) cq0 [] d 1000 W14 := qlies (HQ9.out)
      go_wp2_with fail
      refine (HRUN0.out _ (Below.refl _ _)).mono ?_
      rintro r W15 ⟨BX0, nx0, cx0, rfl, hrun0, hb1⟩
      have HBR := Lib.hid hb1
      have HRR0 := Lib.hid hrun0
      clear hb1 hrun0 q0 q1 q2 q3
      go_upto_region 16 with fail
      obtain ⟨q0, q1, q2, q3⟩ : QryS g10 AQ1 (1 + T.length) cq1 [] d 1000 W15 := qlies (HQ10.out.below HBR.out HQ10.out.lt)
      go_wp2_with fail
      refine (HRUN1.out _ HBR.out).mono ?_
      rintro r W16 ⟨BX1, nx1, cx1, rfl, hrun1, hb1⟩
      have HRR1 := Lib.hid hrun1
      replace HRR0 := Lib.hid (fun e => (⟨(HRR0.out e).1, (HRR0.out e).2.1, (HRR0.out e).2.2.below hb1⟩ : _ ∧ _ ∧ RowC W16 [] BX0 (nvs (Fnd.run qa0 Ls))))
      replace HBR := Lib.hid (HBR.out.trans (hb1.mono HBR.out.size))
      clear hb1 hrun1 q0 q1 q2 q3
      go_upto_region 17 with fail
      obtain ⟨q0, q1, q2, q3⟩ : QryS g11 AQ2 (1 + T.length) cq2 [] d 1000 W16 := qlies (HQ11.out.below HBR.out HQ11.out.lt)
      go_wp2_with fail
      refine (HRUN2.out _ HBR.out).mono ?_
      rintro r W17 ⟨BX2, nx2, cx2, rfl, hrun2, hb1⟩
      have HRR2 := Lib.hid hrun2
      replace HRR0 := Lib.hid (fun e => (⟨(HRR0.out e).1, (HRR0.out e).2.1, (HRR0.out e).2.2.below hb1⟩ : _ ∧ _ ∧ RowC W17 [] BX0 (nvs (Fnd.run qa0 Ls))))
      replace HRR1 := Lib.hid (fun e => (⟨(HRR1.out e).1, (HRR1.out e).2.1, (HRR1.out e).2.2.below hb1⟩ : _ ∧ _ ∧ RowC W17 [] BX1 (nvs (Fnd.run qa1 Ls))))
      replace HBR := Lib.hid (HBR.out.trans (hb1.mono HBR.out.size))
      clear hb1 hrun2 q0 q1 q2 q3
      go_upto_region 18 with fail
      have HCHK : Hid (∀ W, Below W17.heap.size W17 W → Calls Try.prog 11 #[.agg #[.slice AQ0 (1 + T.length) cq0, .string (S []), .bool d, .int .i64 1000]] W fun r w' => r = .returned (.int .i64 (Fnd.check qa0)) ∧ Below W.heap.size W w') := fun W hW => by
        have h := lfcheck_any (w := W) (T := ⟨n1, ⟨lk, lf, li, lb, lt⟩, ⟨hk, hf, hi, hb, ht⟩, a, bb, c⟩ :: T) (A := AQ0) (cap := cq0) [] d 1000 ((HR0.out.mv (Mv.of_below (HBR.out.trans (hW.mono HBR.out.size)) []) (by simp)).sub (by simp)) (by
          intro x hx
          rcases List.mem_cons.1 hx with rfl | hx
          · exact ⟨HTO.out.1, HTO.out.2, show n1.length ≤ 1000000 by omega⟩
          · exact HOK2.out x hx) (by decide) (by rw [List.length_cons]; omega)
        rw [List.length_cons, Nat.add_comm, ← HQA0.out] at h
        exact h
      have HC1 : Hid (Fnd.check qa1 = Fnd.check qa0) := by
        show _ = _
        rw [HQA1.out, HQA0.out]
        exact Fnd.more_neg ⟨n1, ⟨lk, lf, li, lb, lt⟩, ⟨hk, hf, hi, hb, ht⟩, a, bb, c⟩ T d (!c) hT7
      have HC2 : Hid (Fnd.check qa0 = 0 → Fnd.check qa2 = 0) := fun h => by
        rw [HQA2.out]
        rw [HQA0.out] at h
        exact Fnd.more_there ⟨n1, ⟨lk, lf, li, lb, lt⟩, ⟨hk, hf, hi, hb, ht⟩, a, bb, c⟩ T d ⟨0, false, 0, 0, []⟩ ⟨0, false, 0, 0, []⟩ hT7 h
      have HFX : Hid (Fnd.run qa0 Ls = (Fnd.run qa2 Ls).filter (fun i => Fnd.holds ⟨n1, ⟨lk, lf, li, lb, lt⟩, ⟨hk, hf, hi, hb, ht⟩, a, bb, c⟩ (Ls.getD i [])) ∧ Fnd.run qa1 Ls = (Fnd.run qa2 Ls).filter (fun i => !Fnd.holds ⟨n1, ⟨lk, lf, li, lb, lt⟩, ⟨hk, hf, hi, hb, ht⟩, a, bb, c⟩ (Ls.getD i []))) := by
        rw [HQA0.out, HQA1.out, HQA2.out]
        exact Fnd.more_rows ⟨n1, ⟨lk, lf, li, lb, lt⟩, ⟨hk, hf, hi, hb, ht⟩, a, bb, c⟩ T d ⟨0, false, 0, 0, []⟩ ⟨0, false, 0, 0, []⟩ Ls hLl
      have HZL : Hid ((Fnd.run qa2 Ls).length ≤ 30) := Nat.le_trans (Fnd.run_len qa2 Ls) hLl
      have HUP : Hid (Below w.heap.size w W17) := by
        have h1 := HB.out.trans (HBR.out.mono HB.out.size)
        exact HX.out.up.trans (h1.mono (by omega))
      have hg9l : g9 < W17.heap.size := Nat.lt_of_lt_of_le HQ9.out.lt HBR.out.size
      obtain ⟨q0, q1, q2, q3⟩ : QryS g9 AQ0 (1 + T.length) cq0 [] d 1000 W17 := qlies (HQ9.out.below HBR.out HQ9.out.lt)
      clear HRUN0 HRUN1 HRUN2 HQA0 HQA1 HQA2 HR0 HR1 HR2 HQ9 HQ10 HQ11 HBR HB HX HNT HTH HI HG HONE HCN
      rw [HC1.out]
      by_cases hz0 : Fnd.check qa0 = 0
      · obtain ⟨rfl, hxl, hxr⟩ := HRR0.out hz0
        obtain ⟨rfl, hyl, hyr⟩ := HRR1.out (by rw [HC1.out]; exact hz0)
        obtain ⟨rfl, hzl, hzr⟩ := HRR2.out (HC2.out hz0)
        have hzc := HC2.out hz0
        rw [hz0, hzc]
        obtain ⟨hX, hY⟩ := HFX.out
        have hz30 := HZL.out
        clear HRR0 HRR1 HRR2 hz0 hzc HC1 HC2 HFX HZL HCHK q0 q1 q2 q3
        obtain ⟨p, hp⟩ : ∃ p : Nat → Bool, p = fun i => Fnd.holds ⟨n1, ⟨lk, lf, li, lb, lt⟩, ⟨hk, hf, hi, hb, ht⟩, a, bb, c⟩ (Ls.getD i []) := ⟨_, rfl⟩
        have hX' : Fnd.run qa0 Ls = (Fnd.run qa2 Ls).filter p := by rw [hp]; exact hX
        have hY' : Fnd.run qa1 Ls = (Fnd.run qa2 Ls).filter (fun i => !p i) := by rw [hp]; exact hY
        clear hX hY hp
        generalize Fnd.run qa2 Ls = Z at hX' hY' hzl hzr hz30 ⊢
        generalize Fnd.run qa0 Ls = X at hX' hxl hxr ⊢
        generalize Fnd.run qa1 Ls = Y at hY' hyl hyr ⊢
        have hX := hX'
        have hY := hY'
        clear hX' hY'
        have hlx : X.length ≤ 30 := by rw [hX]; exact Nat.le_trans (List.length_filter_le ..) hz30
        have hly : Y.length ≤ 30 := by rw [hY]; exact Nat.le_trans (List.length_filter_le ..) hz30
        have HXY : Hid (X = Z.filter p ∧ Y = Z.filter (fun i => !p i)) := ⟨hX, hY⟩
        have HROWS := Lib.hid (And.intro hxr (And.intro hyr hzr))
        have hcx : (X.length : Int) ≤ (cx0 : Int) := by omega
        have hcy : (Y.length : Int) ≤ (cx1 : Int) := by omega
        have hcz : (Z.length : Int) ≤ (cx2 : Int) := by omega
        clear hX hY hxr hyr hzr
        go_wp2_with fail
        go_loopg [18, 19, 20] Z.length (fun g1 v18 v19 v20 wr => ∃ n : Nat, n ≤ Z.length ∧ v20 = .int .i64 (n : Int) ∧ v18 = .int .i64 (((Z.take n).filter p).length : Int) ∧ v19 = .int .i64 (((Z.take n).filter (fun i => !p i)).length : Int) ∧ Z.length - n ≤ g1 ∧ Below W17.heap.size W17 wr)
        case atStart => exact ⟨0, Nat.zero_le _, rfl, rfl, rfl, by omega, Below.refl _ _⟩
        case round =>
          obtain ⟨n, hn, rfl, rfl, rfl, hg, hbn⟩ := hrel
          by_cases hlt : n < Z.length
          · have hni : (n : Int) < (Z.length : Int) := by omega
            have hni0 : (0 : Int) ≤ (n : Int) := by omega
            obtain ⟨bz, oz, rfl, cz⟩ := RowN.get (HROWS.out.2.2.below hbn) n hlt
            have hst1 := Fnd.filter_step p Z n hlt
            have hst2 := Fnd.filter_step (fun i => !p i) Z n hlt
            have hat1 := fun h => Fnd.filter_at p Z n hlt h
            have hat2 := fun h => Fnd.filter_at (fun i => !p i) Z n hlt h
            have hnot := fun i h => Fnd.filter_not p Z i n hlt h
            rw [← HXY.out.1] at hat1 hnot
            rw [← HXY.out.2] at hat2
            have hinz : IntKind.i64.wrap ((n : Int) + 1) = (n : Int) + 1 := by rw [IntKind.wrap_i64]; omega
            have hl1 : ((Z.take n).filter p).length ≤ 30 := by
              have h1 := List.length_filter_le p (Z.take n)
              have h2 : (Z.take n).length ≤ n := by rw [List.length_take]; omega
              omega
            have hl2 : ((Z.take n).filter (fun i => !p i)).length ≤ 30 := by
              have h1 := List.length_filter_le (fun i => !p i) (Z.take n)
              have h2 : (Z.take n).length ≤ n := by rw [List.length_take]; omega
              omega
            cases hp : p Z[n] with
            | true =>
              rw [hp, if_pos rfl] at hst1
              rw [hp] at hst2
              have hx1 := hat1 hp
              obtain ⟨hi, hxi⟩ := List.getElem?_eq_some_iff.1 hx1
              obtain ⟨bx, ox, rfl, cx⟩ := RowN.get (HROWS.out.1.below hbn) _ hi
              rw [hxi] at cx
              have HS := Lib.hid (And.intro hst1 (show ((Z.take (n + 1)).filter (fun i => !p i)).length = ((Z.take n).filter (fun i => !p i)).length by rw [hst2]; rfl))
              generalize ((Z.take n).filter p).length = i at hi cx HS hl1 ⊢
              generalize ((Z.take n).filter (fun i => !p i)).length = k at HS hl2 ⊢
              generalize Z[n] = zn at cz cx
              have hii : (i : Int) < (X.length : Int) := by omega
              have hi0 : (0 : Int) ≤ (i : Int) := by omega
              have HB := Lib.hid hbn
              clear hat1 hat2 hnot hx1 hxi hi hst1 hst2 hp hbn
              go_wp2_with fail
              go_quiet (fail)
              clear cz cx
              go_wp2_with fail
              go_roundg (Z.length - (n + 1))
              case measure => omega
              case rel => exact ⟨n + 1, by omega, by go_num, by rw [HS.out.1]; go_num, by rw [HS.out.2], Nat.le_refl _, belowDrewM HB.out _⟩
            | false =>
              rw [hp] at hst1
              rw [hp] at hst2
              have hy1 := hat2 (by rw [hp]; rfl)
              obtain ⟨hk, hyk⟩ := List.getElem?_eq_some_iff.1 hy1
              obtain ⟨by1, oy, rfl, cy⟩ := RowN.get (HROWS.out.2.1.below hbn) _ hk
              rw [hyk] at cy
              have HS := Lib.hid (And.intro (show ((Z.take (n + 1)).filter p).length = ((Z.take n).filter p).length by rw [hst1]; rfl) (show ((Z.take (n + 1)).filter (fun i => !p i)).length = ((Z.take n).filter (fun i => !p i)).length + 1 by rw [hst2]; rfl))
              have hno := hnot ((Z.take n).filter p).length hp
              generalize ((Z.take n).filter p).length = i at HS hl1 hno ⊢
              generalize ((Z.take n).filter (fun i => !p i)).length = k at hk cy HS hl2 ⊢
              generalize Z[n] = zn at cz cy hno
              have hki : (k : Int) < (Y.length : Int) := by omega
              have hk0 : (0 : Int) ≤ (k : Int) := by omega
              have HB := Lib.hid hbn
              have HRX := Lib.hid (HROWS.out.1.below hbn)
              clear hat1 hat2 hnot hy1 hyk hk hst1 hst2 hp hbn
              by_cases hix : i < X.length
              · have hii : (i : Int) < (X.length : Int) := by omega
                have hi0 : (0 : Int) ≤ (i : Int) := by omega
                obtain ⟨bx, ox, rfl, cx⟩ := RowN.get HRX.out i hix
                have hne : ((X[i] : Int) == (zn : Int)) = false := by
                  rw [beq_eq_false_iff_ne]
                  intro e
                  apply hno
                  rw [List.getElem?_eq_getElem hix]
                  congr 1
                  omega
                generalize X[i] = xi at cx hne
                clear hno HRX
                go_wp2_with fail
                go_quiet (fail)
                go_wp2_with fail
                go_quiet (fail)
                clear cz cy cx
                go_wp2_with fail
                go_roundg (Z.length - (n + 1))
                case measure => omega
                case rel => exact ⟨n + 1, by omega, by go_num, by rw [HS.out.1], by rw [HS.out.2]; go_num, Nat.le_refl _, belowDrewM HB.out _⟩
              · have hii : ¬ (i : Int) < (X.length : Int) := by omega
                clear hno HRX
                go_wp2_with fail
                go_quiet (fail)
                go_wp2_with fail
                go_quiet (fail)
                clear cz cy
                go_wp2_with fail
                go_roundg (Z.length - (n + 1))
                case measure => omega
                case rel => exact ⟨n + 1, by omega, by go_num, by rw [HS.out.1], by rw [HS.out.2]; go_num, Nat.le_refl _, belowDrewM HB.out _⟩
          · obtain rfl : n = Z.length := by omega
            have h1 : ((Z.take Z.length).filter p).length = X.length := by rw [List.take_length, HXY.out.1]
            have h2 : ((Z.take Z.length).filter (fun i => !p i)).length = Y.length := by rw [List.take_length, HXY.out.2]
            rw [h1, h2]
            have HB := Lib.hid (HUP.out.trans (hbn.mono HUP.out.size))
            clear hbn h1 h2 HUP
            go_wp2_with fail
            refine (HA.out _).mono ?_
            rintro r W19 ⟨rfl, hb19⟩
            have HB19 := Lib.hid (HB.out.trans (hb19.mono HB.out.size))
            clear hb19
            go_wp2_with fail
            go_ret
            exact ⟨rfl, HB19.out⟩
      · have hn1 : (Fnd.check qa0 == 0) = false := by rw [beq_eq_false_iff_ne]; exact hz0
        have hn2 : (Fnd.check qa0 != 0) = true := by rw [bne_iff_ne]; exact hz0
        clear HC1 HC2 HFX HZL HRR0 HRR1 HRR2
        generalize Fnd.check qa0 = c0 at hz0 hn1 hn2 HCHK ⊢
        have HZ0 := Lib.hid hz0
        clear hz0
        go_wp2_with fail
        refine (HCHK.out _ (Below.refl _ _)).mono ?_
        rintro r W18 ⟨rfl, hb18⟩
        have HB18 := Lib.hid (HUP.out.trans (hb18.mono HUP.out.size))
        clear hb18 q0 q1 q2 q3 HCHK HUP
        go_wp2_with fail
        refine (HA.out _).mono ?_
        rintro r W19 ⟨rfl, hb19⟩
        have HB19 := Lib.hid (HB18.out.trans (hb19.mono HB18.out.size))
        clear hb19
        go_wp2_with fail
        go_ret
        exact ⟨rfl, HB19.out⟩
set_option maxRecDepth 100000 in
theorem findMore_contract {H : Type} (enc : TypeId × Value → H) (W : World) (base : Nat) (args : Array Value) (ds gs : List (DataW H)) (before : List MemPlace)
    (hval : ∀ (j : Nat) t v, Try.f5.params[j]? = some t → args[j]? = some v → Value.okWide Try.prog W .any base t v)
    (hW : DataW.Whole enc Try.prog Try.f5.params.toList Rows.findMoreSpec.vars false W args.toList ds gs before)
    (hsz : (DataW.weightsEach Try.prog (Try.f5.params.toList ++ Rows.findMoreSpec.plain.varTypes Try.prog) (ds ++ gs)).all (· ≤ reachBytes) = true) :
    Calls Try.prog 5 args W fun e W' =>
      ((Rows.findMoreSpec.fn H (ds ++ gs)).results = [.lit (.bool true)] ∧ (Rows.findMoreSpec.fn H (ds ++ gs)).args = ds ∧ (Rows.findMoreSpec.fn H (ds ++ gs)).vars = []) ∧ e = .returned (.bool true) ∧ Below W.heap.size W W' := by
  obtain ⟨p, q, hA0, hV, rfl, hfz, hnd⟩ := hW
  have hA : DataW.TrodAll enc Try.prog W 0 (fun _ => true) true Try.f5.params.toList args.toList ds p := hA0
  rw [Try.params5] at hA hval hsz
  obtain ⟨v0, v1, v2, d0, d1, d2, p0, p1, p2, rfl, rfl, rfl, h0, h1, h2⟩ := trodAll_three hA
  obtain ⟨rfl, rfl⟩ := trodVars_none hV
  obtain ⟨T_q, A_q, cap_q, nm_q, d_q, m_q, rfl, lc_q, cm_q, hR_q, ok_q, ml_q, mh_q⟩ := query_open (hval 0 24 v0 rfl rfl) h0
  obtain ⟨x_t, rfl, okl_t, okh_t⟩ := term_open (hval 1 37 v1 rfl rfl) h1
  obtain ⟨A_l, len_l, cap_l, rfl⟩ := okWide_slice Try.underlying40 (hval 2 40 v2 rfl rfl)
  obtain ⟨fuel_l, hf_l⟩ := h2
  obtain ⟨l_l, rfl, lc_l, cm_l, hR_l⟩ := papers_open hf_l (fun n hn => by
    have h := List.all_eq_true.1 hsz n (DataW.weights_mem_each (j := 2) (t := 40) (d := d2) rfl rfl n hn)
    exact Nat.le_trans (by simpa using h) reach_le)
  exact (findMore_any nm_q d_q m_q hR_q lc_q cm_q ok_q x_t okl_t okh_t hR_l lc_l cm_l).mono fun e W' h => ⟨⟨rfl, rfl, rfl⟩, h⟩

end Go.Proofs.Ytfcmkbeilpclmaa
