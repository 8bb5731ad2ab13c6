/-
  The contract of MerkleLeaf.
-/
import Derived.Test.YtphhaiccpllnpaaDoorMkTwins
import Derived.Test.YtphhaiccpllnpaaDoorMillWith
import Derived.Test.YtphhaiccpllnpaaDoorMillEnts
import Derived.Test.YtphhaiccpllnpaaDoorLaw
import Derived.Test.YtphhaiccpllnpaaDoorRows
namespace Go.Proofs.YtphhaiccpllnpaaDoor
open Go.ChangeShapes Go.WideShapes Go.ChangeAt Go.RowKit
open Go.ChangeMaps (open_string shut_string)
set_option linter.unusedVariables false

set_option maxHeartbeats 4000000 in
set_option maxRecDepth 100000 in
theorem merkleLeaf_cut (A : Option Addr) (m : List Mill.En) (n0 cap : Nat) (i n : Int) (a b : List UInt8) (P Q : Option Addr) (p q : List (List UInt8)) (cp cq : Nat) (hm10 : m.length ≤ 10) (hfit : Mill.fit m) (w : World) (hE : Ents w A m) (hT : Tabs w)
    (hP : RowA w P p) (hQ : RowA w Q q) (hcp : p.length ≤ cp) (hcpm : cp ≤ 1000000000000000) (hcq : q.length ≤ cq) (hcqm : cq ≤ 1000000000000000)
    (hcut : (n0 = m.length ∧ ¬ (10 : Int) < (n0 : Int)) ∨ ((10 : Int) < (n0 : Int) ∧ m.length = 10 ∧ (10 : Int) ≤ (cap : Int))) (hncap : (n0 : Int) ≤ (cap : Int)) (hcm : (cap : Int) ≤ 9223372036854775807) :
    Calls Tryd.prog 8 #[.slice A n0 cap, .int .i64 i, .int .i64 n, .string (S a), .slice P p.length cp, .string (S b), .slice Q q.length cq] w fun e w' => e = .returned (.bool true) ∧ Below w.heap.size w w' := by
  have hC1 : Mill.right m = true → ∀ st W tv, OneT w W tv m st → st.sums ≤ 1000 → _ := fun hr st W tv (h : OneT w W tv m st) (hs : st.sums ≤ 1000) => mClimb_any (w.heap.size + 1) w.heap.size tv m hr i n a p P cp st W hcp hcpm (hP.at h.b two_low) (by omega) h.m
  have hC2 : Mill.right m = true → ∀ st W tv, OneT w W tv m st → st.sums ≤ 1000 → _ := fun hr st W tv (h : OneT w W tv m st) (hs : st.sums ≤ 1000) => mClimb_any (w.heap.size + 1) w.heap.size tv m hr i n b q Q cq st W hcq hcqm (hQ.at h.b two_low) (by omega) h.m
  have hfin := fun hr => Mk.leaf_fin m hr i n a b p q
  have l1 := Mk.climbTs_len m a i n p
  have l2 := Mk.climbTs_len m b i n q
  unfold MkPost at hC1 hC2
  have hW := with_any A m cap (by omega) hfit w hE hT
  unfold WithPost at hW
  generalize Mk.climbV m a i n p = x at *
  generalize Mk.climbV m b i n q = y at *
  generalize Mk.climbC a i n p = c1 at *
  generalize Mk.climbC b i n q = c2 at *
  generalize Mk.climbTs m a i n p = t1 at *
  generalize Mk.climbTs m b i n q = t2 at *
  have hst1 : ∀ st, (Mill.steps m t1 st).sums ≤ st.sums + 16 := fun st => by rw [Mill.steps_sums]; omega
  have hst2 : ∀ st, (Mill.steps m t2 st).sums ≤ st.sums + 16 := fun st => by rw [Mill.steps_sums]; omega
  generalize Mill.steps m t1 = step1 at *
  generalize Mill.steps m t2 = step2 at *
  have HC1 := Lib.hid hC1; clear hC1
  have HC2 := Lib.hid hC2; clear hC2
  have HFIN := Lib.hid hfin; clear hfin
  have HST := Lib.hid (And.intro hst1 hst2); clear hst1 hst2
  have HW := Lib.hid hW; clear hW
  have HT := Lib.hid hT
  have h2 := hT.2.2
  clear hP hQ hE hT hfit l1 l2 hcp hcq hcpm hcqm
  generalize p.length = kp at *
  generalize q.length = kq at *
  rcases hcut with ⟨rfl, h10⟩ | ⟨h10, hl, hc10⟩
  case' inr => rw [hl] at HW
  all_goals
    go_enter Tryd.func8, Tryd.ntmps8
    go_wp2_with fail
    refine HW.out.mono ?_
    rintro r1 w1 ⟨hb1, ⟨hr, rfl, hm1⟩ | ⟨hr, rfl⟩⟩
    case' inr =>
      have HA := Lib.hid (awakeMk_any w1 (HT.out.below hb1 (by omega)))
      clear HFIN
      go_wp2_with fail
      refine HA.out.mono ?_
      rintro r w6 ⟨rfl, hb⟩
      go_wp2_with fail
      go_ret
      exact ⟨rfl, hb1.trans (hb.mono hb1.size)⟩
    case' inl =>
      obtain ⟨tv, hm1⟩ := hm1
      have H := Lib.hid (OneT.mk (w0 := w) (⟨hm1, HT.out.below hb1 (by omega), by omega, by omega⟩ : MkW w1 (w.heap.size + 1) w.heap.size tv m Mill.fresh) hb1)
      clear hb1 hm1 HW
      have hs0 : Mill.fresh.sums = 0 := rfl
      have hfin := HFIN.out hr
      clear HFIN
      generalize Mill.fresh = fr at H hs0 hfin
      go_wp2_with fail
      refine (HC1.out hr _ _ _ H.out (by omega)).mono ?_
      rintro r w2 ⟨rfl, hm2, hv2⟩
      replace H := Lib.hid (H.out.step hm2 hv2); clear hm2 hv2
      have hs1 : (step1 fr).sums ≤ 16 := by have := HST.out.1 fr; omega
      generalize step1 fr = st1 at H hs1 hfin
      go_wp2_with fail
      refine (HC2.out hr _ _ _ H.out (by omega)).mono ?_
      rintro r w3 ⟨rfl, hm3, hv3⟩
      replace H := Lib.hid (H.out.step hm3 hv3); clear hm3 hv3
      generalize step2 st1 = st2 at H hfin
      go_wp2_with fail
      refine (twins_any _ _ _ _ _ H.out.m.m.at).mono ?_
      rintro r w5 ⟨rfl, hb⟩
      replace H := Lib.hid (H.out.below hb); clear hb
      have HA := Lib.hid H.out.awake
      generalize hmet' : st2.met = met at hfin ⊢
      clear hmet'
      rcases hfin with f1 | ⟨f1, f2⟩ | ⟨f1, f2, f3⟩ | ⟨f1, f2, f3, f4⟩ | ⟨f1, f2, f3, f4, rfl, f6⟩
      all_goals
        go_wp2_with fail
        refine HA.out.mono ?_
        rintro r w6 ⟨rfl, hb⟩
        go_wp2_with fail
        go_ret
        exact ⟨rfl, hb⟩

theorem merkleLeaf_any (A : Option Addr) (m : List Mill.En) (cap : Nat) (i n : Int) (a b : List UInt8) (P Q : Option Addr) (p q : List (List UInt8)) (cp cq : Nat) (hfit : Mill.fit m) (w : World) (hE : Ents w A m) (hT : Tabs w)
    (hP : RowA w P p) (hQ : RowA w Q q) (hcp : p.length ≤ cp) (hcpm : cp ≤ 1000000000000000) (hcq : q.length ≤ cq) (hcqm : cq ≤ 1000000000000000) (hlc : m.length ≤ cap) (hcm : cap ≤ maxLen) :
    Calls Tryd.prog 8 #[.slice A m.length cap, .int .i64 i, .int .i64 n, .string (S a), .slice P p.length cp, .string (S b), .slice Q q.length cq] w fun e w' => e = .returned (.bool true) ∧ Below w.heap.size w w' := by
  have hmax : maxLen = 9223372036854775807 := rfl
  refine merkleLeaf_cut A (m.take 10) m.length cap i n a b P Q p q cp cq (by rw [List.length_take]; omega) (fun e he => hfit e (List.mem_of_mem_take he)) w (hE.take 10) hT hP hQ hcp hcpm hcq hcqm ?_ (by omega) (by omega)
  by_cases h : 10 < m.length
  · refine Or.inr ⟨by omega, by rw [List.length_take]; omega, by omega⟩
  · refine Or.inl ⟨by rw [List.length_take]; omega, by omega⟩

theorem mktrod_7 {H : Type} {enc : TypeId × Value → H} {P : Program} {w : World} {base : Nat} {spare : Nat → Bool} {held : Bool} {t0 t1 t2 t3 t4 t5 t6 : TypeId} {args : Array Value} {ds : List (DataW H)} {ps : List MemPlace} (h : DataW.TrodAll enc P w base spare held [t0, t1, t2, t3, t4, t5, t6] args.toList ds ps) :
    ∃ v0 v1 v2 v3 v4 v5 v6 d0 d1 d2 d3 d4 d5 d6 p0 p1 p2 p3 p4 p5 p6, args = #[v0, v1, v2, v3, v4, v5, v6] ∧ ds = [d0, d1, d2, d3, d4, d5, d6] ∧ ps = p0 ++ p1 ++ p2 ++ p3 ++ p4 ++ p5 ++ p6 ∧ DataW.Trod enc P w base spare held t0 v0 d0 p0 ∧ DataW.Trod enc P w base spare held t1 v1 d1 p1 ∧ DataW.Trod enc P w base spare held t2 v2 d2 p2 ∧ DataW.Trod enc P w base spare held t3 v3 d3 p3 ∧ DataW.Trod enc P w base spare held t4 v4 d4 p4 ∧ DataW.Trod enc P w base spare held t5 v5 d5 p5 ∧ DataW.Trod enc P w base spare held t6 v6 d6 p6 := by
  obtain ⟨v0, vs0, d0, ds0, p0, q0, hargs, rfl, rfl, h0, r0⟩ := trodAll_cons h
  obtain ⟨v1, vs1, d1, ds1, p1, q1, rfl, rfl, rfl, h1, r1⟩ := trodAll_cons r0
  obtain ⟨v2, vs2, d2, ds2, p2, q2, rfl, rfl, rfl, h2, r2⟩ := trodAll_cons r1
  obtain ⟨v3, vs3, d3, ds3, p3, q3, rfl, rfl, rfl, h3, r3⟩ := trodAll_cons r2
  obtain ⟨v4, vs4, d4, ds4, p4, q4, rfl, rfl, rfl, h4, r4⟩ := trodAll_cons r3
  obtain ⟨v5, vs5, d5, ds5, p5, q5, rfl, rfl, rfl, h5, r5⟩ := trodAll_cons r4
  obtain ⟨v6, vs6, d6, ds6, p6, q6, rfl, rfl, rfl, h6, r6⟩ := trodAll_cons r5
  obtain ⟨rfl, rfl, rfl⟩ := trodAll_nil r6
  exact ⟨v0, v1, v2, v3, v4, v5, v6, d0, d1, d2, d3, d4, d5, d6, p0, p1, p2, p3, p4, p5, p6, by cases args; simp_all, rfl, by simp, h0, h1, h2, h3, h4, h5, h6⟩

set_option maxRecDepth 100000 in
theorem merkleLeaf_contract {H : Type} (enc : TypeId × Value → H) (W : World) (base : Nat) (args : Array Value) (ds gs : List (DataW H)) (before : List MemPlace)
    (hval : ∀ (j : Nat) t v, Tryd.f8.params[j]? = some t → args[j]? = some v → Value.okWide Tryd.prog W .any base t v)
    (hW : DataW.Whole enc Tryd.prog Tryd.f8.params.toList Rows.merkleLeafSpec.vars false W args.toList ds gs before)
    (hsz : (DataW.weightsEach Tryd.prog (Tryd.f8.params.toList ++ Rows.merkleLeafSpec.plain.varTypes Tryd.prog) (ds ++ gs)).all (· ≤ reachBytes) = true) (hT : Tabs W) :
    Calls Tryd.prog 8 args W fun e W' =>
      ((Rows.merkleLeafSpec.fn H (ds ++ gs)).results = [.lit (.bool true)] ∧ (Rows.merkleLeafSpec.fn H (ds ++ gs)).args = ds ∧ (Rows.merkleLeafSpec.fn H (ds ++ gs)).vars = []) ∧ e = .returned (.bool true) ∧ Below W.heap.size W W' := by
  obtain ⟨p, q, hA0, hV, rfl, hfz, hnd⟩ := hW
  have hA : DataW.TrodAll enc Tryd.prog W 0 (fun _ => true) true Tryd.f8.params.toList args.toList ds p := hA0
  rw [Tryd.params8] at hA hval hsz
  obtain ⟨v0, v1, v2, v3, v4, v5, v6, d0, d1, d2, d3, d4, d5, d6, p0, p1, p2, p3, p4, p5, p6, rfl, rfl, rfl, h0, h1, h2, h3, h4, h5, h6⟩ := mktrod_7 hA
  obtain ⟨rfl, rfl⟩ := trodVars_none hV
  obtain ⟨A_m, len_m, cap_m, rfl⟩ := okWide_slice Tryd.underlying53 (hval 0 53 v0 rfl rfl)
  obtain ⟨fuel_m, hf_m⟩ := h0
  obtain ⟨l_m, rfl, hE_m, fit_m, lc_m, cm_m⟩ := ents_open hf_m (fun n hn => by
    have h := List.all_eq_true.1 hsz n (DataW.weights_mem_each (j := 0) (t := 53) (d := d0) rfl rfl n hn)
    exact Nat.le_trans (by simpa using h) (by decide))
  obtain ⟨i, rfl, rfl, rfl, bd_i⟩ := open_int Tryd.underlying3 (hval 1 3 v1 rfl rfl) h1
  obtain ⟨n, rfl, rfl, rfl, bd_n⟩ := open_int Tryd.underlying3 (hval 2 3 v2 rfl rfl) h2
  obtain ⟨a, rfl, rfl, rfl, max_a⟩ := open_string Tryd.underlying9 (hval 3 9 v3 rfl rfl) h3
  have len_a : a.data.toList.length ≤ reachBytes := sized_string hsz (j := 3) (t := 9) rfl rfl
  obtain ⟨A_p, len_p, cap_p, rfl⟩ := okWide_slice Tryd.underlying22 (hval 4 22 v4 rfl rfl)
  obtain ⟨fuel_p, hf_p⟩ := h4
  obtain ⟨l_p, rfl, lc_p, cm_p, hA_p, hB_p⟩ := mktexts_open hf_p (fun n hn => by
    have h := List.all_eq_true.1 hsz n (DataW.weights_mem_each (j := 4) (t := 22) (d := d4) rfl rfl n hn)
    exact Nat.le_trans (by simpa using h) (by decide))
  obtain ⟨b, rfl, rfl, rfl, max_b⟩ := open_string Tryd.underlying9 (hval 5 9 v5 rfl rfl) h5
  have len_b : b.data.toList.length ≤ reachBytes := sized_string hsz (j := 5) (t := 9) rfl rfl
  obtain ⟨A_q, len_q, cap_q, rfl⟩ := okWide_slice Tryd.underlying22 (hval 6 22 v6 rfl rfl)
  obtain ⟨fuel_q, hf_q⟩ := h6
  obtain ⟨l_q, rfl, lc_q, cm_q, hA_q, hB_q⟩ := mktexts_open hf_q (fun n hn => by
    have h := List.all_eq_true.1 hsz n (DataW.weights_mem_each (j := 6) (t := 22) (d := d6) rfl rfl n hn)
    exact Nat.le_trans (by simpa using h) (by decide))
  rw [← S_of a]
  rw [← S_of b]
  exact (merkleLeaf_any A_m l_m cap_m i n a.data.toList b.data.toList A_p A_q l_p l_q cap_p cap_q fit_m W hE_m hT hA_p hA_q lc_p cm_p lc_q cm_q lc_m cm_m).mono fun e W' h => ⟨⟨rfl, rfl, rfl⟩, h⟩

end Go.Proofs.YtphhaiccpllnpaaDoor
