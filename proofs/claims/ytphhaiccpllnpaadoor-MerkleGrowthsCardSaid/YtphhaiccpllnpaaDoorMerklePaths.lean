/-
  The contract of MerklePaths.
-/
import Derived.Test.YtphhaiccpllnpaaDoorMkArg
import Derived.Test.YtphhaiccpllnpaaDoorMkClimbE
import Derived.Test.YtphhaiccpllnpaaDoorMkLeaves
import Derived.Test.YtphhaiccpllnpaaDoorLaw
import Derived.Test.YtphhaiccpllnpaaDoorRows
namespace Go.Proofs.YtphhaiccpllnpaaDoor
open Go.ChangeShapes Go.WideShapes Go.ChangeAt Go.RowKit
open Go.ChangeMaps (open_string shut_string)
set_option linter.unusedVariables false

theorem own_rowS {w : World} {B : Nat} {v : Value} {R : List (List UInt8)} {s : List Nat} (h : w.ownsRow B 9 1 v R.length (tvs R)) (hs : ∀ x ∈ s, x < B) : ∃ A cap, v = .slice A R.length cap ∧ R.length ≤ cap ∧ cap ≤ 9223372036854775807 ∧ RowS w s A R := by
  obtain ⟨A, cap, hv, hc, hcm, _, hr⟩ := own_row h rfl
  refine ⟨A, cap, hv, hc, hcm, fun hl => ?_⟩
  obtain ⟨b, hA, hb, hB, hrow⟩ := hr hl
  exact ⟨b, 0, hA, hb, (fun hx => by have := hs b hx; omega), hrow⟩

set_option maxHeartbeats 4000000 in
set_option maxRecDepth 100000 in
theorem merklePaths_none (A : Option Addr) (L : List (List UInt8)) (cap : Nat) (i : Int) (w : World) (hA : RowA w A L) (hT : Tabs w) (hlc : L.length ≤ cap) (hcm : cap ≤ 9223372036854775807) (hb : ¬ (0 ≤ i ∧ i < ((Mk.leaves [] L).length : Int))) :
    Calls Tryd.prog 4 #[.slice A L.length cap, .int .i64 i] w fun e w' => e = .returned (.bool true) ∧ Below w.heap.size w w' := by
  have hL := fun st W (h : OneK w W st) (hs : st.sums ≤ 1000) => mkLeaves_any (w.heap.size + 1) w.heap.size none [] rfl A L cap st W hlc hcm (hA.at h.b two_low) (by omega) h.m
  have hP := fun A n cap W hb => mPath_none (w.heap.size + 1) A n cap i W hb
  have hg : (i < 0) ∨ (¬ i < 0 ∧ i ≥ ((Mk.leaves [] L).length : Int)) := by omega
  have HT := Lib.hid hT
  unfold RowPost at hL
  generalize Mk.leaves [] L = R at *
  generalize L.length = n at *
  have HL := Lib.hid hL; clear hL
  have HP := Lib.hid hP; clear hP
  clear hA hT
  rcases hg with h1 | ⟨h1, h2⟩
  all_goals
    go_enter Tryd.func4, Tryd.ntmps4
    go_wp2_with fail
    refine (newMill_tv w).mono ?_
    rintro r1 w1 ⟨rfl, hM1, hb1, hs1⟩
    have H := Lib.hid (OneK.made HT.out hM1 hb1)
    have hf0 : Mill.fresh.sums = 0 := rfl
    generalize Mill.fresh = s0 at H hf0
    clear hM1 hb1
    go_wp2_with fail
    refine (HL.out _ _ H.out (by omega)).mono ?_
    rintro r w2 ⟨v, ts, rfl, hown, hts, hm2, hv2⟩
    replace H := Lib.hid (H.out.step hm2 hv2)
    obtain ⟨A2, cap2, rfl, hc2, hcm2, hR⟩ := own_rowS (s := []) hown (by simp)
    clear hown hR hm2 hv2
    go_wp2_with fail
    refine (HP.out _ _ _ _ hb).mono ?_
    rintro r w3 ⟨rfl, rfl⟩
    go_wp2_with fail
    refine (H.out.awake).mono ?_
    rintro r w4 ⟨rfl, hb4⟩
    go_wp2_with fail
    go_ret
    exact ⟨rfl, hb4⟩

set_option maxHeartbeats 4000000 in
set_option maxRecDepth 100000 in
theorem merklePaths_ok (A : Option Addr) (L : List (List UInt8)) (cap : Nat) (i : Nat) (w : World) (hA : RowA w A L) (hT : Tabs w) (hlc : L.length ≤ cap) (hcm : cap ≤ 9223372036854775807) (hi : i < (Mk.leaves [] L).length) :
    Calls Tryd.prog 4 #[.slice A L.length cap, .int .i64 (i : Int)] w fun e w' => e = .returned (.bool true) ∧ Below w.heap.size w w' := by
  have hL := fun st W (h : OneK w W st) (hs : st.sums ≤ 1000) => mkLeaves_any (w.heap.size + 1) w.heap.size none [] rfl A L cap st W hlc hcm (hA.at h.b two_low) (by omega) h.m
  have h40 := Mk.leaves_len [] L
  have h32 := Mk.leaves_sums [] rfl L
  have HT := Lib.hid hT
  unfold RowPost at hL
  generalize Mk.leaves [] L = R at *
  obtain ⟨x, hx⟩ : ∃ x, R[i]? = some x := ⟨R[i]'hi, List.getElem?_eq_getElem hi⟩
  have hx0 : R[i]'hi = x := by have := List.getElem?_eq_getElem hi; rw [hx] at this; exact (Option.some.inj this).symm
  have hs6 : ∀ s, s ∈ R → s.length ≤ 1000000 := fun s hs => by rw [h32 s hs]; decide
  have hx32 : x.length = 32 := h32 x (by rw [← hx0]; exact List.getElem_mem hi)
  have hpl := Mk.path_len [] R.length R i rfl
  have hps := Mk.path_sums [] rfl R.length R i rfl h32
  have hcl := Mk.climb_path [] R.length R i x rfl hx
  have hdp := Mk.depth_le 16 R.length i (by omega) hi
  have hP := fun A c st W hr (hc : R.length ≤ c) (hcm : c ≤ 9223372036854775807) (h : OneK w W st) (hs : st.sums ≤ 1000) => mPath_any (w.heap.size + 1) w.heap.size none [] rfl A R i c st W (by omega) hi hc hcm hr hs6 (by omega) h.m
  have hQ := fun b off c st W hr (hb : b < W.heap.size) (hbn : b ∉ [w.heap.size + 1, w.heap.size]) (hc : R.length ≤ c) (hcm : c ≤ 9223372036854775807) (h : OneK w W st) (hs : st.sums ≤ 1000) => mkPath_any (w.heap.size + 1) w.heap.size none [] rfl b hbn R.length R i off c st W rfl (by omega) (by omega) hi hc hcm hr hb hs6 (by omega) h.m
  have hRt := fun A c st W hr (hc : R.length ≤ c) (hcm : c ≤ 9223372036854775807) (h : OneK w W st) (hs : st.sums ≤ 1000) => mRoot_any (w.heap.size + 1) w.heap.size none [] rfl A R c st W (by omega) hc hcm hr hs6 (by omega) h.m
  have hal := (Mk.rootAsks_len [] R.length R rfl).1
  have hC := fun A c st W hr (hc : (Mk.path [] R i).length ≤ c) (hcm : c ≤ 9223372036854775807) (h : OneK w W st) (hs : st.sums ≤ 1000) => mClimb_ok (w.heap.size + 1) w.heap.size none [] rfl i R.length x (Mk.path [] R i) A c st W (by omega) (by omega) hi hc hcm hr hpl hx32 ((Mk.allSums_iff _).2 hps) (by omega) h.m
  have hca := Mk.climbAsks_len [] x i R.length (Mk.path [] R i)
  rw [hcl] at hC
  have hS := fun P Q c1 c2 s t W hA hB h1 h2 hc1 hc2 => mkSame_any P Q c1 c2 (Mk.path [] R i) (Mk.path [] R i) s t W hA hB h1 h2 hc1 hc2
  rw [decide_eq_true (rfl : Mk.path [] R i = Mk.path [] R i)] at hS
  unfold RowPostE at hP
  unfold RowPost at hQ
  unfold MkPost at hC hRt
  have hne : R ≠ [] := fun e => by rw [e] at hi; exact absurd hi (Nat.not_lt_zero _)
  have hpd : (Mk.path [] R i).length ≤ 16 := by rw [hpl]; exact hdp
  have HX : Hid (∀ (b off : Nat) (W : World), TRow W b off R → W.cell? ⟨b, off + i, none⟩ = some (.string (S x))) := Lib.hid (fun b off W hr => by have := hr i hi; rw [hx0] at this; exact this)
  generalize Mk.root [] R = y at *
  generalize Mk.rootAsks [] R = rts at *
  generalize Mk.climbAsks [] x i R.length (Mk.path [] R i) = cts at *
  clear hpl hps hcl hdp hx hx0 hs6 h32 hx32
  generalize Mk.path [] R i = PT at *
  have HL := Lib.hid hL; clear hL
  have HP := Lib.hid hP; clear hP
  have HQ := Lib.hid hQ; clear hQ
  have HRT := Lib.hid hRt; clear hRt
  have HC := Lib.hid hC; clear hC
  have HS := Lib.hid hS; clear hS
  have HA := Lib.hid hA; clear hA hT
  generalize L.length = n at *
  have c1 : ¬ (i : Int) < 0 := by omega
  have c2 : ¬ (i : Int) ≥ (R.length : Int) := by omega
  have c3 : (y == y) = true := by simp
  go_enter Tryd.func4, Tryd.ntmps4
  go_wp2_with fail
  refine (newMill_tv w).mono ?_
  rintro r1 w1 ⟨rfl, hM1, hb1, hs1⟩
  have H := Lib.hid (OneK.made HT.out hM1 hb1)
  have hf0 : Mill.fresh.sums = 0 := rfl
  generalize Mill.fresh = s0 at H hf0
  have hz1 : w.heap.size + 2 ≤ w1.heap.size := by omega
  clear hM1 hb1 hs1
  have hlow : ∀ B, w.heap.size + 2 ≤ B → ∀ z ∈ [w.heap.size + 1, w.heap.size], z < B := fun B hB z hz => by simp only [List.mem_cons, List.not_mem_nil, or_false] at hz; omega
  have HLOW := Lib.hid hlow; clear hlow
  go_wp2_with fail
  refine (HL.out _ _ H.out (by omega)).mono ?_
  rintro r w2 ⟨v, ts, rfl, hown, hts, hm2, hv2⟩
  replace H := Lib.hid (H.out.step hm2 hv2)
  obtain ⟨A2, cap2, rfl, hc2, hcm2, hR2⟩ := own_rowS (s := [w.heap.size + 1, w.heap.size]) hown (HLOW.out _ hz1)
  obtain ⟨b, off, rfl, hb, hbn, hrow⟩ := hR2 hne
  have hz2 : w.heap.size + 2 ≤ w2.heap.size := Nat.le_trans hz1 hv2.size
  have hq2 : (Mill.steps [] ts s0).sums ≤ 40 := by rw [Mill.steps_sums]; omega
  generalize Mill.steps [] ts s0 = s2 at H hq2
  clear hown hR2 hm2 hv2 hts
  go_wp2_with fail
  refine (HP.out _ _ _ _ (RowS.of hb hbn hrow) hc2 hcm2 H.out (by omega)).mono ?_
  rintro r w3 ⟨v, ts3, rfl, hown3, hts3, hm3, hv3⟩
  replace H := Lib.hid (H.out.step hm3 hv3)
  obtain ⟨A3, cap3, rfl, hc3, hcm3, hR3⟩ := own_rowS (s := [w.heap.size + 1, w.heap.size]) hown3 (HLOW.out _ hz2)
  have hrow3 := hrow.mv hv3 hb hbn
  have hb3 : b < w3.heap.size := Nat.lt_of_lt_of_le hb hv3.size
  have hz3 : w.heap.size + 2 ≤ w3.heap.size := Nat.le_trans hz2 hv3.size
  have hq3 : (Mill.steps [] ts3 s2).sums ≤ 120 := by rw [Mill.steps_sums]; omega
  generalize Mill.steps [] ts3 s2 = s3 at H hq3
  have hcell := HX.out _ _ _ hrow3
  clear hown3 hm3 hv3 hts3 hrow hb
  go_wp2_with fail
  refine (HC.out _ _ _ _ hR3 hc3 hcm3 H.out (by omega)).mono ?_
  rintro r w4 ⟨rfl, hm4, hv4⟩
  replace H := Lib.hid (H.out.step hm4 hv4)
  have hrow4 := hrow3.mv hv4 hb3 hbn
  have hb4 : b < w4.heap.size := Nat.lt_of_lt_of_le hb3 hv4.size
  have hz4 : w.heap.size + 2 ≤ w4.heap.size := Nat.le_trans hz3 hv4.size
  have hR4 := hR3.mv hv4 (fun z hz => hz)
  have hq4 : (Mill.steps [] cts s3).sums ≤ 140 := by rw [Mill.steps_sums]; omega
  generalize Mill.steps [] cts s3 = s4 at H hq4
  clear hm4 hv4 hrow3 hR3 hcell
  go_wp2_with fail
  refine (HQ.out _ _ _ _ _ hrow4 hb4 hbn hc2 hcm2 H.out (by omega)).mono ?_
  rintro r w5 ⟨v, ts5, rfl, hown5, hts5, hm5, hv5⟩
  replace H := Lib.hid (H.out.step hm5 hv5)
  obtain ⟨A5, cap5, rfl, hc5, hcm5, hR5⟩ := own_rowS (s := [w.heap.size + 1, w.heap.size]) hown5 (HLOW.out _ hz4)
  have hrow5 := hrow4.mv hv5 hb4 hbn
  have hb5 : b < w5.heap.size := Nat.lt_of_lt_of_le hb4 hv5.size
  have hR45 := hR4.mv hv5 (fun z hz => hz)
  have hq5 : (Mill.steps [] ts5 s4).sums ≤ 300 := by rw [Mill.steps_sums]; omega
  generalize Mill.steps [] ts5 s4 = s5 at H hq5
  clear hown5 hm5 hv5 hts5 hrow4 hR4
  go_wp2_with fail
  refine (HS.out _ _ _ _ _ _ _ hR45 hR5 hc3 hc5 hcm3 hcm5).mono ?_
  rintro r w6 ⟨rfl, hb6⟩
  replace H := Lib.hid (H.out.below hb6)
  have hrow6 := hrow5.mv (Mv.of_below hb6 []) hb5 (by simp)
  have hb6' : b < w6.heap.size := Nat.lt_of_lt_of_le hb5 hb6.size
  clear hrow5 hb6 hR45 hR5
  go_wp2_with fail
  refine (HRT.out _ _ _ _ (RowS.of hb6' hbn hrow6) hc2 hcm2 H.out (by omega)).mono ?_
  rintro r w7 ⟨rfl, hm7, hv7⟩
  replace H := Lib.hid (H.out.step hm7 hv7)
  clear hm7 hv7
  go_wp2_with fail
  refine (H.out.awake).mono ?_
  rintro r w8 ⟨rfl, hb8⟩
  go_wp2_with fail
  go_ret
  exact ⟨rfl, hb8⟩

theorem merklePaths_any (A : Option Addr) (L : List (List UInt8)) (cap : Nat) (i : Int) (w : World) (hA : RowA w A L) (hT : Tabs w) (hlc : L.length ≤ cap) (hcm : cap ≤ 9223372036854775807) :
    Calls Tryd.prog 4 #[.slice A L.length cap, .int .i64 i] w fun e w' => e = .returned (.bool true) ∧ Below w.heap.size w w' := by
  by_cases hi : 0 ≤ i ∧ i < ((Mk.leaves [] L).length : Int)
  · obtain ⟨h1, h2⟩ := hi
    obtain ⟨i, rfl⟩ := Int.eq_ofNat_of_zero_le h1
    exact merklePaths_ok A L cap i w hA hT hlc hcm (by omega)
  · exact merklePaths_none A L cap i w hA hT hlc hcm hi

set_option maxRecDepth 100000 in
theorem merklePaths_contract {H : Type} (enc : TypeId × Value → H) (W : World) (base : Nat) (args : Array Value) (ds gs : List (DataW H)) (before : List MemPlace)
    (hval : ∀ (j : Nat) t v, Tryd.f4.params[j]? = some t → args[j]? = some v → Value.okWide Tryd.prog W .any base t v)
    (hW : DataW.Whole enc Tryd.prog Tryd.f4.params.toList Rows.merklePathsSpec.vars false W args.toList ds gs before)
    (hsz : (DataW.weightsEach Tryd.prog (Tryd.f4.params.toList ++ Rows.merklePathsSpec.plain.varTypes Tryd.prog) (ds ++ gs)).all (· ≤ reachBytes) = true) (hT : Tabs W) :
    Calls Tryd.prog 4 args W fun e W' =>
      ((Rows.merklePathsSpec.fn H (ds ++ gs)).results = [.lit (.bool true)] ∧ (Rows.merklePathsSpec.fn H (ds ++ gs)).args = ds ∧ (Rows.merklePathsSpec.fn H (ds ++ gs)).vars = []) ∧ e = .returned (.bool true) ∧ Below W.heap.size W W' := by
  obtain ⟨p, q, hA0, hV, rfl, hfz, hnd⟩ := hW
  have hA : DataW.TrodAll enc Tryd.prog W 0 (fun _ => true) true Tryd.f4.params.toList args.toList ds p := hA0
  rw [Tryd.params4] at hA hval hsz
  obtain ⟨v0, v1, d0, d1, p0, p1, rfl, rfl, rfl, h0, h1⟩ := trodAll_two hA
  obtain ⟨rfl, rfl⟩ := trodVars_none hV
  obtain ⟨A_p, len_p, cap_p, rfl⟩ := okWide_slice Tryd.underlying22 (hval 0 22 v0 rfl rfl)
  obtain ⟨fuel_p, hf_p⟩ := h0
  obtain ⟨l_p, rfl, lc_p, cm_p, hA_p, hB_p⟩ := mktexts_open hf_p (fun n hn => by
    have h := List.all_eq_true.1 hsz n (DataW.weights_mem_each (j := 0) (t := 22) (d := d0) rfl rfl n hn)
    exact Nat.le_trans (by simpa using h) (by decide))
  obtain ⟨i, rfl, rfl, rfl, bd_i⟩ := open_int Tryd.underlying3 (hval 1 3 v1 rfl rfl) h1
  exact (merklePaths_any A_p l_p cap_p i W hA_p hT lc_p cm_p).mono fun e W' h => ⟨⟨rfl, rfl, rfl⟩, h⟩

end Go.Proofs.YtphhaiccpllnpaaDoor
