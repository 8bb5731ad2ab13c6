/-
  The contract of MerkleGrowths.
-/
import Derived.Test.YtphhaiccpllnpaaDoorMerklePaths
import Derived.Test.YtphhaiccpllnpaaDoorMkGrownE
namespace Go.Proofs.YtphhaiccpllnpaaDoor
open Go.ChangeShapes Go.WideShapes Go.ChangeAt Go.RowKit
open Go.ChangeMaps (open_string shut_string)
set_option linter.unusedVariables false

namespace Mk
theorem root_none (l : List Mill.En) : root l [] = nil l := root_nil l
/-- What is proved to have grown is believed. -/
theorem grows_lead (l : List Mill.En) (R : List T) (a : Nat) (h1 : 1 ≤ a) (h2 : a ≤ R.length) : leadC l a R.length (root l (R.take a)) (root l R) (prf l R a true) = 0 := by
  have h := both_prf l R.length R a true (root l (R.take a)) rfl h1 h2 (fun _ => rfl)
  unfold leadC
  rw [h]
  exact if_pos ⟨rfl, rfl⟩
theorem grows_none (l : List Mill.En) (R : List T) : noneC l (R.length : Int) (root l (R.take 0)) (root l R) [] = 0 := by
  unfold noneC
  rw [List.take_zero, root_none, if_pos ⟨rfl, fun h => by
    have : R = [] := List.length_eq_zero_iff.mp (by omega)
    rw [this, root_none]⟩]
  exact if_pos rfl
end Mk

/-- A growth that is proved is believed. -/
theorem grows_any (w : World) (R : List (List UInt8)) (a : Nat) (A : Option Addr) (cap : Nat) (st : Mill.St) (W : World) (h40 : R.length ≤ 40) (h32 : ∀ s, s ∈ R → s.length = 32) (ha : a ≤ R.length) (hcap : (Mk.growth [] R a).length ≤ cap) (hcm : cap ≤ 9223372036854775807)
    (hrow : RowS W [w.heap.size + 1, w.heap.size] A (Mk.growth [] R a)) (hsum : st.sums ≤ 1000) (h : OneK w W st) :
    Calls Tryd.prog 30 #[.pointer (some ⟨w.heap.size + 1, 0, none⟩), .agg #[.int .i64 (a : Int), .string (S (Mk.root [] (R.take a)))], .agg #[.int .i64 (R.length : Int), .string (S (Mk.root [] R))], .slice A (Mk.growth [] R a).length cap] W
      fun e w' => ∃ ts : List (List UInt8), e = .returned (.int .i64 0) ∧ OneK w w' (Mill.steps [] ts st) ∧ Mv W w' [w.heap.size + 1, w.heap.size] := by
  have hr : (Mk.root [] (R.take a)).length = 32 ∧ (Mk.root [] R).length = 32 := ⟨Mk.root_len [] rfl _ (Mk.sums_take h32 a), Mk.root_len [] rfl _ h32⟩
  by_cases h0 : a = 0
  · subst h0
    rw [Mk.growth_zero] at hcap hrow ⊢
    have := grown_none (w.heap.size + 1) w.heap.size none [] rfl (R.length : Int) (Mk.root [] (R.take 0)) (Mk.root [] R) [] A cap st W (by omega) (by omega) hr hcap hcm hrow ⟨by decide, by decide⟩ (by omega) h.m
    rw [Mk.grows_none] at this
    exact this.mono fun e w' ⟨he, hm, hv⟩ => ⟨_, he, h.step hm hv, hv⟩
  · rw [Mk.growth_pos [] R (by omega)] at hcap hrow ⊢
    have hl := Mk.prf_len [] R.length R a true rfl (by omega) ha
    have hle := Mk.long_le 16 R.length a true (by omega) (by omega) ha
    have := grown_lead (w.heap.size + 1) w.heap.size none [] rfl a R.length (Mk.root [] (R.take a)) (Mk.root [] R) (Mk.prf [] R a true) A cap st W (by omega) ha (by omega) hr hcap hcm hrow ⟨by omega, (Mk.allSums_iff _).2 (Mk.prf_sums [] rfl R.length R a true rfl h32)⟩ hl (by omega) h.m
    rw [Mk.grows_lead [] R a (by omega) ha] at this
    exact this.mono fun e w' ⟨he, hm, hv⟩ => ⟨_, he, h.step hm hv, hv⟩

set_option maxHeartbeats 4000000 in
set_option maxRecDepth 100000 in
theorem merkleGrowths_size (A : Option Addr) (L : List (List UInt8)) (cap : Nat) (i : Int) (w : World) (hA : RowA w A L) (hT : Tabs w) (hlc : L.length ≤ cap) (hcm : cap ≤ 9223372036854775807) (hb : ¬ (0 ≤ i ∧ i ≤ ((Mk.leaves [] L).length : Int))) :
    Calls Tryd.prog 6 #[.slice A L.length cap, .int .i64 i] w fun e w' => e = .returned (.bool true) ∧ Below w.heap.size w w' := by
  have hL := fun st W (h : OneK w W st) (hs : st.sums ≤ 1000) => mkLeaves_any (w.heap.size + 1) w.heap.size none [] rfl A L cap st W hlc hcm (hA.at h.b two_low) (by omega) h.m
  have hP := fun A n cap W hb => mGrowth_size (w.heap.size + 1) A n cap i W hb
  have hg : (i < 0) ∨ (¬ i < 0 ∧ i > ((Mk.leaves [] L).length : Int)) := by omega
  have HT := Lib.hid hT
  unfold RowPost at hL
  generalize Mk.leaves [] L = R at *
  generalize L.length = n at *
  have HL := Lib.hid hL; clear hL
  have HP := Lib.hid hP; clear hP
  clear hA hT
  rcases hg with h1 | ⟨h1, h2⟩
  all_goals
    go_enter Tryd.func6, Tryd.ntmps6
    go_wp2_with fail
    refine (newMill_tv w).mono ?_
    rintro r1 w1 ⟨rfl, hM1, hb1, hs1⟩
    have H := Lib.hid (OneK.made HT.out hM1 hb1)
    have hf0 : Mill.fresh.sums = 0 := rfl
    generalize Mill.fresh = s0 at H hf0
    clear hM1 hb1
    go_wp2_with fail
    refine (HL.out _ _ H.out (by omega)).mono ?_
    rintro r w2 ⟨v, ts, rfl, hown, hts, hm2, hv2⟩
    replace H := Lib.hid (H.out.step hm2 hv2)
    obtain ⟨A2, cap2, rfl, hc2, hcm2, hR⟩ := own_rowS (s := []) hown (by simp)
    clear hown hR hm2 hv2
    go_wp2_with fail
    refine (HP.out _ _ _ _ hb).mono ?_
    rintro r w3 ⟨rfl, rfl⟩
    go_wp2_with fail
    refine (H.out.awake).mono ?_
    rintro r w4 ⟨rfl, hb4⟩
    go_wp2_with fail
    go_ret
    exact ⟨rfl, hb4⟩

set_option maxHeartbeats 4000000 in
set_option maxRecDepth 100000 in
theorem merkleGrowths_ok (A : Option Addr) (L : List (List UInt8)) (cap : Nat) (a : Nat) (w : World) (hA : RowA w A L) (hT : Tabs w) (hlc : L.length ≤ cap) (hcm : cap ≤ 9223372036854775807) (ha : a ≤ (Mk.leaves [] L).length) :
    Calls Tryd.prog 6 #[.slice A L.length cap, .int .i64 (a : Int)] w fun e w' => e = .returned (.bool true) ∧ Below w.heap.size w w' := by
  have hL := fun st W (h : OneK w W st) (hs : st.sums ≤ 1000) => mkLeaves_any (w.heap.size + 1) w.heap.size none [] rfl A L cap st W hlc hcm (hA.at h.b two_low) (by omega) h.m
  have h40 := Mk.leaves_len [] L
  have h32 := Mk.leaves_sums [] rfl L
  have HT := Lib.hid hT
  unfold RowPost at hL
  generalize Mk.leaves [] L = R at *
  have hs6 : ∀ s, s ∈ R → s.length ≤ 1000000 := fun s hs => by rw [h32 s hs]; decide
  have hP := fun A c st W hr (hc : R.length ≤ c) (hcm : c ≤ 9223372036854775807) (h : OneK w W st) (hs : st.sums ≤ 1000) => mGrowth_any (w.heap.size + 1) w.heap.size none [] rfl A R a c st W (by omega) ha hc hcm hr hs6 (by omega) h.m
  have hQ := fun A c st W hr (hc : R.length ≤ c) (hcm : c ≤ 9223372036854775807) (h : OneK w W st) (hs : st.sums ≤ 1000) => mkGrowth_any (w.heap.size + 1) w.heap.size none [] rfl A R a c st W (by omega) ha hc hcm hr hs6 (by omega) h.m
  have hta : (R.take a).length = a := by rw [List.length_take]; omega
  have hR1 := fun A c st W hr (hc : R.length ≤ c) (hcm : c ≤ 9223372036854775807) (h : OneK w W st) (hs : st.sums ≤ 1000) => mRoot_any (w.heap.size + 1) w.heap.size none [] rfl A (R.take a) c st W (by omega) (by omega) hcm hr (fun s h => hs6 s (List.mem_of_mem_take h)) (by omega) h.m
  rw [hta] at hR1
  have hR2 := fun A c st W hr (hc : R.length ≤ c) (hcm : c ≤ 9223372036854775807) (h : OneK w W st) (hs : st.sums ≤ 1000) => mRoot_any (w.heap.size + 1) w.heap.size none [] rfl A R c st W (by omega) hc hcm hr hs6 (by omega) h.m
  have hal1 := (Mk.rootAsks_len [] a (R.take a) hta).1
  have hal2 := (Mk.rootAsks_len [] R.length R rfl).1
  have hG := fun A c st W hc hcm hr hs h => grows_any w R a A c st W h40 h32 ha hc hcm hr hs h
  have hS := fun P Q c1 c2 s t W hA hB h1 h2 hc1 hc2 => mkSame_any P Q c1 c2 (Mk.growth [] R a) (Mk.growth [] R a) s t W hA hB h1 h2 hc1 hc2
  rw [decide_eq_true (rfl : Mk.growth [] R a = Mk.growth [] R a)] at hS
  unfold RowPostE at hP
  unfold RowPost at hQ
  unfold MkPost at hR1 hR2
  generalize Mk.root [] (R.take a) = y1 at *
  generalize Mk.root [] R = y2 at *
  generalize Mk.rootAsks [] (R.take a) = rt1 at *
  generalize Mk.rootAsks [] R = rt2 at *
  generalize Mk.growth [] R a = PT at *
  clear hs6 h32 hta
  have HL := Lib.hid hL; clear hL
  have HP := Lib.hid hP; clear hP
  have HQ := Lib.hid hQ; clear hQ
  have HR1 := Lib.hid hR1; clear hR1
  have HR2 := Lib.hid hR2; clear hR2
  have HG := Lib.hid hG; clear hG
  have HS := Lib.hid hS; clear hS
  have HA := Lib.hid hA; clear hA hT
  generalize L.length = n at *
  have c1 : ¬ (a : Int) < 0 := by omega
  have c2 : ¬ (a : Int) > (R.length : Int) := by omega
  go_enter Tryd.func6, Tryd.ntmps6
  go_wp2_with fail
  refine (newMill_tv w).mono ?_
  rintro r1 w1 ⟨rfl, hM1, hb1, hs1⟩
  have H := Lib.hid (OneK.made HT.out hM1 hb1)
  have hf0 : Mill.fresh.sums = 0 := rfl
  generalize Mill.fresh = s0 at H hf0
  have hz1 : w.heap.size + 2 ≤ w1.heap.size := by omega
  clear hM1 hb1 hs1
  have hlow : ∀ B, w.heap.size + 2 ≤ B → ∀ z ∈ [w.heap.size + 1, w.heap.size], z < B := fun B hB z hz => by simp only [List.mem_cons, List.not_mem_nil, or_false] at hz; omega
  have HLOW := Lib.hid hlow; clear hlow
  go_wp2_with fail
  refine (HL.out _ _ H.out (by omega)).mono ?_
  rintro r w2 ⟨v, ts, rfl, hown, hts, hm2, hv2⟩
  replace H := Lib.hid (H.out.step hm2 hv2)
  obtain ⟨A2, cap2, rfl, hc2, hcm2, hR2⟩ := own_rowS (s := [w.heap.size + 1, w.heap.size]) hown (HLOW.out _ hz1)
  have hz2 : w.heap.size + 2 ≤ w2.heap.size := Nat.le_trans hz1 hv2.size
  have hq2 : (Mill.steps [] ts s0).sums ≤ 40 := by rw [Mill.steps_sums]; omega
  generalize Mill.steps [] ts s0 = s2 at H hq2
  clear hown hm2 hv2 hts
  go_wp2_with fail
  refine (HP.out _ _ _ _ hR2 hc2 hcm2 H.out (by omega)).mono ?_
  rintro r w3 ⟨v, ts3, rfl, hown3, hts3, hm3, hv3⟩
  replace H := Lib.hid (H.out.step hm3 hv3)
  obtain ⟨A3, cap3, rfl, hc3, hcm3, hP3⟩ := own_rowS (s := [w.heap.size + 1, w.heap.size]) hown3 (HLOW.out _ hz2)
  have hR3 := hR2.mv hv3 (fun z hz => hz)
  have hz3 : w.heap.size + 2 ≤ w3.heap.size := Nat.le_trans hz2 hv3.size
  have hq3 : (Mill.steps [] ts3 s2).sums ≤ 120 := by rw [Mill.steps_sums]; omega
  generalize Mill.steps [] ts3 s2 = s3 at H hq3
  clear hown3 hm3 hv3 hts3 hR2
  go_wp2_with fail
  refine (HR1.out _ _ _ _ (hR3.take a) hc2 hcm2 H.out (by omega)).mono ?_
  rintro r w4 ⟨rfl, hm4, hv4⟩
  replace H := Lib.hid (H.out.step hm4 hv4)
  have hR4 := hR3.mv hv4 (fun z hz => hz)
  have hP4 := hP3.mv hv4 (fun z hz => hz)
  have hz4 : w.heap.size + 2 ≤ w4.heap.size := Nat.le_trans hz3 hv4.size
  have hq4 : (Mill.steps [] rt1 s3).sums ≤ 170 := by rw [Mill.steps_sums]; omega
  generalize Mill.steps [] rt1 s3 = s4 at H hq4
  clear hm4 hv4 hR3 hP3
  go_upto_region 7 with (fail)
  have hbA := belowB w4 (.cells #[.int .i64 (a : Int), .string (S y1)] 47)
  have hF5 : Has (w4.alloc (.cells #[.int .i64 (a : Int), .string (S y1)] 47)) w4.heap.size 47 (ptc (a : Int) y1) := Has.made _ _ _
  generalize w4.alloc (.cells #[.int .i64 (a : Int), .string (S y1)] 47) = w5 at hbA hF5 ⊢
  replace H := Lib.hid (H.out.below hbA)
  have hR5 := hR4.below hbA
  have hP5 := hP4.below hbA
  generalize w4.heap.size = b1 at hF5 hz4 ⊢
  clear hbA hR4 hP4
  have hn1 : b1 ∉ [w.heap.size + 1, w.heap.size] := fun hx => by have := HLOW.out _ hz4 _ hx; omega
  have hz5 : b1 < w5.heap.size := hF5.lt
  go_wp2_with fail
  refine (HR2.out _ _ _ _ hR5 hc2 hcm2 H.out (by omega)).mono ?_
  rintro r w6 ⟨rfl, hm6, hv6⟩
  replace H := Lib.hid (H.out.step hm6 hv6)
  have hR6 := hR5.mv hv6 (fun z hz => hz)
  have hP6 := hP5.mv hv6 (fun z hz => hz)
  have hF6 := hv6.has hF5 hn1
  have hz6 : w.heap.size + 2 ≤ w6.heap.size := by have := hv6.size; omega
  have hq6 : (Mill.steps [] rt2 s4).sums ≤ 220 := by rw [Mill.steps_sums]; omega
  generalize Mill.steps [] rt2 s4 = s6 at H hq6
  clear hm6 hv6 hR5 hP5 hF5 hz5
  go_upto_region 8 with (fail)
  have hbB := belowB w6 (.cells #[.int .i64 (R.length : Int), .string (S y2)] 47)
  have hG7 : Has (w6.alloc (.cells #[.int .i64 (R.length : Int), .string (S y2)] 47)) w6.heap.size 47 (ptc (R.length : Int) y2) := Has.made _ _ _
  generalize w6.alloc (.cells #[.int .i64 (R.length : Int), .string (S y2)] 47) = w7 at hbB hG7 ⊢
  replace H := Lib.hid (H.out.below hbB)
  have hR7 := hR6.below hbB
  have hP7 := hP6.below hbB
  have hF7 := hF6.below hbB hF6.lt
  generalize w6.heap.size = b2 at hG7 hz6 ⊢
  clear hbB hR6 hP6 hF6
  have hn2 : b2 ∉ [w.heap.size + 1, w.heap.size] := fun hx => by have := HLOW.out _ hz6 _ hx; omega
  have hz7 : w.heap.size + 2 ≤ w7.heap.size := by have := hG7.lt; omega
  go_wp2_with fail
  refine (HQ.out _ _ _ _ hR7 hc2 hcm2 H.out (by omega)).mono ?_
  rintro r w8 ⟨v, ts8, rfl, hown8, hts8, hm8, hv8⟩
  replace H := Lib.hid (H.out.step hm8 hv8)
  obtain ⟨A8, cap8, rfl, hc8, hcm8, hQ8⟩ := own_rowS (s := [w.heap.size + 1, w.heap.size]) hown8 (HLOW.out _ hz7)
  have hP8 := hP7.mv hv8 (fun z hz => hz)
  have hF8 := hv8.has hF7 hn1
  have hG8 := hv8.has hG7 hn2
  have hq8 : (Mill.steps [] ts8 s6).sums ≤ 400 := by rw [Mill.steps_sums]; omega
  generalize Mill.steps [] ts8 s6 = s8 at H hq8
  clear hown8 hm8 hv8 hts8 hR7 hP7 hF7 hG7
  go_wp2_with fail
  refine (HS.out _ _ _ _ _ _ _ hP8 hQ8 hc3 hc8 hcm3 hcm8).mono ?_
  rintro r w9 ⟨rfl, hb9⟩
  replace H := Lib.hid (H.out.below hb9)
  have hP9 := hP8.below hb9
  have hF9 := hF8.below hb9 hF8.lt
  have hG9 := hG8.below hb9 hG8.lt
  clear hb9 hP8 hQ8 hF8 hG8
  have d0 : w9.cell? ⟨b1, 0, none⟩ = some (.int .i64 (a : Int)) := hF9.cell 0
  have d1 : w9.cell? ⟨b1, 1, none⟩ = some (.string (S y1)) := hF9.cell 1
  have d2 : w9.cell? ⟨b2, 0, none⟩ = some (.int .i64 (R.length : Int)) := hG9.cell 0
  have d3 : w9.cell? ⟨b2, 1, none⟩ = some (.string (S y2)) := hG9.cell 1
  clear hF9 hG9
  go_wp2_with fail
  refine (HG.out _ _ _ _ hc3 hcm3 hP9 (by omega) H.out).mono ?_
  rintro r w10 ⟨tsA, rfl, h10, hv10⟩
  clear d0 d1 d2 d3
  go_wp2_with fail
  refine (h10.awake).mono ?_
  rintro r w11 ⟨rfl, hb11⟩
  go_wp2_with fail
  go_ret
  exact ⟨rfl, hb11⟩

theorem merkleGrowths_any (A : Option Addr) (L : List (List UInt8)) (cap : Nat) (i : Int) (w : World) (hA : RowA w A L) (hT : Tabs w) (hlc : L.length ≤ cap) (hcm : cap ≤ 9223372036854775807) :
    Calls Tryd.prog 6 #[.slice A L.length cap, .int .i64 i] w fun e w' => e = .returned (.bool true) ∧ Below w.heap.size w w' := by
  by_cases hi : 0 ≤ i ∧ i ≤ ((Mk.leaves [] L).length : Int)
  · obtain ⟨h1, h2⟩ := hi
    obtain ⟨i, rfl⟩ := Int.eq_ofNat_of_zero_le h1
    exact merkleGrowths_ok A L cap i w hA hT hlc hcm (by omega)
  · exact merkleGrowths_size A L cap i w hA hT hlc hcm hi

set_option maxRecDepth 100000 in
theorem merkleGrowths_contract {H : Type} (enc : TypeId × Value → H) (W : World) (base : Nat) (args : Array Value) (ds gs : List (DataW H)) (before : List MemPlace)
    (hval : ∀ (j : Nat) t v, Tryd.f6.params[j]? = some t → args[j]? = some v → Value.okWide Tryd.prog W .any base t v)
    (hW : DataW.Whole enc Tryd.prog Tryd.f6.params.toList Rows.merkleGrowthsSpec.vars false W args.toList ds gs before)
    (hsz : (DataW.weightsEach Tryd.prog (Tryd.f6.params.toList ++ Rows.merkleGrowthsSpec.plain.varTypes Tryd.prog) (ds ++ gs)).all (· ≤ reachBytes) = true) (hT : Tabs W) :
    Calls Tryd.prog 6 args W fun e W' =>
      ((Rows.merkleGrowthsSpec.fn H (ds ++ gs)).results = [.lit (.bool true)] ∧ (Rows.merkleGrowthsSpec.fn H (ds ++ gs)).args = ds ∧ (Rows.merkleGrowthsSpec.fn H (ds ++ gs)).vars = []) ∧ e = .returned (.bool true) ∧ Below W.heap.size W W' := by
  obtain ⟨p, q, hA0, hV, rfl, hfz, hnd⟩ := hW
  have hA : DataW.TrodAll enc Tryd.prog W 0 (fun _ => true) true Tryd.f6.params.toList args.toList ds p := hA0
  rw [Tryd.params6] at hA hval hsz
  obtain ⟨v0, v1, d0, d1, p0, p1, rfl, rfl, rfl, h0, h1⟩ := trodAll_two hA
  obtain ⟨rfl, rfl⟩ := trodVars_none hV
  obtain ⟨A_p, len_p, cap_p, rfl⟩ := okWide_slice Tryd.underlying22 (hval 0 22 v0 rfl rfl)
  obtain ⟨fuel_p, hf_p⟩ := h0
  obtain ⟨l_p, rfl, lc_p, cm_p, hA_p, hB_p⟩ := mktexts_open hf_p (fun n hn => by
    have h := List.all_eq_true.1 hsz n (DataW.weights_mem_each (j := 0) (t := 22) (d := d0) rfl rfl n hn)
    exact Nat.le_trans (by simpa using h) (by decide))
  obtain ⟨i, rfl, rfl, rfl, bd_i⟩ := open_int Tryd.underlying3 (hval 1 3 v1 rfl rfl) h1
  exact (merkleGrowths_any A_p l_p cap_p i W hA_p hT lc_p cm_p).mono fun e W' h => ⟨⟨rfl, rfl, rfl⟩, h⟩

end Go.Proofs.YtphhaiccpllnpaaDoor
