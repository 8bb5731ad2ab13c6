/-
  The contract of MerkleClimbs.
-/
import Derived.Test.YtphhaiccpllnpaaDoorMkArg
import Derived.Test.YtphhaiccpllnpaaDoorMkClimbE
import Derived.Test.YtphhaiccpllnpaaDoorLaw
import Derived.Test.YtphhaiccpllnpaaDoorRows
namespace Go.Proofs.YtphhaiccpllnpaaDoor
open Go.ChangeShapes Go.WideShapes Go.ChangeAt Go.RowKit
open Go.ChangeMaps (open_string shut_string)
set_option linter.unusedVariables false

set_option maxHeartbeats 4000000 in
set_option maxRecDepth 100000 in
theorem merkleClimbs_size (leaf : List UInt8) (i n : Int) (A : Option Addr) (L : List (List UInt8)) (n0 cap : Nat) (hL : L.length ≤ 40) (w : World) (hA : RowA w A L) (hT : Tabs w)
    (hcut : (n0 = L.length ∧ ¬ (40 : Int) < (n0 : Int)) ∨ ((40 : Int) < (n0 : Int) ∧ L.length = 40)) (hnc : n0 ≤ cap) (hcm : cap ≤ 1000000000000000) (hb : ¬ (1 ≤ n ∧ n ≤ 65536 ∧ 0 ≤ i ∧ i < n)) :
    Calls Tryd.prog 5 #[.string (S leaf), .int .i64 i, .int .i64 n, .slice A n0 cap] w fun e w' => e = .returned (.bool true) ∧ Below w.heap.size w w' := by
  have HC := Lib.hid (fun k W => mClimb_size (w.heap.size + 1) i n leaf A k cap W hb)
  have hg : (n < 1) ∨ (¬ n < 1 ∧ n > 65536) ∨ (¬ n < 1 ∧ ¬ n > 65536 ∧ i < 0) ∨ (¬ n < 1 ∧ ¬ n > 65536 ∧ ¬ i < 0 ∧ i ≥ n) := by omega
  have HT := Lib.hid hT
  clear hA hT hb
  generalize L.length = m at *
  rcases hcut with ⟨rfl, h40⟩ | ⟨h40, rfl⟩
  all_goals
    rcases hg with hg | ⟨hg, hg1⟩ | ⟨hg, hg1, hg2⟩ | ⟨hg, hg1, hg2, hg3⟩
    all_goals
      go_enter Tryd.func5, Tryd.ntmps5
      go_wp2_with fail
      refine (newMill_tv w).mono ?_
      rintro r1 w1 ⟨rfl, hM1, hb1, hs1⟩
      have H := Lib.hid (OneK.made HT.out hM1 hb1)
      clear hM1 hb1 hs1
      go_wp2_with fail
      refine (HC.out _ _).mono ?_
      rintro r w2 ⟨rfl, rfl⟩
      go_wp2_with fail
      refine (H.out.awake).mono ?_
      rintro r w3 ⟨rfl, hb⟩
      go_wp2_with fail
      go_ret
      exact ⟨rfl, hb⟩

set_option maxHeartbeats 4000000 in
set_option maxRecDepth 100000 in
theorem merkleClimbs_bad (leaf : List UInt8) (i n : Nat) (A : Option Addr) (L : List (List UInt8)) (n0 cap : Nat) (hL : L.length ≤ 40) (w : World) (hA : RowA w A L) (hT : Tabs w)
    (hcut : (n0 = L.length ∧ ¬ (40 : Int) < (n0 : Int)) ∨ ((40 : Int) < (n0 : Int) ∧ L.length = 40)) (hnc : n0 ≤ cap) (hcm : cap ≤ 1000000000000000) (hn : 1 ≤ n) (hn6 : n ≤ 65536) (hi : i < n) (hb : ¬ (L.length = Mk.depth i n ∧ leaf.length = 32 ∧ Mk.allSums L = true)) :
    Calls Tryd.prog 5 #[.string (S leaf), .int .i64 (i : Int), .int .i64 (n : Int), .slice A n0 cap] w fun e w' => e = .returned (.bool true) ∧ Below w.heap.size w w' := by
  have hC := fun st W (h : OneK w W st) => mClimb_proof (w.heap.size + 1) i n leaf L A cap W hn hn6 hi (by omega) hcm (hA.at h.b (by simp)) hb
  have hS := fun st W (h : OneK w W st) => mkSums_any A cap L [] W (hA.at h.b (by simp)) (by omega) hcm
  have HD := Lib.hid (fun W => mkDepth_any n i W hn hn6 hi)
  have hg : (((leaf.length : Int) != 32) = true) ∨ (((leaf.length : Int) != 32) = false ∧ Mk.allSums L = false) ∨ (((leaf.length : Int) != 32) = false ∧ Mk.allSums L = true ∧ ((L.length : Int) != (Mk.depth i n : Int)) = true) := by
    by_cases h1 : leaf.length = 32
    · have h1' : ((leaf.length : Int) != 32) = false := by simpa using (show (leaf.length : Int) = 32 by omega)
      cases h2 : Mk.allSums L with
      | false => exact Or.inr (Or.inl ⟨h1', rfl⟩)
      | true =>
        have h3 : ¬ L.length = Mk.depth i n := fun h => hb ⟨h, h1, h2⟩
        exact Or.inr (Or.inr ⟨h1', rfl, by simpa using (show ¬ (L.length : Int) = (Mk.depth i n : Int) by omega)⟩)
    · exact Or.inl (by simpa using (show ¬ (leaf.length : Int) = 32 by omega))
  have c1 : ¬ (n : Int) < 1 := by omega
  have c2 : ¬ (n : Int) > 65536 := by omega
  have c3 : ¬ (i : Int) < 0 := by omega
  have c4 : ¬ (i : Int) ≥ (n : Int) := by omega
  have HT := Lib.hid hT
  clear hA hT hb
  generalize Mk.depth i n = d at *
  generalize Mk.allSums L = bs at *
  generalize L.length = m at *
  have HC := Lib.hid hC; clear hC
  have HS := Lib.hid hS; clear hS
  rcases hcut with ⟨rfl, h40⟩ | ⟨h40, rfl⟩
  all_goals
    rcases hg with hg | ⟨hg, rfl⟩ | ⟨hg, rfl, hg3⟩
    case' inl =>
      go_enter Tryd.func5, Tryd.ntmps5
      go_wp2_with fail
      refine (newMill_tv w).mono ?_
      rintro r1 w1 ⟨rfl, hM1, hb1, hs1⟩
      have H := Lib.hid (OneK.made HT.out hM1 hb1)
      clear hM1 hb1 hs1
      go_wp2_with fail
      refine (HC.out _ _ H.out).mono ?_
      rintro r w2 ⟨rfl, hb2⟩
      replace H := Lib.hid (H.out.below hb2); clear hb2
      go_wp2_with fail
      refine (H.out.awake).mono ?_
      rintro r w3 ⟨rfl, hb⟩
      go_wp2_with fail
      go_ret
      exact ⟨rfl, hb⟩
    case' inr.inl =>
      go_enter Tryd.func5, Tryd.ntmps5
      go_wp2_with fail
      refine (newMill_tv w).mono ?_
      rintro r1 w1 ⟨rfl, hM1, hb1, hs1⟩
      have H := Lib.hid (OneK.made HT.out hM1 hb1)
      clear hM1 hb1 hs1
      go_wp2_with fail
      refine (HC.out _ _ H.out).mono ?_
      rintro r w2 ⟨rfl, hb2⟩
      replace H := Lib.hid (H.out.below hb2); clear hb2
      go_wp2_with fail
      refine (HS.out _ _ H.out).mono ?_
      rintro r w2' ⟨rfl, rfl⟩
      go_wp2_with fail
      refine (H.out.awake).mono ?_
      rintro r w3 ⟨rfl, hb⟩
      go_wp2_with fail
      go_ret
      exact ⟨rfl, hb⟩
    case' inr.inr =>
      go_enter Tryd.func5, Tryd.ntmps5
      go_wp2_with fail
      refine (newMill_tv w).mono ?_
      rintro r1 w1 ⟨rfl, hM1, hb1, hs1⟩
      have H := Lib.hid (OneK.made HT.out hM1 hb1)
      clear hM1 hb1 hs1
      go_wp2_with fail
      refine (HC.out _ _ H.out).mono ?_
      rintro r w2 ⟨rfl, hb2⟩
      replace H := Lib.hid (H.out.below hb2); clear hb2
      go_wp2_with fail
      refine (HS.out _ _ H.out).mono ?_
      rintro r w2' ⟨rfl, rfl⟩
      go_wp2_with fail
      refine (HD.out _).mono ?_
      rintro r w2' ⟨rfl, rfl⟩
      go_wp2_with fail
      refine (H.out.awake).mono ?_
      rintro r w3 ⟨rfl, hb⟩
      go_wp2_with fail
      go_ret
      exact ⟨rfl, hb⟩

set_option maxHeartbeats 4000000 in
set_option maxRecDepth 100000 in
theorem merkleClimbs_ok (leaf : List UInt8) (i n : Nat) (A : Option Addr) (L : List (List UInt8)) (n0 cap : Nat) (hL : L.length ≤ 40) (w : World) (hA : RowA w A L) (hT : Tabs w)
    (hcut : (n0 = L.length ∧ ¬ (40 : Int) < (n0 : Int)) ∨ ((40 : Int) < (n0 : Int) ∧ L.length = 40)) (hnc : n0 ≤ cap) (hcm : cap ≤ 1000000000000000) (hn : 1 ≤ n) (hn6 : n ≤ 65536) (hi : i < n) (hd : L.length = Mk.depth i n) (hl : leaf.length = 32) (hs : Mk.allSums L = true) :
    Calls Tryd.prog 5 #[.string (S leaf), .int .i64 (i : Int), .int .i64 (n : Int), .slice A n0 cap] w fun e w' => e = .returned (.bool true) ∧ Below w.heap.size w w' := by
  have hsm := (Mk.allSums_iff L).1 hs
  have hC := fun st W (h : OneK w W st) (hst : st.sums ≤ 1000) => mClimb_ok (w.heap.size + 1) w.heap.size none [] rfl i n leaf L A cap st W hn hn6 hi (by omega) hcm (hA.at h.b two_low) hd hl hs (by omega) h.m
  have hC2 := fun st W (h : OneK w W st) (hst : st.sums ≤ 1000) => mkClimb_any (w.heap.size + 1) w.heap.size none [] rfl n leaf i L A cap st W hn hn6 hi hd (by omega) hcm (hA.at h.b two_low) (by omega) (fun s hx => by rw [hsm s hx]; decide) (by omega) h.m
  have hS := fun st W (h : OneK w W st) => mkSums_any A cap L [] W (hA.at h.b (by simp)) (by omega) hcm
  rw [hs] at hS
  have HD := Lib.hid (fun W => mkDepth_any n i W hn hn6 hi)
  have hal := Mk.climbAsks_len [] leaf i n L
  rw [← hd] at HD
  unfold MkPost at hC hC2
  have c0 : ((leaf.length : Int) != 32) = false := by simpa using (show (leaf.length : Int) = 32 by omega)
  have c1 : ¬ (n : Int) < 1 := by omega
  have c2 : ¬ (n : Int) > 65536 := by omega
  have c3 : ¬ (i : Int) < 0 := by omega
  have c4 : ¬ (i : Int) ≥ (n : Int) := by omega
  have HT := Lib.hid hT
  clear hA hT hsm hs hd
  generalize Mk.climb [] leaf i n L = y at *
  generalize Mk.climbAsks [] leaf i n L = ts at *
  generalize L.length = m at *
  have c5 : ((m : Int) != (m : Int)) = false := by simp
  have c6 : (y == y) = true := by simp
  have HC := Lib.hid hC; clear hC
  have HC2 := Lib.hid hC2; clear hC2
  have HS := Lib.hid hS; clear hS
  rcases hcut with ⟨rfl, h40⟩ | ⟨h40, rfl⟩
  all_goals
    go_enter Tryd.func5, Tryd.ntmps5
    go_wp2_with fail
    refine (newMill_tv w).mono ?_
    rintro r1 w1 ⟨rfl, hM1, hb1, hs1⟩
    have H := Lib.hid (OneK.made HT.out hM1 hb1)
    have hf0 : Mill.fresh.sums = 0 := rfl
    generalize Mill.fresh = s0 at H hf0
    clear hM1 hb1 hs1
    go_wp2_with fail
    refine (HC.out _ _ H.out (by omega)).mono ?_
    rintro r w2 ⟨rfl, hm2, hv2⟩
    have hq : (Mill.steps [] ts s0).sums ≤ 40 := by rw [Mill.steps_sums]; omega
    replace H := Lib.hid (H.out.step hm2 hv2); clear hm2 hv2
    go_wp2_with fail
    refine (HS.out _ _ H.out).mono ?_
    rintro r w2' ⟨rfl, rfl⟩
    go_wp2_with fail
    refine (HD.out _).mono ?_
    rintro r w2' ⟨rfl, rfl⟩
    go_wp2_with fail
    refine (HC2.out _ _ H.out (by omega)).mono ?_
    rintro r w3 ⟨rfl, hm3, hv3⟩
    replace H := Lib.hid (H.out.step hm3 hv3); clear hm3 hv3
    go_wp2_with fail
    refine (H.out.awake).mono ?_
    rintro r w4 ⟨rfl, hb⟩
    go_wp2_with fail
    go_ret
    exact ⟨rfl, hb⟩

theorem merkleClimbs_any (leaf : List UInt8) (i n : Int) (A : Option Addr) (l : List (List UInt8)) (cap : Nat) (w : World) (hA : RowA w A l) (hT : Tabs w) (hlc : l.length ≤ cap) (hcm : cap ≤ 1000000000000000) :
    Calls Tryd.prog 5 #[.string (S leaf), .int .i64 i, .int .i64 n, .slice A l.length cap] w fun e w' => e = .returned (.bool true) ∧ Below w.heap.size w w' := by
  have hL : (l.take 40).length ≤ 40 := by rw [List.length_take]; omega
  have hcut : (l.length = (l.take 40).length ∧ ¬ (40 : Int) < (l.length : Int)) ∨ ((40 : Int) < (l.length : Int) ∧ (l.take 40).length = 40) := by
    by_cases h : 40 < l.length
    · exact Or.inr ⟨by omega, by rw [List.length_take]; omega⟩
    · exact Or.inl ⟨by rw [List.length_take]; omega, by omega⟩
  by_cases hsz : 1 ≤ n ∧ n ≤ 65536 ∧ 0 ≤ i ∧ i < n
  · obtain ⟨h1, h2, h3, h4⟩ := hsz
    obtain ⟨n, rfl⟩ := Int.eq_ofNat_of_zero_le (show 0 ≤ n by omega)
    obtain ⟨i, rfl⟩ := Int.eq_ofNat_of_zero_le h3
    by_cases hok : (l.take 40).length = Mk.depth i n ∧ leaf.length = 32 ∧ Mk.allSums (l.take 40) = true
    · exact merkleClimbs_ok leaf i n A (l.take 40) l.length cap hL w (hA.take 40) hT hcut hlc hcm (by omega) (by omega) (by omega) hok.1 hok.2.1 hok.2.2
    · exact merkleClimbs_bad leaf i n A (l.take 40) l.length cap hL w (hA.take 40) hT hcut hlc hcm (by omega) (by omega) (by omega) hok
  · exact merkleClimbs_size leaf i n A (l.take 40) l.length cap hL w (hA.take 40) hT hcut hlc hcm hsz

set_option maxRecDepth 100000 in
theorem merkleClimbs_contract {H : Type} (enc : TypeId × Value → H) (W : World) (base : Nat) (args : Array Value) (ds gs : List (DataW H)) (before : List MemPlace)
    (hval : ∀ (j : Nat) t v, Tryd.f5.params[j]? = some t → args[j]? = some v → Value.okWide Tryd.prog W .any base t v)
    (hW : DataW.Whole enc Tryd.prog Tryd.f5.params.toList Rows.merkleClimbsSpec.vars false W args.toList ds gs before)
    (hsz : (DataW.weightsEach Tryd.prog (Tryd.f5.params.toList ++ Rows.merkleClimbsSpec.plain.varTypes Tryd.prog) (ds ++ gs)).all (· ≤ reachBytes) = true) (hT : Tabs W) :
    Calls Tryd.prog 5 args W fun e W' =>
      ((Rows.merkleClimbsSpec.fn H (ds ++ gs)).results = [.lit (.bool true)] ∧ (Rows.merkleClimbsSpec.fn H (ds ++ gs)).args = ds ∧ (Rows.merkleClimbsSpec.fn H (ds ++ gs)).vars = []) ∧ e = .returned (.bool true) ∧ Below W.heap.size W W' := by
  obtain ⟨p, q, hA0, hV, rfl, hfz, hnd⟩ := hW
  have hA : DataW.TrodAll enc Tryd.prog W 0 (fun _ => true) true Tryd.f5.params.toList args.toList ds p := hA0
  rw [Tryd.params5] at hA hval hsz
  obtain ⟨v0, v1, v2, v3, d0, d1, d2, d3, p0, p1, p2, p3, rfl, rfl, rfl, h0, h1, h2, h3⟩ := trodAll_four hA
  obtain ⟨rfl, rfl⟩ := trodVars_none hV
  obtain ⟨leaf, rfl, rfl, rfl, max_leaf⟩ := open_string Tryd.underlying9 (hval 0 9 v0 rfl rfl) h0
  have len_leaf : leaf.data.toList.length ≤ reachBytes := sized_string hsz (j := 0) (t := 9) rfl rfl
  obtain ⟨i, rfl, rfl, rfl, bd_i⟩ := open_int Tryd.underlying3 (hval 1 3 v1 rfl rfl) h1
  obtain ⟨n, rfl, rfl, rfl, bd_n⟩ := open_int Tryd.underlying3 (hval 2 3 v2 rfl rfl) h2
  obtain ⟨A_p, len_p, cap_p, rfl⟩ := okWide_slice Tryd.underlying22 (hval 3 22 v3 rfl rfl)
  obtain ⟨fuel_p, hf_p⟩ := h3
  obtain ⟨l_p, rfl, lc_p, cm_p, hA_p, hB_p⟩ := mktexts_open hf_p (fun n hn => by
    have h := List.all_eq_true.1 hsz n (DataW.weights_mem_each (j := 3) (t := 22) (d := d3) rfl rfl n hn)
    exact Nat.le_trans (by simpa using h) (by decide))
  rw [← S_of leaf]
  exact (merkleClimbs_any leaf.data.toList i n A_p l_p cap_p W hA_p hT lc_p cm_p).mono fun e W' h => ⟨⟨rfl, rfl, rfl⟩, h⟩

end Go.Proofs.YtphhaiccpllnpaaDoor
