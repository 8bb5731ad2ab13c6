/-
  The contract of MerkleBegins.
-/
import Derived.Test.YtphhaiccpllnpaaDoorMkBegins
import Derived.Test.YtphhaiccpllnpaaDoorMillWith
import Derived.Test.YtphhaiccpllnpaaDoorMillEnts
import Derived.Test.YtphhaiccpllnpaaDoorLaw
import Derived.Test.YtphhaiccpllnpaaDoorRows
namespace Go.Proofs.YtphhaiccpllnpaaDoor
open Go.ChangeShapes Go.WideShapes Go.ChangeAt Go.RowKit
open Go.ChangeMaps (open_string shut_string)
set_option linter.unusedVariables false

set_option maxHeartbeats 4000000 in
set_option maxRecDepth 100000 in
theorem merkleBegins_cut (A : Option Addr) (m : List Mill.En) (n0 cap : Nat) (O Y P : Option Addr) (o y p : List (List UInt8)) (co cy cp : Nat) (hm10 : m.length ≤ 10) (hfit : Mill.fit m) (w : World) (hE : Ents w A m) (hT : Tabs w)
    (hO : RowA w O o) (hY : RowA w Y y) (hP : RowA w P p) (hco : o.length ≤ co) (hcom : co ≤ 9223372036854775807) (hcy : y.length ≤ cy) (hcym : cy ≤ 9223372036854775807) (hcp : p.length ≤ cp) (hcpm : cp ≤ 9223372036854775807)
    (hcut : (n0 = m.length ∧ ¬ (10 : Int) < (n0 : Int)) ∨ ((10 : Int) < (n0 : Int) ∧ m.length = 10 ∧ (10 : Int) ≤ (cap : Int))) (hncap : (n0 : Int) ≤ (cap : Int)) (hcm : (cap : Int) ≤ 9223372036854775807) :
    Calls Tryd.prog 9 #[.slice A n0 cap, .slice O o.length co, .slice Y y.length cy, .slice P p.length cp] w fun e w' => e = .returned (.bool true) ∧ Below w.heap.size w w' := by
  have hg : ((o.length : Int) > 20) ∨ (¬ (o.length : Int) > 20 ∧ (y.length : Int) > 20) ∨ (¬ (o.length : Int) > 20 ∧ ¬ (y.length : Int) > 20 ∧ Mk.allSums o = false) ∨ (¬ (o.length : Int) > 20 ∧ ¬ (y.length : Int) > 20 ∧ Mk.allSums o = true ∧ Mk.allSums y = false) ∨
      (¬ (o.length : Int) > 20 ∧ ¬ (y.length : Int) > 20 ∧ Mk.allSums o = true ∧ Mk.allSums y = true) := by
    cases h1 : Mk.allSums o <;> cases h2 : Mk.allSums y <;> by_cases h3 : (o.length : Int) > 20 <;> by_cases h4 : (y.length : Int) > 20 <;> simp [h3, h4]
  have hSO := fun tv st W (h : OneT w W tv m st) => mkSums_any O co o [] W (hO.at h.b (by simp)) hco hcom
  have hSY := fun tv st W (h : OneT w W tv m st) => mkSums_any Y cy y [] W (hY.at h.b (by simp)) hcy hcym
  have hRO := fun hr (hl : ¬ (o.length : Int) > 20) (hs : Mk.allSums o = true) tv st W (h : OneT w W tv m st) (hst : st.sums ≤ 1000) => mRoot_any (w.heap.size + 1) w.heap.size tv m hr O o co st W (by omega) hco hcom (hO.at h.b two_low) (fun s hx => by rw [(Mk.allSums_iff o).1 hs s hx]; decide) (by omega) h.m
  have hRY := fun hr (hl : ¬ (y.length : Int) > 20) (hs : Mk.allSums y = true) tv st W (h : OneT w W tv m st) (hst : st.sums ≤ 1000) => mRoot_any (w.heap.size + 1) w.heap.size tv m hr Y y cy st W (by omega) hcy hcym (hY.at h.b two_low) (fun s hx => by rw [(Mk.allSums_iff y).1 hs s hx]; decide) (by omega) h.m
  have hG := fun hr (hl : ¬ (y.length : Int) > 20) (hso : Mk.allSums o = true) (hsy : Mk.allSums y = true) tv st W (h : OneT w W tv m st) (hst : st.sums ≤ 1000) => mGrown_any (w.heap.size + 1) w.heap.size tv m hr o.length y.length (Mk.root m o) (Mk.root m y) p P cp st W (by omega) ⟨Mk.root_len m hr o ((Mk.allSums_iff o).1 hso), Mk.root_len m hr y ((Mk.allSums_iff y).1 hsy)⟩ hcp hcpm (hP.at h.b two_low) (by omega) h.m
  have hSm := fun (hl : o.length ≤ y.length) tv st W (h : OneT w W tv m st) => mkSame_any O Y co cy o (y.take o.length) [] [] W (hO.at h.b (by simp)) ((hY.take o.length).at h.b (by simp)) hco (by rw [List.length_take]; omega) hcom hcym
  have hfin := fun hr ts (ht : ts.length ≤ 40) (h1 : ¬ (o.length : Int) > 20) (h2 : ¬ (y.length : Int) > 20) (hso : Mk.allSums o = true) (hsy : Mk.allSums y = true) h => Mk.begins_fin m hr o y p ts ((Mk.allSums_iff o).1 hso) ((Mk.allSums_iff y).1 hsy) (by omega) (by omega) ht h
  have ka := (Mk.rootAsks_len m o.length o rfl).1
  have kb := (Mk.rootAsks_len m y.length y rfl).1
  have htk : o.length ≤ y.length → (y.take o.length).length = o.length := fun h => by rw [List.length_take]; omega
  have hW := with_any A m cap (by omega) hfit w hE hT
  unfold WithPost at hW
  unfold MkPost at hRO hRY
  have hSm2 := fun (hl : o.length ≤ y.length) => (by have h := hSm hl; rw [htk hl] at h; exact h : ∀ tv st W, OneT w W tv m st → _)
  clear hSm
  generalize Mk.allSums o = bo at *
  generalize Mk.allSums y = by' at *
  generalize Mk.root m o = xo at *
  generalize Mk.root m y = xy at *
  generalize Mk.rootAsks m o = to' at *
  generalize Mk.rootAsks m y = ty at *
  generalize decide (o = y.take o.length) = dd at *
  have HSO := Lib.hid hSO; clear hSO
  have HSY := Lib.hid hSY; clear hSY
  have HRO := Lib.hid hRO; clear hRO
  have HRY := Lib.hid hRY; clear hRY
  have HG := Lib.hid hG; clear hG
  have HSM := Lib.hid hSm2; clear hSm2
  have HFIN := Lib.hid hfin; clear hfin
  have HW := Lib.hid hW; clear hW
  have HT := Lib.hid hT
  have h2 := hT.2.2
  clear hO hY hP hE hT hfit htk
  generalize p.length = kp at *
  generalize hko : o.length = ko at *
  generalize hky : y.length = ky at *
  clear hko hky
  rcases hcut with ⟨rfl, h10⟩ | ⟨h10, hl, hc10⟩
  case' inr => rw [hl] at HW
  all_goals
    go_enter Tryd.func9, Tryd.ntmps9
    go_wp2_with fail
    refine HW.out.mono ?_
    rintro r1 w1 ⟨hb1, ⟨hr, rfl, hm1⟩ | ⟨hr, rfl⟩⟩
    case' inr =>
      have HA := Lib.hid (awakeMk_any w1 (HT.out.below hb1 (by omega)))
      clear HFIN
      go_wp2_with fail
      refine HA.out.mono ?_
      rintro r w6 ⟨rfl, hb⟩
      go_wp2_with fail
      go_ret
      exact ⟨rfl, hb1.trans (hb.mono hb1.size)⟩
    case' inl =>
      obtain ⟨tv, hm1⟩ := hm1
      have H := Lib.hid (OneT.mk (w0 := w) (⟨hm1, HT.out.below hb1 (by omega), by omega, by omega⟩ : MkW w1 (w.heap.size + 1) w.heap.size tv m Mill.fresh) hb1)
      have hz1 : w.heap.size + 2 ≤ w1.heap.size := by have := H.out.m.m.lt; omega
      clear hb1 hm1 HW
      have hs0 : Mill.fresh.sums = 0 := rfl
      rcases hg with g1 | ⟨g1, g2⟩ | ⟨g1, g2, rfl⟩ | ⟨g1, g2, rfl, rfl⟩ | ⟨g1, g2, rfl, rfl⟩
      case' inl =>
        have HA := Lib.hid H.out.awake
        go_wp2_with fail
        refine HA.out.mono ?_
        rintro r w6 ⟨rfl, hb⟩
        go_wp2_with fail
        go_ret
        exact ⟨rfl, hb⟩
      case' inr.inl =>
        have HA := Lib.hid H.out.awake
        go_wp2_with fail
        refine HA.out.mono ?_
        rintro r w6 ⟨rfl, hb⟩
        go_wp2_with fail
        go_ret
        exact ⟨rfl, hb⟩
      case' inr.inr.inl =>
        go_wp2_with fail
        refine (HSO.out _ _ _ H.out).mono ?_
        rintro r w2 ⟨rfl, rfl⟩
        have HA := Lib.hid H.out.awake
        go_wp2_with fail
        refine HA.out.mono ?_
        rintro r w6 ⟨rfl, hb⟩
        go_wp2_with fail
        go_ret
        exact ⟨rfl, hb⟩
      case' inr.inr.inr.inl =>
        go_wp2_with fail
        refine (HSO.out _ _ _ H.out).mono ?_
        rintro r w2 ⟨rfl, rfl⟩
        go_wp2_with fail
        refine (HSY.out _ _ _ H.out).mono ?_
        rintro r w3 ⟨rfl, rfl⟩
        have HA := Lib.hid H.out.awake
        go_wp2_with fail
        refine HA.out.mono ?_
        rintro r w6 ⟨rfl, hb⟩
        go_wp2_with fail
        go_ret
        exact ⟨rfl, hb⟩
      case' inr.inr.inr.inr =>
        have hfin := fun ts ht => HFIN.out hr ts ht g1 g2 (by first | rfl | trivial) (by first | rfl | trivial)
        clear HFIN
        generalize Mill.fresh = fr at H hs0 hfin
        go_wp2_with fail
        refine (HSO.out _ _ _ H.out).mono ?_
        rintro r w2 ⟨rfl, rfl⟩
        go_wp2_with fail
        refine (HSY.out _ _ _ H.out).mono ?_
        rintro r w3 ⟨rfl, rfl⟩
        go_wp2_with fail
        refine (HRO.out hr g1 (by first | rfl | trivial) _ _ _ H.out (by omega)).mono ?_
        rintro r w4 ⟨rfl, hm4, hv4⟩
        replace H := Lib.hid (H.out.step hm4 hv4)
        have hz4 : w.heap.size + 2 ≤ w4.heap.size := Nat.le_trans hz1 hv4.size
        have hq4 : (Mill.steps m to' fr).sums ≤ 30 := by rw [Mill.steps_sums]; omega
        generalize Mill.steps m to' fr = s4 at H hq4 hfin
        clear hm4 hv4
        go_upto_region 7 with (fail)
        have hbA := belowB w4 (.cells #[.int .i64 (ko : Int), .string (S xo)] 47)
        have hF5 : Has (w4.alloc (.cells #[.int .i64 (ko : Int), .string (S xo)] 47)) w4.heap.size 47 (ptc (ko : Int) xo) := Has.made _ _ _
        generalize w4.alloc (.cells #[.int .i64 (ko : Int), .string (S xo)] 47) = w5 at hbA hF5 ⊢
        replace H := Lib.hid (H.out.below hbA)
        generalize w4.heap.size = b1 at hF5 hz4 ⊢
        clear hbA
        have hn1 : b1 ∉ [w.heap.size + 1, w.heap.size] := by simp only [List.mem_cons, List.not_mem_nil, or_false]; omega
        have hz5 : b1 < w5.heap.size := hF5.lt
        go_wp2_with fail
        refine (HRY.out hr g2 (by first | rfl | trivial) _ _ _ H.out (by omega)).mono ?_
        rintro r w6 ⟨rfl, hm6, hv6⟩
        replace H := Lib.hid (H.out.step hm6 hv6)
        have hF6 := hv6.has hF5 hn1
        have hz6 : w.heap.size + 2 ≤ w6.heap.size := by have := hv6.size; omega
        have hq6 : (Mill.steps m ty s4).sums ≤ 60 := by rw [Mill.steps_sums]; omega
        generalize Mill.steps m ty s4 = s6 at H hq6 hfin
        clear hm6 hv6 hF5 hz5
        go_upto_region 8 with (fail)
        have hbB := belowB w6 (.cells #[.int .i64 (ky : Int), .string (S xy)] 47)
        have hG7 : Has (w6.alloc (.cells #[.int .i64 (ky : Int), .string (S xy)] 47)) w6.heap.size 47 (ptc (ky : Int) xy) := Has.made _ _ _
        generalize w6.alloc (.cells #[.int .i64 (ky : Int), .string (S xy)] 47) = w7 at hbB hG7 ⊢
        replace H := Lib.hid (H.out.below hbB)
        have hF7 := hF6.below hbB hF6.lt
        generalize w6.heap.size = b2 at hG7 hz6 ⊢
        clear hbB hF6
        have d0 : w7.cell? ⟨b1, 0, none⟩ = some (.int .i64 (ko : Int)) := hF7.cell 0
        have d1 : w7.cell? ⟨b1, 1, none⟩ = some (.string (S xo)) := hF7.cell 1
        have d2 : w7.cell? ⟨b2, 0, none⟩ = some (.int .i64 (ky : Int)) := hG7.cell 0
        have d3 : w7.cell? ⟨b2, 1, none⟩ = some (.string (S xy)) := hG7.cell 1
        clear hF7 hG7
        go_wp2_with fail
        refine (HG.out hr g2 (by first | rfl | trivial) (by first | rfl | trivial) _ _ _ H.out (by omega)).mono ?_
        rintro r w8 ⟨c, ts, rfl, hts, hgrew, hm8, hv8⟩
        replace H := Lib.hid (H.out.step hm8 hv8)
        have hend : ((c != 0) = true) ∨ ((c != 0) = false ∧ ko ≤ ky ∧ dd = true) ∨ ((c != 0) = false ∧ ko ≤ ky ∧ dd = false ∧ (Mill.steps m ts s6).met = true ∧ ((Mill.steps m ts s6).a == (Mill.steps m ts s6).b) = false) := by
          by_cases hc : c = 0
          · obtain ⟨e0, e1 | ⟨e1, e2, e3⟩⟩ := hfin ts hts (hgrew hc)
            · exact Or.inr (Or.inl ⟨by simpa using hc, e0, e1⟩)
            · exact Or.inr (Or.inr ⟨by simpa using hc, e0, e1, e2, e3⟩)
          · exact Or.inl (by simpa using hc)
        clear hm8 hv8 hgrew hfin d0 d1 d2 d3
        generalize Mill.steps m ts s6 = s8 at H hend
        go_wp2_with fail
        refine (twins_any _ _ _ _ _ H.out.m.m.at).mono ?_
        rintro r w9 ⟨rfl, hb9⟩
        replace H := Lib.hid (H.out.below hb9); clear hb9
        generalize hmet' : s8.met = met at hend ⊢
        clear hmet'
        rcases hend with f1 | ⟨f1, f2, rfl⟩ | ⟨f1, f2, rfl, rfl, f5⟩
        · skip
          have HA := Lib.hid H.out.awake
          go_wp2_with fail
          refine HA.out.mono ?_
          rintro r w6 ⟨rfl, hb⟩
          go_wp2_with fail
          go_ret
          exact ⟨rfl, hb⟩
        · skip
          have f2' : (ko : Int) ≤ (ky : Int) := by omega
          go_wp2_with fail
          refine (HSM.out f2 _ _ _ H.out).mono ?_
          rintro r w10 ⟨rfl, hb10⟩
          replace H := Lib.hid (H.out.below hb10); clear hb10
          have HA := Lib.hid H.out.awake
          go_wp2_with fail
          refine HA.out.mono ?_
          rintro r w6 ⟨rfl, hb⟩
          go_wp2_with fail
          go_ret
          exact ⟨rfl, hb⟩
        · skip
          have f2' : (ko : Int) ≤ (ky : Int) := by omega
          go_wp2_with fail
          refine (HSM.out f2 _ _ _ H.out).mono ?_
          rintro r w10 ⟨rfl, hb10⟩
          replace H := Lib.hid (H.out.below hb10); clear hb10
          have HA := Lib.hid H.out.awake
          go_wp2_with fail
          refine HA.out.mono ?_
          rintro r w6 ⟨rfl, hb⟩
          go_wp2_with fail
          go_ret
          exact ⟨rfl, hb⟩

theorem merkleBegins_any (A : Option Addr) (m : List Mill.En) (cap : Nat) (O Y P : Option Addr) (o y p : List (List UInt8)) (co cy cp : Nat) (hfit : Mill.fit m) (w : World) (hE : Ents w A m) (hT : Tabs w)
    (hO : RowA w O o) (hY : RowA w Y y) (hP : RowA w P p) (hco : o.length ≤ co) (hcom : co ≤ 9223372036854775807) (hcy : y.length ≤ cy) (hcym : cy ≤ 9223372036854775807) (hcp : p.length ≤ cp) (hcpm : cp ≤ 9223372036854775807) (hlc : m.length ≤ cap) (hcm : cap ≤ maxLen) :
    Calls Tryd.prog 9 #[.slice A m.length cap, .slice O o.length co, .slice Y y.length cy, .slice P p.length cp] w fun e w' => e = .returned (.bool true) ∧ Below w.heap.size w w' := by
  have hmax : maxLen = 9223372036854775807 := rfl
  refine merkleBegins_cut A (m.take 10) m.length cap O Y P o y p co cy cp (by rw [List.length_take]; omega) (fun e he => hfit e (List.mem_of_mem_take he)) w (hE.take 10) hT hO hY hP hco hcom hcy hcym hcp hcpm ?_ (by omega) (by omega)
  by_cases h : 10 < m.length
  · refine Or.inr ⟨by omega, by rw [List.length_take]; omega, by omega⟩
  · refine Or.inl ⟨by rw [List.length_take]; omega, by omega⟩

set_option maxRecDepth 100000 in
theorem merkleBegins_contract {H : Type} (enc : TypeId × Value → H) (W : World) (base : Nat) (args : Array Value) (ds gs : List (DataW H)) (before : List MemPlace)
    (hval : ∀ (j : Nat) t v, Tryd.f9.params[j]? = some t → args[j]? = some v → Value.okWide Tryd.prog W .any base t v)
    (hW : DataW.Whole enc Tryd.prog Tryd.f9.params.toList Rows.merkleBeginsSpec.vars false W args.toList ds gs before)
    (hsz : (DataW.weightsEach Tryd.prog (Tryd.f9.params.toList ++ Rows.merkleBeginsSpec.plain.varTypes Tryd.prog) (ds ++ gs)).all (· ≤ reachBytes) = true) (hT : Tabs W) :
    Calls Tryd.prog 9 args W fun e W' =>
      ((Rows.merkleBeginsSpec.fn H (ds ++ gs)).results = [.lit (.bool true)] ∧ (Rows.merkleBeginsSpec.fn H (ds ++ gs)).args = ds ∧ (Rows.merkleBeginsSpec.fn H (ds ++ gs)).vars = []) ∧ e = .returned (.bool true) ∧ Below W.heap.size W W' := by
  obtain ⟨p, q, hA0, hV, rfl, hfz, hnd⟩ := hW
  have hA : DataW.TrodAll enc Tryd.prog W 0 (fun _ => true) true Tryd.f9.params.toList args.toList ds p := hA0
  rw [Tryd.params9] at hA hval hsz
  obtain ⟨v0, v1, v2, v3, d0, d1, d2, d3, p0, p1, p2, p3, rfl, rfl, rfl, h0, h1, h2, h3⟩ := trodAll_four hA
  obtain ⟨rfl, rfl⟩ := trodVars_none hV
  obtain ⟨A_m, len_m, cap_m, rfl⟩ := okWide_slice Tryd.underlying53 (hval 0 53 v0 rfl rfl)
  obtain ⟨fuel_m, hf_m⟩ := h0
  obtain ⟨l_m, rfl, hE_m, fit_m, lc_m, cm_m⟩ := ents_open hf_m (fun n hn => by
    have h := List.all_eq_true.1 hsz n (DataW.weights_mem_each (j := 0) (t := 53) (d := d0) rfl rfl n hn)
    exact Nat.le_trans (by simpa using h) (by decide))
  obtain ⟨A_o, len_o, cap_o, rfl⟩ := okWide_slice Tryd.underlying22 (hval 1 22 v1 rfl rfl)
  obtain ⟨fuel_o, hf_o⟩ := h1
  obtain ⟨l_o, rfl, lc_o, cm_o, hA_o, hB_o⟩ := mktexts_open hf_o (fun n hn => by
    have h := List.all_eq_true.1 hsz n (DataW.weights_mem_each (j := 1) (t := 22) (d := d1) rfl rfl n hn)
    exact Nat.le_trans (by simpa using h) (by decide))
  obtain ⟨A_y, len_y, cap_y, rfl⟩ := okWide_slice Tryd.underlying22 (hval 2 22 v2 rfl rfl)
  obtain ⟨fuel_y, hf_y⟩ := h2
  obtain ⟨l_y, rfl, lc_y, cm_y, hA_y, hB_y⟩ := mktexts_open hf_y (fun n hn => by
    have h := List.all_eq_true.1 hsz n (DataW.weights_mem_each (j := 2) (t := 22) (d := d2) rfl rfl n hn)
    exact Nat.le_trans (by simpa using h) (by decide))
  obtain ⟨A_p, len_p, cap_p, rfl⟩ := okWide_slice Tryd.underlying22 (hval 3 22 v3 rfl rfl)
  obtain ⟨fuel_p, hf_p⟩ := h3
  obtain ⟨l_p, rfl, lc_p, cm_p, hA_p, hB_p⟩ := mktexts_open hf_p (fun n hn => by
    have h := List.all_eq_true.1 hsz n (DataW.weights_mem_each (j := 3) (t := 22) (d := d3) rfl rfl n hn)
    exact Nat.le_trans (by simpa using h) (by decide))
  exact (merkleBegins_any A_m l_m cap_m A_o A_y A_p l_o l_y l_p cap_o cap_y cap_p fit_m W hE_m hT hA_o hA_y hA_p lc_o cm_o lc_y cm_y lc_p cm_p lc_m cm_m).mono fun e W' h => ⟨⟨rfl, rfl, rfl⟩, h⟩

end Go.Proofs.YtphhaiccpllnpaaDoor
