/-
  The contract of PledgeSlips.
-/
import Derived.Test.YtlbdpadifhgloaaDoorOneM
import Derived.Test.YtlbdpadifhgloaaDoorLaw
import Derived.Test.YtlbdpadifhgloaaDoorRows
namespace Go.Proofs.YtlbdpadifhgloaaDoor
open Go.ChangeShapes Go.WideShapes Go.ChangeAt Go.RowKit
open Go.ChangeMaps (open_string shut_string)
set_option linter.unusedVariables false

set_option maxHeartbeats 4000000 in
set_option maxRecDepth 100000 in
theorem pledgeSlips_any (draw0 id0 name0 value0 : List UInt8) (w : World) (hT : Tabs w) :
    Calls Tryd.prog 6 #[.string (S draw0), .string (S id0), .string (S name0), .string (S value0)] w fun e w' => e = .returned (.bool true) ∧ Below w.heap.size w w' := by
  have hC1 := fun W => plgCut_any draw0 W
  have hC2 := fun W => plgCut_any id0 W
  have hC3 := fun W => plgCut_any name0 W
  have hC4 := fun W => plgCut_any value0 W
  have h1 := take300 draw0; have h2 := take300 id0; have h3 := take300 name0; have h4 := take300 value0
  generalize draw0.take 300 = draw at hC1 h1
  generalize id0.take 300 = id at hC2 h2
  generalize name0.take 300 = name at hC3 h3
  generalize value0.take 300 = value at hC4 h4
  have hSl := fun W st (h : OneM w W st) (hs : st.sums ≤ 10) => plgSlip_any _ _ none [] st W draw id name value h.m (by omega) (by omega) (by omega) (by omega) (by omega) rfl h.t h.two1 h.two
  have hSa := fun W st (h : OneM w W st) => plgSalt_any _ _ [] st W draw name h.m.at (by omega) (by omega) rfl h.t
  have hKy := fun W st (h : OneM w W st) => plgKey_any _ _ [] st W draw h.m.at (by omega) h.t
  have hkv := Plg.kept_slip [] rfl draw id name value
  have hsl := Plg.salt_len [] rfl draw name
  have hkl : (Plg.key [] draw).length = 32 := Mill.tag_len [] rfl _ _
  have hvl := Plg.veil_len [] rfl (Plg.key [] draw) name (Plg.salt [] draw name ++ value)
  rw [List.length_append, hsl] at hvl
  have hst : ∀ s st, (Mill.step [] s st).sums = st.sums + 1 := fun s st => Mill.step_sums _ _ _
  have hOf := fun W st (h : OneM w W st) (hs : st.sums ≤ 10) => plgOf_any _ _ none [] st W id name (Plg.salt [] draw name) value h.m (by omega) (by omega) (by omega) (by omega) (by omega) rfl h.t h.two1
  have hSh := fun W st (h : OneM w W st) => plgShut_any _ _ [] st W (Plg.key [] draw) name (Plg.salt [] draw name) value h.m.at (by omega) (by omega) (by omega) (by omega) rfl h.t
  have hKe := fun W st er (h : OneM w W st) (hs : st.sums ≤ 10) => plgKept_any _ _ none [] st W (Plg.key [] draw) id name (Mill.hash [] (Plg.of id name (Plg.salt [] draw name) value)) (Plg.veil [] (Plg.key [] draw) name (Plg.salt [] draw name ++ value)) er h.m (by omega) (by omega) (by omega) (by omega) (by omega) rfl h.t h.two1 h.two
  have hks : ∀ er st, (Plg.keptS [] (Plg.key [] draw) id name (Plg.veil [] (Plg.key [] draw) name (Plg.salt [] draw name ++ value)) er st).sums ≤ st.sums + 1 := fun er st => by
    unfold Plg.keptS
    split
    · omega
    · split
      · omega
      · rw [Mill.step_sums]; omega
  have hK1 := fun W st h hs => hKe W st false h hs
  rw [hkv] at hK1
  have hK2 := fun W st h hs => hKe W st true h hs
  have hkt : Plg.keptV [] (Plg.key [] draw) id name (Mill.hash [] (Plg.of id name (Plg.salt [] draw name) value)) (Plg.veil [] (Plg.key [] draw) name (Plg.salt [] draw name ++ value)) true = ([], [], false) := if_pos rfl
  rw [hkt] at hK2
  clear hKe hkv hkt
  generalize Plg.keptS [] (Plg.key [] draw) id name (Plg.veil [] (Plg.key [] draw) name (Plg.salt [] draw name ++ value)) = ks at hK1 hK2 hks
  generalize Mill.hash [] (Plg.of id name (Plg.salt [] draw name) value) = pl at hSl hOf hK1 hK2
  generalize Plg.of id name (Plg.salt [] draw name) value = ot at hSl hOf
  generalize Plg.veil [] (Plg.key [] draw) name (Plg.salt [] draw name ++ value) = c at hSl hSh hK1 hK2
  generalize Mill.step [] = step at hSl hOf hst
  generalize Plg.key [] draw = key at hKy hSh hK1 hK2
  generalize Plg.salt [] draw name = salt at hSa hSl hOf hSh hK1 hK2
  unfold KeptPost at hK1 hK2
  dsimp only at hK1 hK2
  have bp : (pl == pl) = true := by simp
  have bc : (c == c) = true := by simp
  have bn : (name == name) = true := by simp
  have bs : (salt == salt) = true := by simp
  have bv : (value == value) = true := by simp
  have HC := Lib.hid (And.intro hC1 (And.intro hC2 (And.intro hC3 hC4))); clear hC1 hC2 hC3 hC4
  have HSL := Lib.hid hSl; clear hSl
  have HSA := Lib.hid hSa; clear hSa
  have HKY := Lib.hid hKy; clear hKy
  have HOF := Lib.hid hOf; clear hOf
  have HSH := Lib.hid hSh; clear hSh
  have HK1 := Lib.hid hK1; clear hK1
  have HK2 := Lib.hid hK2; clear hK2
  have HKS := Lib.hid hks; clear hks
  have HST := Lib.hid hst; clear hst
  have HT := Lib.hid hT; clear hT hsl hkl hvl h1 h2 h3 h4
  go_enter Tryd.func6, Tryd.ntmps6
  go_wp2_with fail
  refine (newMill_tv w).mono ?_
  rintro r1 w1 ⟨rfl, hM1, hb1, hs1⟩
  have H := Lib.hid (OneM.made HT.out hM1 hb1 hs1)
  have hs0 : Mill.fresh.sums = 0 := rfl
  generalize hfr : Mill.fresh = fr at H hs0
  clear hM1 hb1 hs1 hfr
  go_wp2_with fail
  refine (HC.out.1 _).mono ?_
  rintro r w3 ⟨rfl, rfl⟩
  go_wp2_with fail
  refine (HC.out.2.1 _).mono ?_
  rintro r w3 ⟨rfl, rfl⟩
  go_wp2_with fail
  refine (HC.out.2.2.1 _).mono ?_
  rintro r w3 ⟨rfl, rfl⟩
  go_wp2_with fail
  refine (HC.out.2.2.2 _).mono ?_
  rintro r w3 ⟨rfl, rfl⟩
  go_wp2_with fail
  refine (HSL.out _ _ H.out (by omega)).mono ?_
  rintro r w2 ⟨rfl, hm, hv⟩
  replace H := Lib.hid (H.out.step hm hv); clear hm hv
  have hs1 : (step ot fr).sums = 1 := by rw [HST.out]; omega
  generalize step ot fr = st1 at H hs1
  have hu := (Below.refl _ w2).alloc (Nat.le_refl _) (.cells #[.string (S name), .string (S pl), .string (S c), .bool false] 38)
  have hA := Has.made w2 38 #[.string (S name), .string (S pl), .string (S c), .bool false]
  have hG := H.out.sz
  replace H := Lib.hid (And.intro (H.out.below hu) hA); clear hu hA
  go_upto_region 12 with (fail)
  generalize w2.alloc (.cells #[.string (S name), .string (S pl), .string (S c), .bool false] 38) = W2 at H ⊢
  generalize w2.heap.size = G at H hG ⊢
  refine (HSA.out _ _ H.out.1).mono ?_
  rintro r w3 ⟨rfl, hb⟩
  replace H := Lib.hid (And.intro (H.out.1.below hb) (H.out.2.below hb H.out.2.lt)); clear hb
  go_wp2_with fail
  refine (HKY.out _ _ H.out.1).mono ?_
  rintro r w4 ⟨rfl, hb⟩
  replace H := Lib.hid (And.intro (H.out.1.below hb) (H.out.2.below hb H.out.2.lt)); clear hb
  have c0 := H.out.2.cell 0; have c1 := H.out.2.cell 1; have c2 := H.out.2.cell 2; have c3 := H.out.2.cell 3
  go_wp2_with fail
  refine (HK1.out _ _ H.out.1 (by omega)).mono ?_
  rintro r w5 ⟨rfl, hm, hv⟩
  replace H := Lib.hid (And.intro (H.out.1.step hm hv) (H.out.1.beside hv hG H.out.2)); clear hm hv c0 c1 c2 c3
  have hs2 : (ks false st1).sums ≤ 2 := by have := HKS.out false st1; omega
  generalize ks false st1 = st2 at H hs2
  go_wp2_with fail
  refine (HOF.out _ _ H.out.1 (by omega)).mono ?_
  rintro r w6 ⟨rfl, hm, hv⟩
  replace H := Lib.hid (And.intro (H.out.1.step hm hv) (H.out.1.beside hv hG H.out.2)); clear hm hv
  have hs3 : (step ot st2).sums ≤ 3 := by rw [HST.out]; omega
  generalize step ot st2 = st3 at H hs3
  go_wp2_with fail
  refine (HSH.out _ _ H.out.1).mono ?_
  rintro r w7 ⟨rfl, hb⟩
  replace H := Lib.hid (And.intro (H.out.1.below hb) (H.out.2.below hb H.out.2.lt)); clear hb
  have c0 := H.out.2.cell 0; have c1 := H.out.2.cell 1; have c2 := H.out.2.cell 2; have c3 := H.out.2.cell 3
  have hGl := H.out.2.lt
  go_upto_region 12 with (fail)
  have hu1 := (Below.refl _ w7).alloc (Nat.le_refl _) (.cells #[.string (S name), .string (S pl), .string (S c), .bool false] 38)
  have hs7 : (w7.alloc (.cells #[.string (S name), .string (S pl), .string (S c), .bool false] 38)).heap.size = w7.heap.size + 1 := by simp
  have hu2 := hu1.alloc hu1.size (.cells #[.string (S name), .string (S pl), .string (S c), .bool false] 38)
  have hN := (Has.made w7 38 #[.string (S name), .string (S pl), .string (S c), .bool false]).of_alloc (.cells #[.string (S name), .string (S pl), .string (S c), .bool false] 38)
  have hN1 := Has.made (w7.alloc (.cells #[.string (S name), .string (S pl), .string (S c), .bool false] 38)) 38 #[.string (S name), .string (S pl), .string (S c), .bool false]
  rw [hs7] at hN1
  replace H := Lib.hid (And.intro (H.out.1.below hu2) (And.intro (H.out.2.below hu2 hGl) (And.intro hN hN1))); clear hu1 hu2 hN hN1 hs7 c0 c1 c2 c3
  generalize (w7.alloc (.cells #[.string (S name), .string (S pl), .string (S c), .bool false] 38)).alloc (.cells #[.string (S name), .string (S pl), .string (S c), .bool false] 38) = W8 at H ⊢
  generalize w7.heap.size = N at H hGl ⊢
  have c3 := H.out.2.2.2.cell 3
  have f3 := H.out.2.2.2.free 3
  have ho := Only.set W8 (N + 1) 3 (.bool true)
  have hN1 : Has (W8.setCell ⟨N + 1, 3, none⟩ (.bool true)) (N + 1) 38 #[.string (S name), .string (S pl), .string (S c), .bool true] := H.out.2.2.2.set 3 (.bool true)
  replace H := Lib.hid (And.intro (H.out.1.only ho (by omega)) (And.intro (ho.has H.out.2.1 (by omega)) (And.intro (ho.has H.out.2.2.1 (by omega)) hN1))); clear ho hN1
  go_upto_region 13 with (fail)
  generalize W8.setCell ⟨N + 1, 3, none⟩ (.bool true) = W9 at H ⊢
  clear c3 f3
  have c0 := H.out.2.2.2.cell 0; have c1 := H.out.2.2.2.cell 1; have c2 := H.out.2.2.2.cell 2; have c3 := H.out.2.2.2.cell 3
  go_wp2_with fail
  refine (HK2.out _ _ H.out.1 (by omega)).mono ?_
  rintro r w10 ⟨rfl, hm, hv⟩
  replace H := Lib.hid (And.intro (H.out.1.step hm hv) (And.intro (H.out.1.beside hv hG H.out.2.1) (H.out.1.beside hv (by omega) H.out.2.2.1))); clear hm hv c0 c1 c2 c3
  have c0 := H.out.2.1.cell 0; have c1 := H.out.2.1.cell 1; have c2 := H.out.2.1.cell 2; have c3 := H.out.2.1.cell 3
  have hE := fun W => run_slsame name pl c false W
  have hG2 := fun op o1 o2 W => run_slguard op o1 o2 #[.string (S name), .string (S pl), .string (S c), .bool false] #[.string (S name), .string (S pl), .string (S c), .bool false] W
  clear bp bc bn
  have d0 := H.out.2.2.cell 0; have d1 := H.out.2.2.cell 1; have d2 := H.out.2.2.cell 2; have d3 := H.out.2.2.cell 3
  go_wp2_with fail
  refine (H.out.1.awake).mono ?_
  rintro r w11 ⟨rfl, hb⟩
  go_wp2_with fail
  go_ret
  exact ⟨rfl, (H.out.1.below hb).b⟩

set_option maxRecDepth 100000 in
theorem pledgeSlips_contract {H : Type} (enc : TypeId × Value → H) (W : World) (base : Nat) (args : Array Value) (ds gs : List (DataW H)) (before : List MemPlace)
    (hval : ∀ (j : Nat) t v, Tryd.f6.params[j]? = some t → args[j]? = some v → Value.okWide Tryd.prog W .any base t v)
    (hW : DataW.Whole enc Tryd.prog Tryd.f6.params.toList Rows.pledgeSlipsSpec.vars false W args.toList ds gs before)
    (hsz : (DataW.weightsEach Tryd.prog (Tryd.f6.params.toList ++ Rows.pledgeSlipsSpec.plain.varTypes Tryd.prog) (ds ++ gs)).all (· ≤ reachBytes) = true) (hT : Tabs W) :
    Calls Tryd.prog 6 args W fun e W' =>
      ((Rows.pledgeSlipsSpec.fn H (ds ++ gs)).results = [.lit (.bool true)] ∧ (Rows.pledgeSlipsSpec.fn H (ds ++ gs)).args = ds ∧ (Rows.pledgeSlipsSpec.fn H (ds ++ gs)).vars = []) ∧ e = .returned (.bool true) ∧ Below W.heap.size W W' := by
  obtain ⟨p, q, hA0, hV, rfl, hfz, hnd⟩ := hW
  have hA : DataW.TrodAll enc Tryd.prog W 0 (fun _ => true) true Tryd.f6.params.toList args.toList ds p := hA0
  rw [Tryd.params6] at hA hval hsz
  obtain ⟨v0, v1, v2, v3, d0, d1, d2, d3, p0, p1, p2, p3, rfl, rfl, rfl, h0, h1, h2, h3⟩ := trodAll_four hA
  obtain ⟨rfl, rfl⟩ := trodVars_none hV
  obtain ⟨draw, rfl, rfl, rfl, max_draw⟩ := open_string Tryd.underlying9 (hval 0 9 v0 rfl rfl) h0
  have len_draw : draw.data.toList.length ≤ reachBytes := sized_string hsz (j := 0) (t := 9) rfl rfl
  obtain ⟨id, rfl, rfl, rfl, max_id⟩ := open_string Tryd.underlying9 (hval 1 9 v1 rfl rfl) h1
  have len_id : id.data.toList.length ≤ reachBytes := sized_string hsz (j := 1) (t := 9) rfl rfl
  obtain ⟨name, rfl, rfl, rfl, max_name⟩ := open_string Tryd.underlying9 (hval 2 9 v2 rfl rfl) h2
  have len_name : name.data.toList.length ≤ reachBytes := sized_string hsz (j := 2) (t := 9) rfl rfl
  obtain ⟨value, rfl, rfl, rfl, max_value⟩ := open_string Tryd.underlying9 (hval 3 9 v3 rfl rfl) h3
  have len_value : value.data.toList.length ≤ reachBytes := sized_string hsz (j := 3) (t := 9) rfl rfl
  rw [← S_of draw]
  rw [← S_of id]
  rw [← S_of name]
  rw [← S_of value]
  exact (pledgeSlips_any draw.data.toList id.data.toList name.data.toList value.data.toList W hT).mono fun e W' h => ⟨⟨rfl, rfl, rfl⟩, h⟩

end Go.Proofs.YtlbdpadifhgloaaDoor
