/-
  The contract of PledgeSums.
-/
import Derived.Test.YtlbdpadifhgloaaDoorTwoM
import Derived.Test.YtlbdpadifhgloaaDoorLaw
import Derived.Test.YtlbdpadifhgloaaDoorRows
namespace Go.Proofs.YtlbdpadifhgloaaDoor
open Go.ChangeShapes Go.WideShapes Go.ChangeAt Go.RowKit
open Go.ChangeMaps (open_string shut_string)
set_option linter.unusedVariables false

set_option maxHeartbeats 4000000 in
set_option maxRecDepth 100000 in
theorem pledgeSums_any (id0 name0 salt0 value0 : List UInt8) (w : World) (hT : Tabs w) :
    Calls Tryd.prog 3 #[.string (S id0), .string (S name0), .string (S salt0), .string (S value0)] w fun e w' => e = .returned (.bool true) ∧ Below w.heap.size w w' := by
  have hC1 := fun W => plgCut_any id0 W
  have hC2 := fun W => plgCut_any name0 W
  have hC3 := fun W => plgCut_any salt0 W
  have hC4 := fun W => plgCut_any value0 W
  have h1 := take300 id0; have h2 := take300 name0; have h3 := take300 salt0; have h4 := take300 value0
  generalize id0.take 300 = id at hC1 h1
  generalize name0.take 300 = name at hC2 h2
  generalize salt0.take 300 = salt at hC3 h3
  generalize value0.take 300 = value at hC4 h4
  have hO : ∀ W stn st, TwoM w W st stn → st.sums ≤ 10 → Calls Tryd.prog 12 #[.pointer (some ⟨w.heap.size + 1, 0, none⟩), .string (S id), .string (S name), .string (S salt), .string (S value)] W (SumPostT W (w.heap.size + 1) w.heap.size none [] (Mill.step [] (Plg.of id name salt value) st) (Mill.hash [] (Plg.of id name salt value))) := fun W stn st h hs =>
    plgOf_any _ _ none [] st W id name salt value h.m (by omega) (by omega) (by omega) (by omega) (by omega) rfl h.t (by have := h.two; omega)
  have hLf : ∀ W stn st, TwoM w W st stn → st.sums ≤ 10 → Calls Tryd.prog 15 #[.pointer (some ⟨w.heap.size + 1, 0, none⟩), .string (S value)] W (SumPostT W (w.heap.size + 1) w.heap.size none [] (Mill.step [] (0 :: value) st) (Mill.hash [] (0 :: value))) := fun W stn st h hs =>
    plgLeaf_any _ _ none [] st W value h.m (by omega) (by omega) rfl h.t (by have := h.two; omega)
  have hNd : ∀ W stn st, TwoM w W st stn → st.sums ≤ 10 → Calls Tryd.prog 16 #[.pointer (some ⟨w.heap.size + 1, 0, none⟩), .string (S id), .string (S name)] W (SumPostT W (w.heap.size + 1) w.heap.size none [] (Mill.step [] ((1 :: id) ++ name) st) (Mill.hash [] ((1 :: id) ++ name))) := fun W stn st h hs =>
    plgNode_any _ _ none [] st W id name h.m (by omega) (by omega) (by omega) rfl h.t (by have := h.two; omega)
  have hNo : ∀ W stn st, TwoM w W st stn → st.sums ≤ 10 → Calls Tryd.prog 17 #[.pointer (some ⟨w.heap.size + 1, 0, none⟩)] W (SumPostT W (w.heap.size + 1) w.heap.size none [] (Mill.step [] [] st) (Mill.hash [] [])) := fun W stn st h hs =>
    plgNone_any _ _ none [] st W h.m (by omega) rfl h.t (by have := h.two; omega)
  have hS : ∀ s W stm st, TwoM w W stm st → st.sums ≤ 10 → s.length ≤ 5000000000000000 → Calls Tryd.prog 13 #[.pointer (some ⟨w.heap.size + 2 + 1, 0, none⟩), .string (S s)] W (SumPostT W (w.heap.size + 2 + 1) (w.heap.size + 2) none [] (Mill.step [] s st) (Mill.hash [] s)) := fun s W stm st h hs hl =>
    millSum_anyT s _ _ none [] st W h.n hl (by omega) rfl h.t (by have := h.two; omega)
  have hF := fun W => plgLof_any id name salt value W (by omega) (by omega) (by omega) (by omega)
  have hol := Plg.of_small (id := id) (name := name) (salt := salt) (value := value) (by omega) (by omega) (by omega) (by omega)
  have S1 := fun W stm st h hs => hS (Plg.of id name salt value) W stm st h hs hol
  have S2 := fun W stm st h hs => hS (0 :: value) W stm st h hs (by rw [List.length_cons]; omega)
  have S3 := fun W stm st h hs => hS ((1 :: id) ++ name) W stm st h hs (by rw [List.length_append, List.length_cons]; omega)
  have S4 := fun W stm st h hs => hS [] W stm st h hs (Nat.zero_le _)
  clear hS
  have hst : ∀ s st, (Mill.step [] s st).sums = st.sums + 1 := fun s st => Mill.step_sums _ _ _
  generalize Mill.hash [] (Plg.of id name salt value) = x1 at hO S1
  generalize Mill.hash [] (0 :: value) = x2 at hLf S2
  generalize Mill.hash [] ((1 :: id) ++ name) = x3 at hNd S3
  generalize Mill.hash [] [] = x4 at hNo S4
  generalize Mill.step [] = step at hO hLf hNd hNo S1 S2 S3 S4 hst
  generalize Plg.of id name salt value = t1 at hO S1 hF hol
  have b1 : (x1 == x1) = true := by simp
  have b2 : (x2 == x2) = true := by simp
  have b3 : (x3 == x3) = true := by simp
  have b4 : (x4 == x4) = true := by simp
  have HC := Lib.hid (And.intro hC1 (And.intro hC2 (And.intro hC3 hC4))); clear hC1 hC2 hC3 hC4
  have HO := Lib.hid hO; clear hO
  have HLF := Lib.hid hLf; clear hLf
  have HND := Lib.hid hNd; clear hNd
  have HNO := Lib.hid hNo; clear hNo
  have HF := Lib.hid hF; clear hF
  have HS := Lib.hid (And.intro S1 (And.intro S2 (And.intro S3 S4))); clear S1 S2 S3 S4
  have HST := Lib.hid hst; clear hst
  have HT := Lib.hid hT; clear hT hol
  go_enter Tryd.func3, Tryd.ntmps3
  go_wp2_with fail
  refine (newMill_tv w).mono ?_
  rintro r1 w1 ⟨rfl, hM1, hb1, hs1⟩
  go_wp2_with fail
  refine (newMill_tv w1).mono ?_
  rintro r2 w2 ⟨rfl, hN2, hb2, hs2⟩
  have H := Lib.hid (TwoM.made HT.out hM1 hb1 hs1 hN2 hb2)
  have hs0 : Mill.fresh.sums = 0 := rfl
  generalize hfr : Mill.fresh = fr at H hs0
  clear hM1 hb1 hN2 hb2 hs2 hfr
  go_wp2_with fail
  refine (HC.out.1 _).mono ?_
  rintro r w3 ⟨rfl, rfl⟩
  go_wp2_with fail
  refine (HC.out.2.1 _).mono ?_
  rintro r w3 ⟨rfl, rfl⟩
  go_wp2_with fail
  refine (HC.out.2.2.1 _).mono ?_
  rintro r w3 ⟨rfl, rfl⟩
  go_wp2_with fail
  refine (HC.out.2.2.2 _).mono ?_
  rintro r w3 ⟨rfl, rfl⟩
  go_wp2_with fail
  refine (HO.out _ _ _ H.out (by omega)).mono ?_
  rintro r w3 ⟨rfl, hm, hv⟩
  replace H := Lib.hid (H.out.stepM hm hv); clear hm hv
  clear hs1
  go_wp2_with fail
  refine (HF.out _).mono ?_
  rintro r w4 ⟨rfl, hb⟩
  replace H := Lib.hid (H.out.below hb); clear hb
  go_wp2_with fail
  refine (HS.out.1 _ _ _ H.out (by omega)).mono ?_
  rintro r w5 ⟨rfl, hm, hv⟩
  replace H := Lib.hid (H.out.stepN hm hv); clear hm hv
  go_wp2_with fail
  refine (HLF.out _ _ _ H.out (by rw [HST.out]; omega)).mono ?_
  rintro r w6 ⟨rfl, hm, hv⟩
  replace H := Lib.hid (H.out.stepM hm hv); clear hm hv
  go_wp2_with fail
  refine (HS.out.2.1 _ _ _ H.out (by rw [HST.out]; omega)).mono ?_
  rintro r w7 ⟨rfl, hm, hv⟩
  replace H := Lib.hid (H.out.stepN hm hv); clear hm hv
  go_wp2_with fail
  refine (HND.out _ _ _ H.out (by rw [HST.out, HST.out]; omega)).mono ?_
  rintro r w8 ⟨rfl, hm, hv⟩
  replace H := Lib.hid (H.out.stepM hm hv); clear hm hv
  go_wp2_with fail
  refine (HS.out.2.2.1 _ _ _ H.out (by rw [HST.out, HST.out]; omega)).mono ?_
  rintro r w9 ⟨rfl, hm, hv⟩
  replace H := Lib.hid (H.out.stepN hm hv); clear hm hv
  go_wp2_with fail
  refine (HNO.out _ _ _ H.out (by rw [HST.out, HST.out, HST.out]; omega)).mono ?_
  rintro r w10 ⟨rfl, hm, hv⟩
  replace H := Lib.hid (H.out.stepM hm hv); clear hm hv
  go_wp2_with fail
  refine (HS.out.2.2.2 _ _ _ H.out (by rw [HST.out, HST.out, HST.out]; omega)).mono ?_
  rintro r w11 ⟨rfl, hm, hv⟩
  replace H := Lib.hid (H.out.stepN hm hv); clear hm hv
  go_wp2_with fail
  refine (H.out.awake).mono ?_
  rintro r w12 ⟨rfl, hb⟩
  go_wp2_with fail
  go_ret
  exact ⟨rfl, hb⟩

set_option maxRecDepth 100000 in
theorem pledgeSums_contract {H : Type} (enc : TypeId × Value → H) (W : World) (base : Nat) (args : Array Value) (ds gs : List (DataW H)) (before : List MemPlace)
    (hval : ∀ (j : Nat) t v, Tryd.f3.params[j]? = some t → args[j]? = some v → Value.okWide Tryd.prog W .any base t v)
    (hW : DataW.Whole enc Tryd.prog Tryd.f3.params.toList Rows.pledgeSumsSpec.vars false W args.toList ds gs before)
    (hsz : (DataW.weightsEach Tryd.prog (Tryd.f3.params.toList ++ Rows.pledgeSumsSpec.plain.varTypes Tryd.prog) (ds ++ gs)).all (· ≤ reachBytes) = true) (hT : Tabs W) :
    Calls Tryd.prog 3 args W fun e W' =>
      ((Rows.pledgeSumsSpec.fn H (ds ++ gs)).results = [.lit (.bool true)] ∧ (Rows.pledgeSumsSpec.fn H (ds ++ gs)).args = ds ∧ (Rows.pledgeSumsSpec.fn H (ds ++ gs)).vars = []) ∧ e = .returned (.bool true) ∧ Below W.heap.size W W' := by
  obtain ⟨p, q, hA0, hV, rfl, hfz, hnd⟩ := hW
  have hA : DataW.TrodAll enc Tryd.prog W 0 (fun _ => true) true Tryd.f3.params.toList args.toList ds p := hA0
  rw [Tryd.params3] at hA hval hsz
  obtain ⟨v0, v1, v2, v3, d0, d1, d2, d3, p0, p1, p2, p3, rfl, rfl, rfl, h0, h1, h2, h3⟩ := trodAll_four hA
  obtain ⟨rfl, rfl⟩ := trodVars_none hV
  obtain ⟨id, rfl, rfl, rfl, max_id⟩ := open_string Tryd.underlying9 (hval 0 9 v0 rfl rfl) h0
  have len_id : id.data.toList.length ≤ reachBytes := sized_string hsz (j := 0) (t := 9) rfl rfl
  obtain ⟨name, rfl, rfl, rfl, max_name⟩ := open_string Tryd.underlying9 (hval 1 9 v1 rfl rfl) h1
  have len_name : name.data.toList.length ≤ reachBytes := sized_string hsz (j := 1) (t := 9) rfl rfl
  obtain ⟨salt, rfl, rfl, rfl, max_salt⟩ := open_string Tryd.underlying9 (hval 2 9 v2 rfl rfl) h2
  have len_salt : salt.data.toList.length ≤ reachBytes := sized_string hsz (j := 2) (t := 9) rfl rfl
  obtain ⟨value, rfl, rfl, rfl, max_value⟩ := open_string Tryd.underlying9 (hval 3 9 v3 rfl rfl) h3
  have len_value : value.data.toList.length ≤ reachBytes := sized_string hsz (j := 3) (t := 9) rfl rfl
  rw [← S_of id]
  rw [← S_of name]
  rw [← S_of salt]
  rw [← S_of value]
  exact (pledgeSums_any id.data.toList name.data.toList salt.data.toList value.data.toList W hT).mono fun e W' h => ⟨⟨rfl, rfl, rfl⟩, h⟩

end Go.Proofs.YtlbdpadifhgloaaDoor
