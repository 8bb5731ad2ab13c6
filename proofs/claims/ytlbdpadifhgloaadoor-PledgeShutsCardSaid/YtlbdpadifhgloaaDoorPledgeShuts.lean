/-
  The contract of PledgeShuts.
-/
import Derived.Test.YtlbdpadifhgloaaDoorTwoM
import Derived.Test.YtlbdpadifhgloaaDoorLaw
import Derived.Test.YtlbdpadifhgloaaDoorRows
namespace Go.Proofs.YtlbdpadifhgloaaDoor
open Go.ChangeShapes Go.WideShapes Go.ChangeAt Go.RowKit
open Go.ChangeMaps (open_string shut_string)
set_option linter.unusedVariables false

abbrev salt16 : List UInt8 := [48, 49, 50, 51, 52, 53, 54, 55, 56, 57, 97, 98, 99, 100, 101, 102]

set_option maxHeartbeats 4000000 in
set_option maxRecDepth 100000 in
theorem pledgeShuts_any (key0 name0 value0 cipher0 : List UInt8) (w : World) (hT : Tabs w) :
    Calls Tryd.prog 5 #[.string (S key0), .string (S name0), .string (S value0), .string (S cipher0)] w fun e w' => e = .returned (.bool true) ∧ Below w.heap.size w w' := by
  have hC1 := fun W => plgCut_any key0 W
  have hC2 := fun W => plgCut_any name0 W
  have hC3 := fun W => plgCut_any value0 W
  have hC4 := fun W => plgCut_any cipher0 W
  have h1 := take300 key0; have h2 := take300 name0; have h3 := take300 value0; have h4 := take300 cipher0
  generalize key0.take 300 = key at hC1 h1
  generalize name0.take 300 = name at hC2 h2
  generalize value0.take 300 = value at hC3 h3
  generalize cipher0.take 300 = cipher at hC4 h4
  have hX := fun W => text_any name W (by omega)
  have hL := Plg.txt_len name
  have hsal : salt16.length = 16 := rfl
  have hSh : ∀ W st stn, TwoM w W st stn → Calls Tryd.prog 23 #[.pointer (some ⟨w.heap.size + 1, 0, none⟩), .string (S key), .string (S name), .string (S salt16), .string (S value)] W (TextPost W (Plg.veil [] key name (salt16 ++ value))) := fun W st stn h =>
    plgShut_any _ _ [] st W key name salt16 value h.m.at (by omega) (by omega) (by omega) (by omega) rfl h.t
  have hO1 : ∀ W st stn c, TwoM w W st stn → c.length ≤ 1000000 → Calls Tryd.prog 24 #[.pointer (some ⟨w.heap.size + 1, 0, none⟩), .string (S key), .string (S name), .string (S c)] W (OpenPost W (Plg.opened [] key name c)) := fun W st stn c h hc =>
    plgOpen_any _ _ [] st W key name c h.m.at (by omega) (by omega) hc rfl h.t
  have hV1 : ∀ W st stn s, TwoM w W st stn → s.length ≤ 1000000 → Calls Tryd.prog 25 #[.pointer (some ⟨w.heap.size + 2 + 1, 0, none⟩), .string (S key), .string (S (Plg.label name)), .string (S s)] W (TextPost W (Plg.veil [] key name s)) := fun W st stn s h hs =>
    veil_any key (Plg.label name) s _ _ [] stn W h.n.at rfl (by omega) (by have := Plg.label_len name; omega) hs h.t
  have hcl := Plg.veil_len [] rfl key name (salt16 ++ value)
  rw [List.length_append, hsal] at hcl
  have hop := Plg.opened_shut [] rfl key name salt16 value hsal
  have O1 := fun W st stn h => hO1 W st stn (Plg.veil [] key name (salt16 ++ value)) h (by omega)
  have O2 := fun W st stn h => hO1 W st stn cipher h (by omega)
  have V1 := fun W st stn h => hV1 W st stn (salt16 ++ value) h (by rw [List.length_append, hsal]; omega)
  have V2 := fun W st stn h => hV1 W st stn cipher h (by omega)
  rw [hop] at O1
  have hxl := Plg.veil_len [] rfl key name cipher
  unfold Plg.opened at O2
  generalize Plg.veil [] key name cipher = X at O2 V2 hxl
  generalize Plg.veil [] key name (salt16 ++ value) = c at hSh O1 V1
  unfold OpenPost at O1 O2
  dsimp only at O1
  unfold Plg.label at V1 V2
  generalize Plg.txt name = t at hX hL V1 V2
  have bc : (c == c) = true := by simp
  have bv : (value == value) = true := by simp
  have bX : (X == X) = true := by simp
  have q1 : ¬ 9223372036854775807 < 5 + t.length := by omega
  have q2 : ¬ 9223372036854775807 < 16 + value.length := by omega
  have hse : S salt16 = ⟨#[48, 49, 50, 51, 52, 53, 54, 55, 56, 57, 97, 98, 99, 100, 101, 102]⟩ := rfl
  have HC := Lib.hid (And.intro hC1 (And.intro hC2 (And.intro hC3 hC4))); clear hC1 hC2 hC3 hC4
  have HX := Lib.hid hX; clear hX
  have HSH := Lib.hid hSh; clear hSh
  have HO1 := Lib.hid O1; clear O1 hO1
  have HV := Lib.hid (And.intro V1 V2); clear V1 V2 hV1
  have HT := Lib.hid hT; clear hT hL hop hcl hsal
  unfold Plg.openR at O2
  by_cases hlt : X.length < 16
  · have hci : (cipher.length : Int) < 16 := by omega
    rw [if_pos hlt] at O2
    dsimp only at O2
    have HO2 := Lib.hid O2; clear O2 hlt hxl h1 h2 h3 h4
    go_enter Tryd.func5, Tryd.ntmps5
    go_wp2_with fail
    refine (newMill_tv w).mono ?_
    rintro r1 w1 ⟨rfl, hM1, hb1, hs1⟩
    go_wp2_with fail
    refine (newMill_tv w1).mono ?_
    rintro r2 w2 ⟨rfl, hN2, hb2, hs2⟩
    have H := Lib.hid (TwoM.made HT.out hM1 hb1 hs1 hN2 hb2)
    clear hM1 hb1 hN2 hb2 hs2
    go_wp2_with fail
    refine (HC.out.1 _).mono ?_
    rintro r w3 ⟨rfl, rfl⟩
    go_wp2_with fail
    refine (HC.out.2.1 _).mono ?_
    rintro r w3 ⟨rfl, rfl⟩
    go_wp2_with fail
    refine (HC.out.2.2.1 _).mono ?_
    rintro r w3 ⟨rfl, rfl⟩
    go_wp2_with fail
    refine (HC.out.2.2.2 _).mono ?_
    rintro r w3 ⟨rfl, rfl⟩
    go_wp2_with fail
    refine (HX.out _).mono ?_
    rintro r w3 ⟨rfl, hb⟩
    replace H := Lib.hid (H.out.below hb); clear hb hs1
    go_wp2_with fail
    refine (HSH.out _ _ _ H.out).mono ?_
    rintro r w4 ⟨rfl, hb⟩
    replace H := Lib.hid (H.out.below hb); clear hb
    go_wp2_with fail
    refine (HO1.out _ _ _ H.out).mono ?_
    rintro r w5 ⟨rfl, hb⟩
    replace H := Lib.hid (H.out.below hb); clear hb
    go_wp2_with fail
    refine (HV.out.1 _ _ _ H.out).mono ?_
    rintro r w6 ⟨rfl, hb⟩
    replace H := Lib.hid (H.out.below hb); clear hb
    go_wp2_with fail
    refine (HO2.out _ _ _ H.out).mono ?_
    rintro r w7 ⟨rfl, hb⟩
    replace H := Lib.hid (H.out.below hb); clear hb
    go_wp2_with fail
    refine (H.out.awake).mono ?_
    rintro r w8 ⟨rfl, hb⟩
    go_wp2_with fail
    go_ret
    exact ⟨rfl, hb⟩
  · have hci : ¬ (cipher.length : Int) < 16 := by omega
    rw [if_neg hlt] at O2
    dsimp only at O2
    have hx16 : ((X.take 16).length : Int) = 16 := by rw [List.length_take]; omega
    have hxy : X.take 16 ++ X.drop 16 = X := List.take_append_drop 16 X
    have hq5 : ¬ 9223372036854775807 < (X.take 16).length + (X.drop 16).length := by rw [List.length_take, List.length_drop]; omega
    generalize X.take 16 = xa at O2 hx16 hxy hq5
    generalize X.drop 16 = xb at O2 hxy hq5
    have HO2 := Lib.hid O2; clear O2 hlt hxl h1 h2 h3 h4
    go_enter Tryd.func5, Tryd.ntmps5
    go_wp2_with fail
    refine (newMill_tv w).mono ?_
    rintro r1 w1 ⟨rfl, hM1, hb1, hs1⟩
    go_wp2_with fail
    refine (newMill_tv w1).mono ?_
    rintro r2 w2 ⟨rfl, hN2, hb2, hs2⟩
    have H := Lib.hid (TwoM.made HT.out hM1 hb1 hs1 hN2 hb2)
    clear hM1 hb1 hN2 hb2 hs2
    go_wp2_with fail
    refine (HC.out.1 _).mono ?_
    rintro r w3 ⟨rfl, rfl⟩
    go_wp2_with fail
    refine (HC.out.2.1 _).mono ?_
    rintro r w3 ⟨rfl, rfl⟩
    go_wp2_with fail
    refine (HC.out.2.2.1 _).mono ?_
    rintro r w3 ⟨rfl, rfl⟩
    go_wp2_with fail
    refine (HC.out.2.2.2 _).mono ?_
    rintro r w3 ⟨rfl, rfl⟩
    go_wp2_with fail
    refine (HX.out _).mono ?_
    rintro r w3 ⟨rfl, hb⟩
    replace H := Lib.hid (H.out.below hb); clear hb hs1
    go_wp2_with fail
    refine (HSH.out _ _ _ H.out).mono ?_
    rintro r w4 ⟨rfl, hb⟩
    replace H := Lib.hid (H.out.below hb); clear hb
    go_wp2_with fail
    refine (HO1.out _ _ _ H.out).mono ?_
    rintro r w5 ⟨rfl, hb⟩
    replace H := Lib.hid (H.out.below hb); clear hb
    go_wp2_with fail
    refine (HV.out.1 _ _ _ H.out).mono ?_
    rintro r w6 ⟨rfl, hb⟩
    replace H := Lib.hid (H.out.below hb); clear hb
    go_wp2_with fail
    refine (HO2.out _ _ _ H.out).mono ?_
    rintro r w7 ⟨rfl, hb⟩
    replace H := Lib.hid (H.out.below hb); clear hb
    go_wp2_with fail
    refine (HV.out.2 _ _ _ H.out).mono ?_
    rintro r w8 ⟨rfl, hb⟩
    replace H := Lib.hid (H.out.below hb); clear hb
    go_wp2_with fail
    refine (H.out.awake).mono ?_
    rintro r w9 ⟨rfl, hb⟩
    go_wp2_with fail
    go_ret
    exact ⟨rfl, hb⟩

set_option maxRecDepth 100000 in
theorem pledgeShuts_contract {H : Type} (enc : TypeId × Value → H) (W : World) (base : Nat) (args : Array Value) (ds gs : List (DataW H)) (before : List MemPlace)
    (hval : ∀ (j : Nat) t v, Tryd.f5.params[j]? = some t → args[j]? = some v → Value.okWide Tryd.prog W .any base t v)
    (hW : DataW.Whole enc Tryd.prog Tryd.f5.params.toList Rows.pledgeShutsSpec.vars false W args.toList ds gs before)
    (hsz : (DataW.weightsEach Tryd.prog (Tryd.f5.params.toList ++ Rows.pledgeShutsSpec.plain.varTypes Tryd.prog) (ds ++ gs)).all (· ≤ reachBytes) = true) (hT : Tabs W) :
    Calls Tryd.prog 5 args W fun e W' =>
      ((Rows.pledgeShutsSpec.fn H (ds ++ gs)).results = [.lit (.bool true)] ∧ (Rows.pledgeShutsSpec.fn H (ds ++ gs)).args = ds ∧ (Rows.pledgeShutsSpec.fn H (ds ++ gs)).vars = []) ∧ e = .returned (.bool true) ∧ Below W.heap.size W W' := by
  obtain ⟨p, q, hA0, hV, rfl, hfz, hnd⟩ := hW
  have hA : DataW.TrodAll enc Tryd.prog W 0 (fun _ => true) true Tryd.f5.params.toList args.toList ds p := hA0
  rw [Tryd.params5] at hA hval hsz
  obtain ⟨v0, v1, v2, v3, d0, d1, d2, d3, p0, p1, p2, p3, rfl, rfl, rfl, h0, h1, h2, h3⟩ := trodAll_four hA
  obtain ⟨rfl, rfl⟩ := trodVars_none hV
  obtain ⟨key, rfl, rfl, rfl, max_key⟩ := open_string Tryd.underlying9 (hval 0 9 v0 rfl rfl) h0
  have len_key : key.data.toList.length ≤ reachBytes := sized_string hsz (j := 0) (t := 9) rfl rfl
  obtain ⟨name, rfl, rfl, rfl, max_name⟩ := open_string Tryd.underlying9 (hval 1 9 v1 rfl rfl) h1
  have len_name : name.data.toList.length ≤ reachBytes := sized_string hsz (j := 1) (t := 9) rfl rfl
  obtain ⟨value, rfl, rfl, rfl, max_value⟩ := open_string Tryd.underlying9 (hval 2 9 v2 rfl rfl) h2
  have len_value : value.data.toList.length ≤ reachBytes := sized_string hsz (j := 2) (t := 9) rfl rfl
  obtain ⟨cipher, rfl, rfl, rfl, max_cipher⟩ := open_string Tryd.underlying9 (hval 3 9 v3 rfl rfl) h3
  have len_cipher : cipher.data.toList.length ≤ reachBytes := sized_string hsz (j := 3) (t := 9) rfl rfl
  rw [← S_of key]
  rw [← S_of name]
  rw [← S_of value]
  rw [← S_of cipher]
  exact (pledgeShuts_any key.data.toList name.data.toList value.data.toList cipher.data.toList W hT).mono fun e W' h => ⟨⟨rfl, rfl, rfl⟩, h⟩

end Go.Proofs.YtlbdpadifhgloaaDoor
