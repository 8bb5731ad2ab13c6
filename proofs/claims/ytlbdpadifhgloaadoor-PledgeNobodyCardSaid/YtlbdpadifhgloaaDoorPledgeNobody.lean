/-
  The contract of PledgeNobody.
-/
import Derived.Test.YtlbdpadifhgloaaDoorOneM
import Derived.Test.YtlbdpadifhgloaaDoorMillVeilNil
import Derived.Test.YtlbdpadifhgloaaDoorLaw
import Derived.Test.YtlbdpadifhgloaaDoorRows
namespace Go.Proofs.YtlbdpadifhgloaaDoor
open Go.ChangeShapes Go.WideShapes Go.ChangeAt Go.RowKit
open Go.ChangeMaps (open_string shut_string)
set_option linter.unusedVariables false

set_option maxHeartbeats 2000000 in
theorem plgOf_nil (id name salt value : List UInt8) (w : World) (h1 : id.length ≤ 1000000) (h2 : name.length ≤ 1000000) (h3 : salt.length ≤ 1000000) (h4 : value.length ≤ 1000000) :
    Calls Tryd.prog 12 #[.pointer none, .string (S id), .string (S name), .string (S salt), .string (S value)] w (TextPost w []) := by
  have l1 := Plg.txt_len id; have l2 := Plg.txt_len name; have l3 := Plg.txt_len salt; have l4 := Plg.txt_len value
  have x1 := fun W => text_any id W (by omega)
  have x2 := fun W => text_any name W (by omega)
  have x3 := fun W => text_any salt W (by omega)
  have x4 := fun W => text_any value W (by omega)
  generalize Plg.txt id = a at l1 x1
  generalize Plg.txt name = b at l2 x2
  generalize Plg.txt salt = c at l3 x3
  generalize Plg.txt value = d at l4 x4
  obtain ⟨u1, e1⟩ : ∃ u, 2 :: a = u := ⟨_, rfl⟩
  obtain ⟨u2, e2⟩ : ∃ u, u1 ++ b = u := ⟨_, rfl⟩
  obtain ⟨u3, e3⟩ : ∃ u, u2 ++ c = u := ⟨_, rfl⟩
  obtain ⟨u4, e4⟩ : ∃ u, u3 ++ d = u := ⟨_, rfl⟩
  have m1 : u1.length ≤ 1000020 := by rw [← e1, List.length_cons]; omega
  have m2 : u2.length ≤ 2000040 := by rw [← e2, List.length_append]; omega
  have m3 : u3.length ≤ 3000060 := by rw [← e3, List.length_append]; omega
  have q1 : ¬ 9223372036854775807 < 1 + a.length := by omega
  have q2 : ¬ 9223372036854775807 < u1.length + b.length := by omega
  have q3 : ¬ 9223372036854775807 < u2.length + c.length := by omega
  have q4 : ¬ 9223372036854775807 < u3.length + d.length := by omega
  clear m1 m2 m3 l1 l2 l3 l4 h1 h2 h3 h4
  have HX := Lib.hid (And.intro x1 (And.intro x2 (And.intro x3 x4))); clear x1 x2 x3 x4
  have h2c : (⟨#[2]⟩ : ByteArray) = S [2] := rfl
  go_enter Tryd.func12, Tryd.ntmps12
  go_wp2_with fail
  refine (HX.out.1 _).mono ?_
  rintro e w1 ⟨rfl, hb1⟩
  go_wp2_with fail
  refine (HX.out.2.1 _).mono ?_
  rintro e w2 ⟨rfl, hb2⟩
  go_wp2_with fail
  refine (HX.out.2.2.1 _).mono ?_
  rintro e w3 ⟨rfl, hb3⟩
  go_wp2_with fail
  refine (HX.out.2.2.2 _).mono ?_
  rintro e w4 ⟨rfl, hb4⟩
  have hb := hb1.trans ((hb2.trans ((hb3.trans (hb4.mono hb3.size)).mono hb2.size)).mono hb1.size)
  clear hb1 hb2 hb3 hb4
  go_wp2_with fail
  refine (millSum_nil _ _).mono ?_
  rintro e w5 ⟨rfl, rfl⟩
  go_wp2_with fail
  go_ret
  exact ⟨rfl, hb⟩


set_option maxHeartbeats 1000000 in
theorem plgLeaf_nil (s : List UInt8) (hs : s.length ≤ 1000000) (w : World) : Calls Tryd.prog 15 #[.pointer none, .string (S s)] w (SamePost w (.string (S []))) := by
  go_enter Tryd.func15, Tryd.ntmps15
  go_wp2_with fail
  refine (millSum_nil _ _).mono ?_
  rintro e w5 ⟨rfl, rfl⟩
  go_wp2_with fail
  go_ret
  exact ⟨rfl, rfl⟩
set_option maxHeartbeats 1000000 in
theorem plgNode_nil (a b : List UInt8) (w : World) (h1 : a.length ≤ 1000000) (h2 : b.length ≤ 1000000) : Calls Tryd.prog 16 #[.pointer none, .string (S a), .string (S b)] w (SamePost w (.string (S []))) := by
  go_enter Tryd.func16, Tryd.ntmps16
  go_wp2_with fail
  refine (millSum_nil _ _).mono ?_
  rintro e w5 ⟨rfl, rfl⟩
  go_wp2_with fail
  go_ret
  exact ⟨rfl, rfl⟩
theorem plgNone_nil (w : World) : Calls Tryd.prog 17 #[.pointer none] w (SamePost w (.string (S []))) := by
  go_enter Tryd.func17, Tryd.ntmps17
  go_wp2_with fail
  refine (millSum_nil _ _).mono ?_
  rintro e w5 ⟨rfl, rfl⟩
  go_wp2_with fail
  go_ret
  exact ⟨rfl, rfl⟩
theorem plgKey_nil (s : List UInt8) (w : World) : Calls Tryd.prog 21 #[.pointer none, .string (S s)] w (SamePost w (.string (S []))) := by
  go_enter Tryd.func21, Tryd.ntmps21
  go_wp2_with fail
  refine (millTag_nil _ _ _).mono ?_
  rintro e w5 ⟨rfl, rfl⟩
  go_wp2_with fail
  go_ret
  exact ⟨rfl, rfl⟩
set_option maxHeartbeats 1000000 in
theorem plgSalt_nil (s n : List UInt8) (hn : n.length ≤ 1000000) (w : World) : Calls Tryd.prog 22 #[.pointer none, .string (S s), .string (S n)] w (TextPost w []) := by
  have hL := Plg.txt_len n
  have HX := Lib.hid (text_any n w (by omega))
  generalize Plg.txt n = t at hL HX
  go_enter Tryd.func22, Tryd.ntmps22
  go_wp2_with fail
  refine (HX.out).mono ?_
  rintro e w1 ⟨rfl, hb1⟩
  go_wp2_with fail
  refine (millTag_nil _ _ _).mono ?_
  rintro e w5 ⟨rfl, rfl⟩
  go_wp2_with fail
  go_ret
  exact ⟨rfl, hb1⟩
set_option maxHeartbeats 1000000 in
theorem plgShut_nil (k n s v : List UInt8) (hn : n.length ≤ 1000000) (hs : s.length ≤ 1000000) (hv : v.length ≤ 1000000) (w : World) : Calls Tryd.prog 23 #[.pointer none, .string (S k), .string (S n), .string (S s), .string (S v)] w (TextPost w []) := by
  have HX := Lib.hid (plgLabel_any w n (by omega))
  generalize Plg.label n = t at HX
  go_enter Tryd.func23, Tryd.ntmps23
  go_wp2_with fail
  refine (HX.out).mono ?_
  rintro e w1 ⟨rfl, hb1⟩
  go_wp2_with fail
  refine (veil_nil _ _ _ _).mono ?_
  rintro e w5 ⟨rfl, hb5⟩
  go_wp2_with fail
  go_ret
  exact ⟨rfl, hb1.trans (hb5.mono hb1.size)⟩
set_option maxHeartbeats 1000000 in
theorem plgOpen_nil (k n c : List UInt8) (hn : n.length ≤ 1000000) (w : World) : Calls Tryd.prog 24 #[.pointer none, .string (S k), .string (S n), .string (S c)] w (OpenPost w ([], [], false)) := by
  have HX := Lib.hid (plgLabel_any w n (by omega))
  generalize Plg.label n = t at HX
  go_enter Tryd.func24, Tryd.ntmps24
  go_wp2_with fail
  refine (HX.out).mono ?_
  rintro e w1 ⟨rfl, hb1⟩
  go_wp2_with fail
  refine (veil_nil _ _ _ _).mono ?_
  rintro e w5 ⟨rfl, hb5⟩
  go_wp2_with fail
  go_ret3
  exact ⟨rfl, hb1.trans (hb5.mono hb1.size)⟩
set_option maxHeartbeats 2000000 in
theorem plgSlip_nil (d i n v : List UInt8) (hi : i.length ≤ 1000000) (hn : n.length ≤ 1000000) (hv : v.length ≤ 1000000) (w : World) : Calls Tryd.prog 26 #[.pointer none, .string (S d), .string (S i), .string (S n), .string (S v)] w fun e w' =>
      e = .returned (.agg #[.string (S n), .string (S []), .string (S []), .bool false]) ∧ Below w.heap.size w w' := by
  have hb0 : Below w.heap.size w (w.alloc (.cells #[.string ⟨#[]⟩, .string ⟨#[]⟩, .string ⟨#[]⟩, .bool false] 38)) := (Below.refl _ w).alloc (Nat.le_refl _) _
  have hH0 := Has.made w 38 #[.string ⟨#[]⟩, .string ⟨#[]⟩, .string ⟨#[]⟩, .bool false]
  have HS := Lib.hid (fun W => plgSalt_nil d n hn W)
  have HO := Lib.hid (fun W => plgOf_nil i n [] v W hi hn (Nat.zero_le _) hv)
  have HV := Lib.hid (fun W => plgShut_nil [] n [] v hn (Nat.zero_le _) hv W)
  have H := Lib.hid (And.intro hH0 hb0); clear hH0 hb0
  go_enter Tryd.func26, Tryd.ntmps26
  go_wp2_with fail
  generalize w.alloc (.cells #[.string ⟨#[]⟩, .string ⟨#[]⟩, .string ⟨#[]⟩, .bool false] 38) = W0 at H ⊢
  refine (HS.out _).mono ?_
  rintro e w1 ⟨rfl, hb⟩
  replace H := Lib.hid (And.intro (H.out.1.below hb H.out.1.lt) (H.out.2.trans (hb.mono H.out.2.size))); clear hb
  go_wp2_with fail
  refine (HO.out _).mono ?_
  rintro e w2 ⟨rfl, hb⟩
  replace H := Lib.hid (And.intro (H.out.1.below hb H.out.1.lt) (H.out.2.trans (hb.mono H.out.2.size))); clear hb
  go_wp2_with fail
  refine (plgKey_nil _ _).mono ?_
  rintro e w3 ⟨rfl, rfl⟩
  go_wp2_with fail
  refine (HV.out _).mono ?_
  rintro e w4 ⟨rfl, hb⟩
  replace H := Lib.hid (And.intro (H.out.1.below hb H.out.1.lt) (H.out.2.trans (hb.mono H.out.2.size))); clear hb
  have hgw := H.out.1.lt
  have c0 := H.out.1.cell 0; have c1 := H.out.1.cell 1; have c2 := H.out.1.cell 2; have c3 := H.out.1.cell 3
  have f0 := H.out.1.free 0; have f1 := H.out.1.free 1; have f2 := H.out.1.free 2; have f3 := H.out.1.free 3
  go_wp2_with fail
  have hHf : Has ((((w4.setCell ⟨w.heap.size, 0, none⟩ (.string (S n))).setCell ⟨w.heap.size, 1, none⟩ (.string (S []))).setCell ⟨w.heap.size, 2, none⟩ (.string (S []))).setCell ⟨w.heap.size, 3, none⟩ (.bool false)) w.heap.size 38 #[.string (S n), .string (S []), .string (S []), .bool false] := by
    have := (((H.out.1.set 0 (.string (S n))).set 1 (.string (S []))).set 2 (.string (S []))).set 3 (.bool false)
    simpa using this
  have hof := (((Only.set w4 w.heap.size 0 (.string (S n))).trans (Only.set _ w.heap.size 1 (.string (S [])))).trans (Only.set _ w.heap.size 2 (.string (S [])))).trans (Only.set _ w.heap.size 3 (.bool false))
  exact ret_slip (p := 10) rfl w.heap.size _ rfl rfl hHf rfl ⟨rfl, hof.below H.out.2 (by omega) (Nat.le_refl _)⟩

set_option maxHeartbeats 4000000 in
set_option maxRecDepth 100000 in
theorem pledgeNobody_any (s0 : List UInt8) (w : World) (hT : Tabs w) :
    Calls Tryd.prog 9 #[.string (S s0)] w fun e w' => e = .returned (.bool true) ∧ Below w.heap.size w w' := by
  have hC1 := fun W => plgCut_any s0 W
  have h1 := take300 s0
  generalize s0.take 300 = s at hC1 h1
  have HC := Lib.hid hC1; clear hC1
  have HOP := Lib.hid (fun W => plgOpen_nil s s s (by omega) W)
  have HOF := Lib.hid (fun W => plgOf_nil s s s s W (by omega) (by omega) (by omega) (by omega))
  have HND := Lib.hid (fun W => plgNode_nil s s W (by omega) (by omega))
  have HLF := Lib.hid (fun W => plgLeaf_nil s (by omega) W)
  have HSA := Lib.hid (fun W => plgSalt_nil s s (by omega) W)
  have HSH := Lib.hid (fun W => plgShut_nil s s s s (by omega) (by omega) (by omega) W)
  have HSL := Lib.hid (fun W => plgSlip_nil s s s s (by omega) (by omega) (by omega) W)
  have HT := Lib.hid hT; clear hT h1
  go_enter Tryd.func9, Tryd.ntmps9
  go_wp2_with fail
  refine (HC.out _).mono ?_
  rintro r w3 ⟨rfl, rfl⟩
  go_wp2_with fail
  refine (HOP.out _).mono ?_
  rintro r w1 ⟨rfl, hb⟩
  go_wp2_with fail
  refine (HOF.out _).mono ?_
  rintro r w2 ⟨rfl, hb'⟩
  replace hb := hb.trans (hb'.mono hb.size); clear hb'
  go_wp2_with fail
  refine (HLF.out _).mono ?_
  rintro r w3 ⟨rfl, rfl⟩
  go_wp2_with fail
  refine (HND.out _).mono ?_
  rintro r w4 ⟨rfl, rfl⟩
  go_wp2_with fail
  refine (plgNone_nil _).mono ?_
  rintro r w5 ⟨rfl, rfl⟩
  go_wp2_with fail
  refine (plgKey_nil _ _).mono ?_
  rintro r w6 ⟨rfl, rfl⟩
  go_wp2_with fail
  refine (HSA.out _).mono ?_
  rintro r w7 ⟨rfl, hb'⟩
  replace hb := hb.trans (hb'.mono hb.size); clear hb'
  go_wp2_with fail
  refine (HSH.out _).mono ?_
  rintro r w8 ⟨rfl, hb'⟩
  replace hb := hb.trans (hb'.mono hb.size); clear hb'
  go_wp2_with fail
  refine (HSL.out _).mono ?_
  rintro r w9 ⟨rfl, hb'⟩
  replace hb := hb.trans (hb'.mono hb.size); clear hb'
  have hE : ∀ W, (binOp .eql 38 (.agg #[.string (S s), .string (S []), .string (S []), .bool false]) (.agg #[.string (S s), .string ⟨#[]⟩, .string ⟨#[]⟩, .bool false])).run Tryd.prog W = .ok (.bool true) W := fun W => run_slsame s [] [] false W
  have hG2 : ∀ op o1 o2 W, (eqGuard op 38 o1 o2 (.agg #[.string (S s), .string (S []), .string (S []), .bool false]) (.agg #[.string (S s), .string ⟨#[]⟩, .string ⟨#[]⟩, .bool false])).run Tryd.prog W = .ok () W := fun op o1 o2 W => run_slguard op o1 o2 _ _ W
  go_wp2_with fail
  refine (awakePlg_any _ (HT.out.below hb HT.out.2.2)).mono ?_
  rintro r w10 ⟨rfl, hb'⟩
  replace hb := hb.trans (hb'.mono hb.size); clear hb'
  go_wp2_with fail
  go_ret
  exact ⟨rfl, hb⟩

set_option maxRecDepth 100000 in
theorem pledgeNobody_contract {H : Type} (enc : TypeId × Value → H) (W : World) (base : Nat) (args : Array Value) (ds gs : List (DataW H)) (before : List MemPlace)
    (hval : ∀ (j : Nat) t v, Tryd.f9.params[j]? = some t → args[j]? = some v → Value.okWide Tryd.prog W .any base t v)
    (hW : DataW.Whole enc Tryd.prog Tryd.f9.params.toList Rows.pledgeNobodySpec.vars false W args.toList ds gs before)
    (hsz : (DataW.weightsEach Tryd.prog (Tryd.f9.params.toList ++ Rows.pledgeNobodySpec.plain.varTypes Tryd.prog) (ds ++ gs)).all (· ≤ reachBytes) = true) (hT : Tabs W) :
    Calls Tryd.prog 9 args W fun e W' =>
      ((Rows.pledgeNobodySpec.fn H (ds ++ gs)).results = [.lit (.bool true)] ∧ (Rows.pledgeNobodySpec.fn H (ds ++ gs)).args = ds ∧ (Rows.pledgeNobodySpec.fn H (ds ++ gs)).vars = []) ∧ e = .returned (.bool true) ∧ Below W.heap.size W W' := by
  obtain ⟨p, q, hA0, hV, rfl, hfz, hnd⟩ := hW
  have hA : DataW.TrodAll enc Tryd.prog W 0 (fun _ => true) true Tryd.f9.params.toList args.toList ds p := hA0
  rw [Tryd.params9] at hA hval hsz
  obtain ⟨v0, d0, rfl, rfl, h0⟩ := trodAll_one hA
  obtain ⟨rfl, rfl⟩ := trodVars_none hV
  obtain ⟨s, rfl, rfl, rfl, max_s⟩ := open_string Tryd.underlying9 (hval 0 9 v0 rfl rfl) h0
  have len_s : s.data.toList.length ≤ reachBytes := sized_string hsz (j := 0) (t := 9) rfl rfl
  rw [← S_of s]
  exact (pledgeNobody_any s.data.toList W hT).mono fun e W' h => ⟨⟨rfl, rfl, rfl⟩, h⟩

end Go.Proofs.YtlbdpadifhgloaaDoor
