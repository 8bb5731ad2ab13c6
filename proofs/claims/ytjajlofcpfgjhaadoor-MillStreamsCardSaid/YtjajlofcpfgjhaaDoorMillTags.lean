/-
  The contract of MillTags.
-/
import Derived.Test.YtjajlofcpfgjhaaDoorMillWith
import Derived.Test.YtjajlofcpfgjhaaDoorMillTagLaw
import Derived.Test.YtjajlofcpfgjhaaDoorMillAwake
import Derived.Test.YtjajlofcpfgjhaaDoorMillEnts
namespace Go.Proofs.YtjajlofcpfgjhaaDoor
open Go.ChangeShapes Go.WideShapes Go.ChangeAt Go.RowKit
open Go.ChangeMaps (open_string shut_string)
set_option linter.unusedVariables false

set_option maxRecDepth 100000 in
set_option maxHeartbeats 4000000 in
theorem millTags_any (A : Option Addr) (l : List Mill.En) (cap : Nat) (k s : List UInt8) (hlc : l.length ≤ cap) (hcm : cap ≤ maxLen) (hfit : Mill.fit l) (hk : k.length ≤ 1000000000000000) (hs : s.length ≤ 1000000000000000) (w : World) (hE : Ents w A l) (hT : Tabs w) :
    Calls Tryd.prog 5 #[.slice A l.length cap, .string (S k), .string (S s)] w fun e w' => e = .returned (.bool true) ∧ Below w.heap.size w w' := by
  have HF := Lib.hid (few_any A l cap hlc hcm w)
  have hE10 := hE.take 10
  have hl10 : (l.take 10).length ≤ 10 := by rw [List.length_take]; omega
  have hfit10 : Mill.fit (l.take 10) := fun e he => hfit e (List.mem_of_mem_take he)
  clear hE hfit hlc
  generalize l.take 10 = m at HF hE10 hl10 hfit10
  have HW := Lib.hid (with_any A m cap (by omega) hfit10 w hE10 hT)
  have HR : Hid (∀ W, Below w.heap.size w W → Calls Tryd.prog 14 #[.slice A m.length cap] W (SamePost W (.bool (Mill.right m)))) := fun W hb => right_any A m cap (by omega) W (hE10.below hb)
  have HG : Hid (∀ W, Below w.heap.size w W → Calls Tryd.prog 22 #[.slice A m.length cap, .string (S k), .string (S s)] W (TextPost W (Mill.tag m k s))) := fun W hb => lawTag_any A m cap k s (by omega) hfit10 hk (by omega) W (hE10.below hb) (hT.below hb hT.2.2)
  have HM : Hid (∀ W, MillAt W (w.heap.size + 1) w.heap.size m Mill.fresh → Below w.heap.size w W → Calls Tryd.prog 21 #[.pointer (some ⟨w.heap.size + 1, 0, none⟩), .string (S k), .string (S s)] W (TextPost W (Mill.tag m k s))) := fun W h hb => millTag_any k s _ _ _ _ W h (by omega) (by omega) (hT.below hb hT.2.2)
  have HT := Lib.hid hT; clear hT
  generalize Mill.tag m k s = res at HG HM
  clear hE10 hfit10 hcm hk hs
  go_enter Tryd.func5, Tryd.ntmps5
  go_wp2_with fail
  refine HF.out.mono ?_
  rintro r1 w1 ⟨rfl, rfl⟩
  go_wp2_with fail
  refine HW.out.mono ?_
  rintro r2 w2 ⟨hb2, ⟨hr, rfl, hm2⟩ | ⟨hr, rfl⟩⟩
  · go_wp2_with fail
    refine (twins_any _ _ _ _ w2 hm2).mono ?_
    rintro r3 w3 ⟨rfl, hb3⟩
    have hm3 := hm2.below hb3
    have hb03 := hb2.trans (hb3.mono hb2.size)
    clear hm2 hb2 hb3
    go_wp2_with fail
    refine (HM.out w3 hm3 hb03).mono ?_
    rintro r4 w4 ⟨rfl, hb4⟩
    have hm4 := hm3.below hb4
    have hb04 := hb03.trans (hb4.mono hb03.size)
    clear hm3 hb03 hb4
    go_wp2_with fail
    refine (HG.out w4 hb04).mono ?_
    rintro r5 w5 ⟨rfl, hb5⟩
    have hm5 := hm4.below hb5
    have hb05 := hb04.trans (hb5.mono hb04.size)
    clear hm4 hb04 hb5
    go_wp2_with fail
    refine (sums_any _ _ _ _ w5 hm5).mono ?_
    rintro r6 w6 ⟨rfl, rfl⟩
    go_wp2_with fail
    refine (awakeMill_any _ (HT.out.below hb05 HT.out.2.2)).mono ?_
    rintro r7 w7 ⟨rfl, hb7⟩
    go_wp2_with fail
    go_ret
    exact ⟨rfl, hb05.trans (hb7.mono hb05.size)⟩
  · rw [hr] at HR
    go_wp2_with fail
    refine (HR.out w2 hb2).mono ?_
    rintro r3 w3 ⟨rfl, rfl⟩
    go_wp2_with fail
    refine (awakeMill_any _ (HT.out.below hb2 HT.out.2.2)).mono ?_
    rintro r7 w7 ⟨rfl, hb7⟩
    go_wp2_with fail
    go_ret
    exact ⟨rfl, hb2.trans (hb7.mono hb2.size)⟩

theorem reach_le : reachBytes ≤ 1000000000000000 := by decide
set_option maxRecDepth 100000 in
theorem millTags_contract {H : Type} (enc : TypeId × Value → H) (W : World) (base : Nat) (args : Array Value) (ds gs : List (DataW H)) (before : List MemPlace)
    (hval : ∀ (j : Nat) t v, Tryd.f5.params[j]? = some t → args[j]? = some v → Value.okWide Tryd.prog W .any base t v)
    (hW : DataW.Whole enc Tryd.prog Tryd.f5.params.toList Rows.millTagsSpec.vars false W args.toList ds gs before)
    (hsz : (DataW.weightsEach Tryd.prog (Tryd.f5.params.toList ++ Rows.millTagsSpec.plain.varTypes Tryd.prog) (ds ++ gs)).all (· ≤ reachBytes) = true) (hT : Tabs W) :
    Calls Tryd.prog 5 args W fun e W' =>
      ((Rows.millTagsSpec.fn H (ds ++ gs)).results = [.lit (.bool true)] ∧ (Rows.millTagsSpec.fn H (ds ++ gs)).args = ds ∧ (Rows.millTagsSpec.fn H (ds ++ gs)).vars = []) ∧ e = .returned (.bool true) ∧ Below W.heap.size W W' := by
  obtain ⟨p, q, hA0, hV, rfl, hfz, hnd⟩ := hW
  have hA : DataW.TrodAll enc Tryd.prog W 0 (fun _ => true) true Tryd.f5.params.toList args.toList ds p := hA0
  rw [Tryd.params5] at hA hval hsz
  obtain ⟨v0, v1, v2, d0, d1, d2, p0, p1, p2, rfl, rfl, rfl, h0, h1, h2⟩ := trodAll_three hA
  obtain ⟨rfl, rfl⟩ := trodVars_none hV
  obtain ⟨A, len, cap, rfl⟩ := okWide_slice Tryd.underlying25 (hval 0 25 v0 rfl rfl)
  obtain ⟨k, rfl, rfl, rfl, max_k⟩ := open_string Tryd.underlying9 (hval 1 9 v1 rfl rfl) h1
  obtain ⟨s, rfl, rfl, rfl, max_s⟩ := open_string Tryd.underlying9 (hval 2 9 v2 rfl rfl) h2
  have len_k : k.data.toList.length ≤ reachBytes := sized_string hsz (j := 1) (t := 9) rfl rfl
  have len_s : s.data.toList.length ≤ reachBytes := sized_string hsz (j := 2) (t := 9) rfl rfl
  obtain ⟨fuel, hf⟩ := h0
  obtain ⟨l, rfl, hE, hfit, hlc, hcm⟩ := ents_open hf (fun n hn => by
    have h := List.all_eq_true.1 hsz n (DataW.weights_mem_each (j := 0) (t := 25) (d := d0) rfl rfl n hn)
    exact Nat.le_trans (by simpa using h) reach_le)
  rw [← S_of k, ← S_of s]
  exact (millTags_any A l cap _ _ hlc hcm hfit (Nat.le_trans len_k reach_le) (Nat.le_trans len_s reach_le) W hE hT).mono fun e W' h => ⟨⟨rfl, rfl, rfl⟩, h⟩
end Go.Proofs.YtjajlofcpfgjhaaDoor
