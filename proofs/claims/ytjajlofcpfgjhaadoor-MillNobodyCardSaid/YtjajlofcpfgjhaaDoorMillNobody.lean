/-
  The contract of MillNobody.
-/
import Derived.Test.YtjajlofcpfgjhaaDoorMillAwake
import Derived.Test.YtjajlofcpfgjhaaDoorMillNone
namespace Go.Proofs.YtjajlofcpfgjhaaDoor
open Go.ChangeShapes Go.WideShapes Go.ChangeAt Go.RowKit
open Go.ChangeMaps (open_string shut_string)
set_option linter.unusedVariables false

set_option maxHeartbeats 2000000 in
theorem veil_nil (k l s : ByteArray) (w : World) : Calls Tryd.prog 23 #[.pointer none, .string k, .string l, .string s] w fun e w' => e = .returned (.string (S [])) ∧ Below w.heap.size w w' := by
  have hcv := conv_bytes (P := Tryd.prog) Tryd.underlying9 Tryd.underlying41 Tryd.underlying5 w []
  have hcb := conv_bytes_text (P := Tryd.prog) Tryd.underlying41 Tryd.underlying5 Tryd.underlying9 (Bytes.nil (bworld w 5 []) w.heap.size (some ⟨w.heap.size, 0, none⟩)) (bcap w 5 [])
  have hbw := bworld_below w 5 []
  simp only [List.length_nil] at hcv hcb
  generalize bworld w 5 [] = W at hcv hcb hbw
  have HB := Lib.hid hbw; clear hbw
  go_enter Tryd.func23, Tryd.ntmps23
  go_wp2_with fail
  refine (stream_nil _ _ _ _).mono ?_
  rintro r1 w1 ⟨rfl, rfl⟩
  go_wp2_with fail
  refine wp_loop_rounds 1 ?_
  rw [rounds_succ]
  go_wp2_with fail
  go_ret
  exact ⟨rfl, HB.out⟩

set_option maxRecDepth 100000 in
set_option maxHeartbeats 4000000 in
theorem millNobody_any (s : ByteArray) (n : Int) (w : World) (hT : Tabs w) :
    Calls Tryd.prog 8 #[.string s, .int .i64 n] w fun e w' => e = .returned (.bool true) ∧ Below w.heap.size w w' := by
  have hzv := zeroMill
  have h2 := hT.2.2
  have HT := Lib.hid hT; clear hT
  go_enter Tryd.func8, Tryd.ntmps8
  go_upto_region 3 with (fail)
  clear hzv
  generalize hW : World.alloc w _ = W
  have hb : Below w.heap.size w W := by rw [← hW]; exact (Below.refl _ _).alloc (Nat.le_refl _) _
  have c8 : W.cell? ⟨w.heap.size, 8, none⟩ = some (.bool false) := by rw [← hW]; exact (Has.made w _ _).cell 8
  have hlt : w.heap.size < W.heap.size := World.block_lt_of_cell? W _ c8
  clear hW
  go_wp2_with fail
  refine (twins_nil _).mono ?_
  rintro r1 w1 ⟨rfl, rfl⟩
  go_wp2_with fail
  refine (millSum_nil _ _).mono ?_
  rintro r1 w1 ⟨rfl, rfl⟩
  go_wp2_with fail
  refine (millSum_zero _ _ _ c8).mono ?_
  rintro r1 w1 ⟨rfl, rfl⟩
  go_wp2_with fail
  refine (millTag_nil _ _ _).mono ?_
  rintro r1 w1 ⟨rfl, rfl⟩
  go_wp2_with fail
  refine (stream_zero _ _ _ _ _ c8).mono ?_
  rintro r1 w1 ⟨rfl, rfl⟩
  go_wp2_with fail
  refine (veil_nil _ _ _ _).mono ?_
  rintro r1 w1 ⟨rfl, hb1⟩
  have c8 := (hb1.cell (p := ⟨w.heap.size, 8, none⟩) hlt).trans c8
  replace hb := hb.trans (hb1.mono hb.size)
  clear hb1 hlt
  go_wp2_with fail
  refine (full_zero _ _ c8).mono ?_
  rintro r1 w2 ⟨rfl, rfl⟩
  go_wp2_with fail
  refine (sums_nil _).mono ?_
  rintro r1 w2 ⟨rfl, rfl⟩
  go_wp2_with fail
  refine (sums_zero _ _ c8).mono ?_
  rintro r1 w2 ⟨rfl, rfl⟩
  go_wp2_with fail
  refine (newMill_any _).mono ?_
  rintro r1 w3 ⟨rfl, _, hb3, _, hh3⟩
  replace hb := hb.trans (hb3.mono hb.size)
  clear hb3
  go_wp2_with fail
  refine (stream_none _ _ _ _ (by decide) _ (hh3.cell 8)).mono ?_
  rintro r1 w4 ⟨rfl, rfl⟩
  go_wp2_with fail
  refine (awakeMill_any _ (HT.out.below hb h2)).mono ?_
  rintro r1 w5 ⟨rfl, hb5⟩
  go_wp2_with fail
  go_ret
  exact ⟨rfl, hb.trans (hb5.mono hb.size)⟩

set_option maxRecDepth 100000 in
theorem millNobody_contract {H : Type} (enc : TypeId × Value → H) (W : World) (base : Nat) (args : Array Value) (ds gs : List (DataW H)) (before : List MemPlace)
    (hval : ∀ (j : Nat) t v, Tryd.f8.params[j]? = some t → args[j]? = some v → Value.okWide Tryd.prog W .any base t v)
    (hW : DataW.Whole enc Tryd.prog Tryd.f8.params.toList Rows.millNobodySpec.vars false W args.toList ds gs before)
    (hsz : (DataW.weightsEach Tryd.prog (Tryd.f8.params.toList ++ Rows.millNobodySpec.plain.varTypes Tryd.prog) (ds ++ gs)).all (· ≤ reachBytes) = true) (hT : Tabs W) :
    Calls Tryd.prog 8 args W fun e W' =>
      ((Rows.millNobodySpec.fn H (ds ++ gs)).results = [.lit (.bool true)] ∧ (Rows.millNobodySpec.fn H (ds ++ gs)).args = ds ∧ (Rows.millNobodySpec.fn H (ds ++ gs)).vars = []) ∧ e = .returned (.bool true) ∧ Below W.heap.size W W' := by
  obtain ⟨p, q, hA0, hV, rfl, hfz, hnd⟩ := hW
  have hA : DataW.TrodAll enc Tryd.prog W 0 (fun _ => true) true Tryd.f8.params.toList args.toList ds p := hA0
  rw [Tryd.params8] at hA hval hsz
  obtain ⟨v0, v1, d0, d1, p0, p1, rfl, rfl, rfl, h0, h1⟩ := trodAll_two hA
  obtain ⟨rfl, rfl⟩ := trodVars_none hV
  obtain ⟨s, rfl, rfl, rfl, max_s⟩ := open_string Tryd.underlying9 (hval 0 9 v0 rfl rfl) h0
  have len_s : s.data.toList.length ≤ reachBytes := sized_string hsz (j := 0) (t := 9) rfl rfl
  obtain ⟨n, rfl, rfl, rfl, bd_n⟩ := open_int Tryd.underlying3 (hval 1 3 v1 rfl rfl) h1
  rw [← S_of s]
  exact (millNobody_any _ n W hT).mono fun e W' h => ⟨⟨rfl, rfl, rfl⟩, h⟩
end Go.Proofs.YtjajlofcpfgjhaaDoor
