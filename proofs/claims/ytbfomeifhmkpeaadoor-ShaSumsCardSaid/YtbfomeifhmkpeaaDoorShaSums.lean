/-
  The contract of ShaSums.
-/
import Derived.Test.YtbfomeifhmkpeaaDoorRefSum
import Derived.Test.YtbfomeifhmkpeaaDoorShaAwake
namespace Go.Proofs.YtbfomeifhmkpeaaDoor
open Go.ChangeShapes Go.WideShapes Go.ChangeAt Go.RowKit
open Go.ChangeMaps (open_string shut_string)
set_option linter.unusedVariables false

theorem shaSums_cut (s0 s : List UInt8) (hs : s = s0.take 300) (w : World) (hT : Tabs w) (hb : (300 : Int) < (s0.length : Int) ∧ (300 : Int) ≤ (s0.length : Int) ∨ (¬ (300 : Int) < (s0.length : Int) ∧ s0 = s)) :
    Calls Tryd.prog 3 #[.string (S s0)] w fun e w' => e = .returned (.bool true) ∧ Below w.heap.size w w' := by
  have hsl : s.length ≤ 300 := by rw [hs, List.length_take]; omega
  have h1 := sum_any s w (by omega) hT
  have h2 := fun W => refSum_any s hsl W
  generalize Sha.sum s = out at h1 h2
  have H1 := Lib.hid h1
  have H2 := Lib.hid h2
  have HS := Lib.hid hs
  have HT := Lib.hid hT
  clear h1 h2 hs hT hsl
  rcases hb with ⟨hb1, hb2⟩ | ⟨hb1, rfl⟩
  · go_enter Tryd.func3, Tryd.ntmps3
    go_wp2_with fail
    rw [← HS.out]
    refine H1.out.mono ?_
    rintro r1 w1 ⟨rfl, hb3⟩
    go_wp2_with fail
    refine (H2.out w1).mono ?_
    rintro r2 w2 ⟨rfl, hb4⟩
    have hb5 := hb3.trans (hb4.mono hb3.size)
    go_wp2_with fail
    refine (awake_any _ (HT.out.below hb5 HT.out.2.2)).mono ?_
    rintro r3 w3 ⟨rfl, hb6⟩
    go_wp2_with fail
    go_ret
    exact ⟨rfl, hb5.trans (hb6.mono hb5.size)⟩
  · go_enter Tryd.func3, Tryd.ntmps3
    go_wp2_with fail
    refine H1.out.mono ?_
    rintro r1 w1 ⟨rfl, hb3⟩
    go_wp2_with fail
    refine (H2.out w1).mono ?_
    rintro r2 w2 ⟨rfl, hb4⟩
    have hb5 := hb3.trans (hb4.mono hb3.size)
    go_wp2_with fail
    refine (awake_any _ (HT.out.below hb5 HT.out.2.2)).mono ?_
    rintro r3 w3 ⟨rfl, hb6⟩
    go_wp2_with fail
    go_ret
    exact ⟨rfl, hb5.trans (hb6.mono hb5.size)⟩
theorem shaSums_any (s0 : List UInt8) (w : World) (hT : Tabs w) :
    Calls Tryd.prog 3 #[.string (S s0)] w fun e w' => e = .returned (.bool true) ∧ Below w.heap.size w w' :=
  shaSums_cut s0 _ rfl w hT (by
    by_cases h : 300 < s0.length
    · left; omega
    · right; exact ⟨by omega, (List.take_of_length_le (by omega)).symm⟩)

set_option maxRecDepth 100000 in
theorem shaSums_contract {H : Type} (enc : TypeId × Value → H) (W : World) (base : Nat) (args : Array Value) (ds gs : List (DataW H)) (before : List MemPlace)
    (hval : ∀ (j : Nat) t v, Tryd.f3.params[j]? = some t → args[j]? = some v → Value.okWide Tryd.prog W .any base t v)
    (hW : DataW.Whole enc Tryd.prog Tryd.f3.params.toList Rows.shaSumsSpec.vars false W args.toList ds gs before)
    (hsz : (DataW.weightsEach Tryd.prog (Tryd.f3.params.toList ++ Rows.shaSumsSpec.plain.varTypes Tryd.prog) (ds ++ gs)).all (· ≤ reachBytes) = true) (hT : Tabs W) :
    Calls Tryd.prog 3 args W fun e W' =>
      ((Rows.shaSumsSpec.fn H (ds ++ gs)).results = [.lit (.bool true)] ∧ (Rows.shaSumsSpec.fn H (ds ++ gs)).args = ds ∧ (Rows.shaSumsSpec.fn H (ds ++ gs)).vars = []) ∧ e = .returned (.bool true) ∧ Below W.heap.size W W' := by
  obtain ⟨p, q, hA0, hV, rfl, hfz, hnd⟩ := hW
  have hA : DataW.TrodAll enc Tryd.prog W 0 (fun _ => true) true Tryd.f3.params.toList args.toList ds p := hA0
  rw [Tryd.params3] at hA hval hsz
  obtain ⟨v0, d0, rfl, rfl, h0⟩ := trodAll_one hA
  obtain ⟨rfl, rfl⟩ := trodVars_none hV
  obtain ⟨s, rfl, rfl, rfl, max_s⟩ := open_string Tryd.underlying9 (hval 0 9 v0 rfl rfl) h0
  have len_s : s.data.toList.length ≤ reachBytes := sized_string hsz (j := 0) (t := 9) rfl rfl
  rw [← S_of s]
  exact (shaSums_any _ W hT).mono fun e W' h => ⟨⟨rfl, rfl, rfl⟩, h⟩
end Go.Proofs.YtbfomeifhmkpeaaDoor
