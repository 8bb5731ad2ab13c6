/-
  The contract of GuardNumbers.
-/
import Derived.Test.YtcgdjljfgjoliaaDoorGrdAw
import Derived.Test.YtcgdjljfgjoliaaDoorGrdL
import Derived.Test.YtcgdjljfgjoliaaDoorLaw
import Derived.Test.YtcgdjljfgjoliaaDoorRows
import Derived.SizedLaws
namespace Go.Proofs.YtcgdjljfgjoliaaDoor
open Go.ChangeShapes Go.WideShapes Go.ChangeAt Go.RowKit
open Go.ChangeMaps (open_string shut_string)
set_option linter.unusedVariables false

theorem wf64 {n : Int} (h : (Lit.int IntKind.i64 n).wf = true) : -9223372036854775808 ≤ n ∧ n ≤ 9223372036854775807 := by
  unfold Lit.wf at h
  rw [Bool.and_eq_true, decide_eq_true_eq, decide_eq_true_eq] at h
  exact ⟨h.1, h.2⟩
set_option maxRecDepth 100000 in
set_option maxHeartbeats 2000000 in
theorem gnumbers_any (n : Int) (h1 : -9223372036854775808 ≤ n) (h2 : n ≤ 9223372036854775807) (s : List UInt8) (w : World) :
    Calls Tryd.prog 5 #[.int .i64 n, .string (S s)] w fun e w' => e = .returned (.bool true) ∧ Below w.heap.size w w' := by
  have HAW : Hid _ := fun W => gawake_any W
  have HE : Hid _ := fun W => eight_any n W
  have HL : Hid _ := fun W => leight_any n W
  have HNE : Hid (∀ W, Calls Tryd.prog 22 #[.string (S (Grd.eightI n))] W fun e w' => e = .returned (.int .i64 n) ∧ Below W.heap.size W w') := Lib.hid (fun W => by
    have := number_any (Grd.eightI n) (by rw [Grd.eightI_len]; decide) W
    rw [Grd.numI_eight n h1 (by omega)] at this
    exact this)
  generalize Grd.eightI n = E at HE HL HNE
  have hstep : ∀ (m : List UInt8) (k : Nat) (h : k < m.length), bits .or .i64 (wrap64 (Grd.W (Grd.num8 (m.take k)) * 256)) (wrap64 ((m[k]'h).toNat : Int)) = Grd.W (Grd.num8 (m.take (k + 1))) := fun m k h => by
    have e : wrap64 ((m[k]'h).toNat : Int) = ((m[k]'h).toNat : Int) := by
      have := (m[k]'h).toNat_lt
      unfold wrap64
      omega
    rw [e, List.take_succ_eq_append_getElem h, ← Grd.W_step, IntKind.wrap_i64]
    first | rfl | (congr 1; unfold wrap64; rfl)
  have HS : Hid _ := hstep
  have hN : ∀ m : List UInt8, m.length ≤ 1000000000 → ∀ W, Calls Tryd.prog 22 #[.string (S m)] W fun e w' => e = .returned (.int .i64 (Grd.W (Grd.num8 (m.take m.length)))) ∧ Below W.heap.size W w' := fun m hm W => by
    rw [List.take_length]
    exact number_any m hm W
  have HN : Hid _ := hN
  clear hstep hN
  by_cases hl : s.length ≤ 20
  · have g1 : ¬ (20 : Int) < (s.length : Int) := by omega
    go_enter Tryd.func5, Tryd.ntmps5
    go_wp2_with fail
    have hml : s.length ≤ 20 := hl
    clear g1 hl
    obtain ⟨m, rfl⟩ : ∃ m, m = s := ⟨_, rfl⟩
    go_loopw [5, 6] (fun v5 v6 wr => ∃ k : Nat, k ≤ m.length ∧ v5 = .int .i64 (Grd.W (Grd.num8 (m.take k))) ∧ v6 = .int .i64 (k : Int) ∧ wr = w) (fun _ v6 _ => m.length - vI v6)
    case atStart => exact ⟨0, Nat.zero_le _, rfl, rfl, rfl⟩
    case round =>
      obtain ⟨k, hk, rfl, rfl, rfl⟩ := hrel
      have hk0 : (0 : Int) ≤ (k : Int) := by omega
      by_cases hlt : k < m.length
      · have hki : (k : Int) < (m.length : Int) := by omega
        have hix : ∀ W, (Instr.index 9 (.string (S m)) (.int .i64 (k : Int))).run Tryd.prog W = .ok (.int .u8 ((m[k]'hlt).toNat : Int)) W := fun W => run_index_S W m .i64 k Tryd.underlying9 hlt
        have hs := HS.out m k hlt
        generalize m[k]'hlt = c at hix hs
        obtain ⟨A, hA⟩ : ∃ A, Grd.W (Grd.num8 (m.take k)) = A := ⟨_, rfl⟩
        rw [hA] at hs ⊢
        have HX := Lib.hid hs
        clear hs hA
        go_wp2_with fail
        refine ⟨⟨k + 1, by omega, ?_, by go_num, by trivial⟩, ?_⟩
        · rw [HX.out]
        · simp only [vI]
          omega
      · obtain rfl : k = m.length := by omega
        have HM := Lib.hid (fun W => HN.out m (by omega) W)
        generalize Grd.W (Grd.num8 (m.take m.length)) = A at HM ⊢
        clear hlt hk0 hk HS HN hml
        go_wp2_with fail
        refine (HE.out _).mono ?_
        rintro r w1 ⟨rfl, hb⟩
        have HB := Lib.hid hb
        clear hb
        go_wp2_with fail
        refine (HL.out _).mono ?_
        rintro r w2 ⟨rfl, hb⟩
        replace HB := Lib.hid (HB.out.trans (hb.mono HB.out.size))
        clear hb
        go_wp2_with fail
        refine (HE.out _).mono ?_
        rintro r w3 ⟨rfl, hb⟩
        replace HB := Lib.hid (HB.out.trans (hb.mono HB.out.size))
        clear hb
        go_wp2_with fail
        refine (HNE.out _).mono ?_
        rintro r w4 ⟨rfl, hb⟩
        replace HB := Lib.hid (HB.out.trans (hb.mono HB.out.size))
        clear hb
        go_wp2_with fail
        refine (HM.out _).mono ?_
        rintro r w5 ⟨rfl, hb⟩
        replace HB := Lib.hid (HB.out.trans (hb.mono HB.out.size))
        clear hb
        go_wp2_with fail
        refine (HAW.out _).mono ?_
        rintro r w6 ⟨rfl, hb⟩
        replace HB := Lib.hid (HB.out.trans (hb.mono HB.out.size))
        clear hb
        go_wp2_with fail
        go_ret
        exact ⟨rfl, HB.out⟩
  · have g1 : (20 : Int) < (s.length : Int) := by omega
    go_enter Tryd.func5, Tryd.ntmps5
    go_wp2_with fail
    have hml : (s.take 20).length ≤ 20 := by rw [List.length_take]; omega
    clear g1 hl
    generalize s.take 20 = m at hml ⊢
    go_loopw [5, 6] (fun v5 v6 wr => ∃ k : Nat, k ≤ m.length ∧ v5 = .int .i64 (Grd.W (Grd.num8 (m.take k))) ∧ v6 = .int .i64 (k : Int) ∧ wr = w) (fun _ v6 _ => m.length - vI v6)
    case atStart => exact ⟨0, Nat.zero_le _, rfl, rfl, rfl⟩
    case round =>
      obtain ⟨k, hk, rfl, rfl, rfl⟩ := hrel
      have hk0 : (0 : Int) ≤ (k : Int) := by omega
      by_cases hlt : k < m.length
      · have hki : (k : Int) < (m.length : Int) := by omega
        have hix : ∀ W, (Instr.index 9 (.string (S m)) (.int .i64 (k : Int))).run Tryd.prog W = .ok (.int .u8 ((m[k]'hlt).toNat : Int)) W := fun W => run_index_S W m .i64 k Tryd.underlying9 hlt
        have hs := HS.out m k hlt
        generalize m[k]'hlt = c at hix hs
        obtain ⟨A, hA⟩ : ∃ A, Grd.W (Grd.num8 (m.take k)) = A := ⟨_, rfl⟩
        rw [hA] at hs ⊢
        have HX := Lib.hid hs
        clear hs hA
        go_wp2_with fail
        refine ⟨⟨k + 1, by omega, ?_, by go_num, by trivial⟩, ?_⟩
        · rw [HX.out]
        · simp only [vI]
          omega
      · obtain rfl : k = m.length := by omega
        have HM := Lib.hid (fun W => HN.out m (by omega) W)
        generalize Grd.W (Grd.num8 (m.take m.length)) = A at HM ⊢
        clear hlt hk0 hk HS HN hml
        go_wp2_with fail
        refine (HE.out _).mono ?_
        rintro r w1 ⟨rfl, hb⟩
        have HB := Lib.hid hb
        clear hb
        go_wp2_with fail
        refine (HL.out _).mono ?_
        rintro r w2 ⟨rfl, hb⟩
        replace HB := Lib.hid (HB.out.trans (hb.mono HB.out.size))
        clear hb
        go_wp2_with fail
        refine (HE.out _).mono ?_
        rintro r w3 ⟨rfl, hb⟩
        replace HB := Lib.hid (HB.out.trans (hb.mono HB.out.size))
        clear hb
        go_wp2_with fail
        refine (HNE.out _).mono ?_
        rintro r w4 ⟨rfl, hb⟩
        replace HB := Lib.hid (HB.out.trans (hb.mono HB.out.size))
        clear hb
        go_wp2_with fail
        refine (HM.out _).mono ?_
        rintro r w5 ⟨rfl, hb⟩
        replace HB := Lib.hid (HB.out.trans (hb.mono HB.out.size))
        clear hb
        go_wp2_with fail
        refine (HAW.out _).mono ?_
        rintro r w6 ⟨rfl, hb⟩
        replace HB := Lib.hid (HB.out.trans (hb.mono HB.out.size))
        clear hb
        go_wp2_with fail
        go_ret
        exact ⟨rfl, HB.out⟩

set_option maxRecDepth 100000 in
theorem guardNumbers_contract {H : Type} (enc : TypeId × Value → H) (W : World) (base : Nat) (args : Array Value) (ds gs : List (DataW H)) (before : List MemPlace)
    (hval : ∀ (j : Nat) t v, Tryd.f5.params[j]? = some t → args[j]? = some v → Value.okWide Tryd.prog W .any base t v)
    (hW : DataW.Whole enc Tryd.prog Tryd.f5.params.toList Rows.guardNumbersSpec.vars false W args.toList ds gs before)
    (hsz : (DataW.weightsEach Tryd.prog (Tryd.f5.params.toList ++ Rows.guardNumbersSpec.plain.varTypes Tryd.prog) (ds ++ gs)).all (· ≤ reachBytes) = true) :
    Calls Tryd.prog 5 args W fun e W' =>
      ((Rows.guardNumbersSpec.fn H (ds ++ gs)).results = [.lit (.bool true)] ∧ (Rows.guardNumbersSpec.fn H (ds ++ gs)).args = ds ∧ (Rows.guardNumbersSpec.fn H (ds ++ gs)).vars = []) ∧ e = .returned (.bool true) ∧ Below W.heap.size W W' := by
  obtain ⟨p, q, hA0, hV, rfl, hfz, hnd⟩ := hW
  have hA : DataW.TrodAll enc Tryd.prog W 0 (fun _ => true) true Tryd.f5.params.toList args.toList ds p := hA0
  rw [Tryd.params5] at hA hval hsz
  obtain ⟨v0, v1, d0, d1, p0, p1, rfl, rfl, rfl, h0, h1⟩ := trodAll_two hA
  obtain ⟨rfl, rfl⟩ := trodVars_none hV
  obtain ⟨n, rfl, rfl, rfl, bd_n⟩ := open_int Tryd.underlying3 (hval 0 3 v0 rfl rfl) h0
  obtain ⟨s, rfl, rfl, rfl, max_s⟩ := open_string Tryd.underlying9 (hval 1 9 v1 rfl rfl) h1
  have len_s : s.data.toList.length ≤ reachBytes := sized_string hsz (j := 1) (t := 9) rfl rfl
  rw [← S_of s]
  exact (gnumbers_any n (wf64 bd_n).1 (wf64 bd_n).2 s.data.toList W).mono fun e W' h => ⟨⟨rfl, rfl, rfl⟩, h⟩

end Go.Proofs.YtcgdjljfgjoliaaDoor
