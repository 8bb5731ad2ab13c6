/-
  The contract of ValueBytes.
-/
import Derived.Test.YtmjfgnaecokhcaaValJ
import Derived.Test.YtmjfgnaecokhcaaValPure
import Derived.Test.YtmjfgnaecokhcaaValArg
namespace Go.Proofs.Ytmjfgnaecokhcaa
open Go.ChangeShapes Go.WideShapes Go.ChangeAt Go.RowKit
open Go.ChangeMaps (open_string shut_string)
set_option linter.unusedVariables false

theorem enc_len {x : Val} (h : x.right = true) : x.enc.length ≤ 300 := by
  obtain ⟨h0, h4, ht, -⟩ := Val.right_le h
  show (M.encL x.kind ++ x.body).length ≤ 300
  rw [List.length_append]
  have h1 := M.encL_len x.kind
  have h2 : x.body.length ≤ 208 := by
    unfold Val.body
    have := M.encL_len x.text.length
    split
    · simp
    · split
      · rw [oct_len]; omega
      · split
        · rw [oct_len]; omega
        · split
          · rw [List.length_append]; omega
          · simp
  omega

set_option maxHeartbeats 2000000 in
theorem valueBytes_walk (x : Val) (hx : x.ok) (w : World) :
    Calls Try.prog 5 #[x.v] w fun e w' => e = .returned (.bool true) ∧ Below w.heap.size w w' := by
  obtain ⟨k, f, i, b, t⟩ := x
  rw [Val.v_eq]
  obtain ⟨t', ht'⟩ : ∃ t', t' = if (300 : Int) < (t.length : Int) then t.take 300 else t := ⟨_, rfl⟩
  have hx' : (⟨k, f, i, b, t'⟩ : Val).ok := hx
  have hB := fun W => bytes_any ⟨k, f, i, b, t'⟩ hx' W
  have hQ := fun W => lright_any ⟨k, f, i, b, t'⟩ hx' W
  have hLB := fun h W => lbytes_any ⟨k, f, i, b, t'⟩ hx' h W
  have hRD := fun h W => vread_any (Val.enc ⟨k, f, i, b, t'⟩) (Nat.le_trans (enc_len (x := ⟨k, f, i, b, t'⟩) h) (by decide)) W
  have hRE := fun h => read_enc (x := ⟨k, f, i, b, t'⟩) hx' h
  generalize Val.enc _ = en at hB hLB hRD hRE
  generalize Val.right _ = rr at hB hQ hLB hRD hRE
  rw [Val.v_eq k f i b t'] at hB hQ hLB
  cases rr
  · rw [if_neg (by simp)] at hB
    have HB := Lib.hid hB; clear hB hLB hRD hRE
    have HQ := Lib.hid hQ; clear hQ
    by_cases hl : (300 : Int) < (t.length : Int)
    rotate_left
    all_goals
      first | rw [if_pos hl] at ht' | rw [if_neg hl] at ht'
      have hl2 : (300 : Int) < (t.length : Int) → (300 : Int) ≤ (t.length : Int) := by omega
      try replace hl2 := hl2 hl
      have HT := Lib.hid ht'; clear ht'
      have e0 : (⟨#[]⟩ : ByteArray) = S [] := rfl
      go_enter Try.func5, Try.ntmps5
      go_wp2_with fail
      try rw [← HT.out]
      refine (HB.out _).mono ?_
      rintro r w1 ⟨rfl, hb1⟩
      have HV : Has w1 w.heap.size 24 (vcs k f i b t') := (Has.made w _ _).below hb1 (by simp)
      have hb0 : Below w.heap.size w w1 := (up1 _).trans (hb1.mono (by simp))
      have hx := lies HV
      clear hb1
      go_wp2_with fail
      refine (HQ.out _).mono ?_
      rintro r w2 ⟨rfl, hb2⟩
      go_wp2_with fail
      refine (awake_any _).mono ?_
      rintro r w3 ⟨rfl, hb3⟩
      have hb02 := hb0.trans (hb2.mono hb0.size)
      go_wp2_with fail
      go_ret
      exact ⟨rfl, hb02.trans (hb3.mono hb02.size)⟩
  · rw [if_pos rfl] at hB
    replace hRD := hRD rfl
    rw [hRE rfl] at hRD
    replace hLB := hLB rfl
    simp only [] at hRD
    rw [Val.v_eq k f i b t'] at hRD
    have HB := Lib.hid hB; clear hB hRE
    have HQ := Lib.hid hQ; clear hQ
    have HLB := Lib.hid hLB; clear hLB
    have HRD := Lib.hid hRD; clear hRD
    have hE2 : ∀ W, (binOp .eql 24 (.agg (vcs k f i b t')) (.agg (vcs k f i b t'))).run Try.prog W = .ok (.bool true) W := fun W => by
      have := run_veq ⟨k, f, i, b, t'⟩ ⟨k, f, i, b, t'⟩ W
      rw [decide_eq_true rfl] at this
      exact this
    have hG2 : ∀ op o1 o2 W, (eqGuard op 24 o1 o2 (.agg (vcs k f i b t')) (.agg (vcs k f i b t'))).run Try.prog W = .ok () W := fun op o1 o2 W => run_vguard op o1 o2 ⟨k, f, i, b, t'⟩ ⟨k, f, i, b, t'⟩ W
    by_cases hl : (300 : Int) < (t.length : Int)
    rotate_left
    all_goals
      first | rw [if_pos hl] at ht' | rw [if_neg hl] at ht'
      have hl2 : (300 : Int) < (t.length : Int) → (300 : Int) ≤ (t.length : Int) := by omega
      try replace hl2 := hl2 hl
      have HT := Lib.hid ht'; clear ht'
      go_enter Try.func5, Try.ntmps5
      go_wp2_with fail
      try rw [← HT.out]
      refine (HB.out _).mono ?_
      rintro r w1 ⟨rfl, hb1⟩
      have HV : Has w1 w.heap.size 24 (vcs k f i b t') := (Has.made w _ _).below hb1 (by simp)
      have hb0 : Below w.heap.size w w1 := (up1 _).trans (hb1.mono (by simp))
      have hx := lies HV
      clear hb1
      go_wp2_with fail
      refine (HQ.out _).mono ?_
      rintro r w2 ⟨rfl, hb2⟩
      have HV2 := HV.below hb2 HV.lt
      have hb02 := hb0.trans (hb2.mono hb0.size)
      clear hb0 hb2 HV hx
      have hx := lies HV2
      go_wp2_with fail
      refine (HRD.out _).mono ?_
      rintro r w3 ⟨rfl, hb3⟩
      have HV3 := HV2.below hb3 HV2.lt
      have hb03 := hb02.trans (hb3.mono hb02.size)
      clear hb3 hb02 HV2 hx
      have HV4 := HV3.of_alloc (.cells (vcs k f i b t') 24)
      have hx := lies HV4
      have HX4 := Has.made w3 24 (vcs k f i b t')
      have hb04 : Below w.heap.size w (w3.alloc (.cells (vcs k f i b t') 24)) := hb03.alloc hb03.size _
      clear HV3 hb03
      go_wp2_with fail
      refine (HLB.out _).mono ?_
      rintro r w5 ⟨rfl, hb5⟩
      have HX5 := HX4.below hb5 HX4.lt
      have HV5 := HV4.below hb5 HV4.lt
      have hb05 := hb04.trans (hb5.mono hb04.size)
      clear HX4 HV4 hb5 hb04 hx
      have hx := lies HV5
      have hx2 := lies HX5
      go_wp2_with fail
      refine (awake_any _).mono ?_
      rintro r w6 ⟨rfl, hb6⟩
      go_wp2_with fail
      go_ret
      exact ⟨rfl, hb05.trans (hb6.mono hb05.size)⟩

set_option maxRecDepth 100000 in
theorem valueBytes_contract {H : Type} (enc : TypeId × Value → H) (W : World) (base : Nat) (args : Array Value) (ds gs : List (DataW H)) (before : List MemPlace)
    (hval : ∀ (j : Nat) t v, Try.f5.params[j]? = some t → args[j]? = some v → Value.okWide Try.prog W .any base t v)
    (hW : DataW.Whole enc Try.prog Try.f5.params.toList Rows.valueBytesSpec.vars false W args.toList ds gs before)
    (hsz : (DataW.weightsEach Try.prog (Try.f5.params.toList ++ Rows.valueBytesSpec.plain.varTypes Try.prog) (ds ++ gs)).all (· ≤ reachBytes) = true) :
    Calls Try.prog 5 args W fun e W' =>
      ((Rows.valueBytesSpec.fn H (ds ++ gs)).results = [.lit (.bool true)] ∧ (Rows.valueBytesSpec.fn H (ds ++ gs)).args = ds ∧ (Rows.valueBytesSpec.fn H (ds ++ gs)).vars = []) ∧ e = .returned (.bool true) ∧ Below W.heap.size W W' := by
  obtain ⟨p, q, hA0, hV, rfl, hfz, hnd⟩ := hW
  have hA : DataW.TrodAll enc Try.prog W 0 (fun _ => true) true Try.f5.params.toList args.toList ds p := hA0
  rw [Try.params5] at hA hval hsz
  obtain ⟨v0, d0, rfl, rfl, h0⟩ := trodAll_one hA
  obtain ⟨rfl, rfl⟩ := trodVars_none hV
  obtain ⟨x, rfl, ok_x⟩ := val_open (hval 0 24 v0 rfl rfl) h0
  exact (valueBytes_walk x ok_x W).mono fun e W' h => ⟨⟨rfl, rfl, rfl⟩, h⟩

end Go.Proofs.Ytmjfgnaecokhcaa
