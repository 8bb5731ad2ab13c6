/-
  The contract of ValueReads.
-/
import Derived.Test.YtmjfgnaecokhcaaValueBytes
namespace Go.Proofs.Ytmjfgnaecokhcaa
open Go.ChangeShapes Go.WideShapes Go.ChangeAt Go.RowKit
open Go.ChangeMaps (open_string shut_string)
set_option linter.unusedVariables false

theorem zero_ok : zeroV.ok := ⟨by decide, by decide, by decide⟩
theorem readV_ok (l : List UInt8) : (Val.readV l).1.ok := by
  unfold Val.readV
  split
  · exact zero_ok
  · split
    · exact Val.read_ok l
    · exact zero_ok

set_option maxRecDepth 100000 in
set_option maxHeartbeats 2000000 in
theorem valueReads_walk (l : List UInt8) (x : Val) (hx : x.ok) (w : World) :
    Calls Try.prog 6 #[.string (S l), x.v] w fun e w' => e = .returned (.bool true) ∧ Below w.heap.size w w' := by
  obtain ⟨l', hl'⟩ : ∃ l', l' = if (300 : Int) < (l.length : Int) then l.take 300 else l := ⟨_, rfl⟩
  have hlen : l'.length ≤ 1000000 := by
    rw [hl']; split
    · rw [List.length_take]; omega
    · omega
  have hRD := fun W => vread_any l' hlen W
  have hQ := fun W => lright_any x hx W
  have hLB := fun h W => lbytes_any x hx h W
  have hRE : x.right = true → x.enc = l' → Val.readV l' = (x, 0) := fun h h2 => by rw [← h2]; exact read_enc hx h
  have hER := enc_read (l := l')
  have hZ := read_zero (l := l')
  have hok := readV_ok l'
  generalize Val.readV l' = out at hRD hER hZ hok hRE
  obtain ⟨y, e⟩ := out
  simp only [] at hRD hER hZ hok hRE
  obtain ⟨k, f, i, b, t⟩ := x
  by_cases he : e = 0
  · subst he
    obtain ⟨hy1, hy2⟩ := hER rfl
    have hQy := fun W => lright_any y hok W
    have hBy := fun W => lbytes_any y hok hy1 W
    rw [hy1] at hQy
    rw [hy2] at hBy
    obtain ⟨ky, fy, iy, by', ty⟩ := y
    rw [Val.v_eq] at hRD hQy hBy ⊢
    have HRD := Lib.hid hRD; clear hRD
    have HQ := Lib.hid hQy; clear hQy hQ
    have HB := Lib.hid hBy; clear hBy hLB hRE hER hZ hy1 hy2 hok
    by_cases hl : (300 : Int) < (l.length : Int)
    rotate_left
    all_goals
      first | rw [if_pos hl] at hl' | rw [if_neg hl] at hl'
      have hl2 : (300 : Int) < (l.length : Int) → (300 : Int) ≤ (l.length : Int) := by omega
      try replace hl2 := hl2 hl
      have HT := Lib.hid hl'; clear hl'
      go_enter Try.func6, Try.ntmps6
      go_wp2_with fail
      try rw [← HT.out]
      refine (HRD.out _).mono ?_
      rintro r w1 ⟨rfl, hb1⟩
      have HV := (Has.made w 24 (vcs k f i b t)).below hb1 (by simp)
      have hb0 : Below w.heap.size w w1 := (up1 _).trans (hb1.mono (by simp))
      clear hb1
      have HV4 := HV.of_alloc (.cells (vcs ky fy iy by' ty) 24)
      have HX4 := Has.made w1 24 (vcs ky fy iy by' ty)
      have hb04 : Below w.heap.size w (w1.alloc (.cells (vcs ky fy iy by' ty) 24)) := hb0.alloc hb0.size _
      have hx := lies HV
      have hlt := HV.lt
      clear HV hb0
      go_wp2_with fail
      refine (HQ.out _).mono ?_
      rintro r w5 ⟨rfl, hb5⟩
      have HX5 := HX4.below hb5 HX4.lt
      have hb05 := hb04.trans (hb5.mono hb04.size)
      clear HX4 HV4 hb5 hb04 hx
      have hx := lies HX5
      go_wp2_with fail
      refine (HB.out _).mono ?_
      rintro r w6 ⟨rfl, hb6⟩
      have hb06 := hb05.trans (hb6.mono hb05.size)
      go_wp2_with fail
      refine (awake_any _).mono ?_
      rintro r w7 ⟨rfl, hb7⟩
      go_wp2_with fail
      go_ret
      exact ⟨rfl, hb06.trans (hb7.mono hb06.size)⟩
  · have hy := hZ he
    subst hy
    have hbe : (e != 0) = true := by simpa using he
    have hE2 : ∀ W, (binOp .eql 24 (.agg (vcs 0 false 0 0 [])) (.agg (vcs 0 false 0 0 []))).run Try.prog W = .ok (.bool true) W := fun W => by
      have := run_veq ⟨0, false, 0, 0, []⟩ ⟨0, false, 0, 0, []⟩ W
      rw [decide_eq_true rfl] at this
      exact this
    have hne : (Val.mk k f i b t).right = true → ((Val.enc ⟨k, f, i, b, t⟩) == l') = false := fun h => by
      rw [beq_eq_false_iff_ne]
      intro h2
      have h1 := hRE h h2
      injection h1 with _ h1
      exact he h1
    rw [show zeroV.v = .agg (vcs 0 false 0 0 []) from rfl] at hRD
    rw [Val.v_eq] at hQ hLB ⊢
    have HRD := Lib.hid hRD; clear hRD hRE hER hZ
    have HQ := Lib.hid hQ; clear hQ
    have HLB := Lib.hid hLB; clear hLB
    generalize Val.right _ = rr at HQ HLB hne
    generalize Val.enc _ = en at HLB hne
    clear he
    by_cases hl : (300 : Int) < (l.length : Int)
    rotate_left
    all_goals
      first | rw [if_pos hl] at hl' | rw [if_neg hl] at hl'
      have hl2 : (300 : Int) < (l.length : Int) → (300 : Int) ≤ (l.length : Int) := by omega
      try replace hl2 := hl2 hl
      have HT := Lib.hid hl'; clear hl'
      go_enter Try.func6, Try.ntmps6
      go_wp2_with fail
      try rw [← HT.out]
      refine (HRD.out _).mono ?_
      rintro r w1 ⟨rfl, hb1⟩
      have HV := (Has.made w 24 (vcs k f i b t)).below hb1 (by simp)
      have hb0 : Below w.heap.size w w1 := (up1 _).trans (hb1.mono (by simp))
      clear hb1
      have HV4 := HV.of_alloc (.cells (vcs 0 false 0 0 []) 24)
      have HX4 := Has.made w1 24 (vcs 0 false 0 0 [])
      have hb04 : Below w.heap.size w (w1.alloc (.cells (vcs 0 false 0 0 []) 24)) := hb0.alloc hb0.size _
      have hx := lies HV
      have hlt := HV.lt
      clear HV hb0
      go_wp2_with fail
      refine (HQ.out _).mono ?_
      rintro r w5 ⟨rfl, hb5⟩
      have HV5 := HV4.below hb5 HV4.lt
      have hb05 := hb04.trans (hb5.mono hb04.size)
      clear HX4 HV4 hb5 hb04 hx
      have hx := lies HV5
      cases rr
      · clear hne
        go_wp2_with fail
        refine (awake_any _).mono ?_
        rintro r w7 ⟨rfl, hb7⟩
        go_wp2_with fail
        go_ret
        exact ⟨rfl, hb05.trans (hb7.mono hb05.size)⟩
      · have hne := hne rfl
        go_wp2_with fail
        refine (HLB.out (by trivial) _).mono ?_
        rintro r w6 ⟨rfl, hb6⟩
        have hb06 := hb05.trans (hb6.mono hb05.size)
        go_wp2_with fail
        refine (awake_any _).mono ?_
        rintro r w7 ⟨rfl, hb7⟩
        go_wp2_with fail
        go_ret
        exact ⟨rfl, hb06.trans (hb7.mono hb06.size)⟩

set_option maxRecDepth 100000 in
theorem valueReads_contract {H : Type} (enc : TypeId × Value → H) (W : World) (base : Nat) (args : Array Value) (ds gs : List (DataW H)) (before : List MemPlace)
    (hval : ∀ (j : Nat) t v, Try.f6.params[j]? = some t → args[j]? = some v → Value.okWide Try.prog W .any base t v)
    (hW : DataW.Whole enc Try.prog Try.f6.params.toList Rows.valueReadsSpec.vars false W args.toList ds gs before)
    (hsz : (DataW.weightsEach Try.prog (Try.f6.params.toList ++ Rows.valueReadsSpec.plain.varTypes Try.prog) (ds ++ gs)).all (· ≤ reachBytes) = true) :
    Calls Try.prog 6 args W fun e W' =>
      ((Rows.valueReadsSpec.fn H (ds ++ gs)).results = [.lit (.bool true)] ∧ (Rows.valueReadsSpec.fn H (ds ++ gs)).args = ds ∧ (Rows.valueReadsSpec.fn H (ds ++ gs)).vars = []) ∧ e = .returned (.bool true) ∧ Below W.heap.size W W' := by
  obtain ⟨p, q, hA0, hV, rfl, hfz, hnd⟩ := hW
  have hA : DataW.TrodAll enc Try.prog W 0 (fun _ => true) true Try.f6.params.toList args.toList ds p := hA0
  rw [Try.params6] at hA hval hsz
  obtain ⟨v0, v1, d0, d1, p0, p1, rfl, rfl, rfl, h0, h1⟩ := trodAll_two hA
  obtain ⟨rfl, rfl⟩ := trodVars_none hV
  obtain ⟨s, rfl, rfl, rfl, max_s⟩ := open_string Try.underlying9 (hval 0 9 v0 rfl rfl) h0
  have len_s : s.data.toList.length ≤ reachBytes := sized_string hsz (j := 0) (t := 9) rfl rfl
  obtain ⟨x, rfl, ok_x⟩ := val_open (hval 1 24 v1 rfl rfl) h1
  rw [← S_of s]
  exact (valueReads_walk s.data.toList x ok_x W).mono fun e W' h => ⟨⟨rfl, rfl, rfl⟩, h⟩

end Go.Proofs.Ytmjfgnaecokhcaa
