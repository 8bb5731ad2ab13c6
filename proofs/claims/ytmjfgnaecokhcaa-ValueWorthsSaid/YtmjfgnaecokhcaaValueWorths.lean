/-
  The contract of ValueWorths.
-/
import Derived.Test.YtmjfgnaecokhcaaValP
import Derived.Test.YtmjfgnaecokhcaaValArg
import Derived.Deep.Cut
import Derived.Deep.DeepCutAuto
namespace Go.Proofs.Ytmjfgnaecokhcaa
open Go.ChangeShapes Go.WideShapes Go.ChangeAt Go.RowKit
open Go.ChangeMaps (open_string shut_string)
set_option linter.unusedVariables false

theorem keep2 {W W' : World} {g g' : Nat} {cs cs' : Array Value} {T T' : TypeId} (h : Has W g T cs ∧ Has W g' T' cs') (hb : Below W.heap.size W W') : Has W' g T cs ∧ Has W' g' T' cs' :=
  ⟨h.1.below hb h.1.lt, h.2.below hb h.2.lt⟩
theorem lies2 {W : World} {g g' : Nat} {k k' : Int} {f f' : Bool} {i i' : Int} {b b' : Nat} {t t' : List UInt8} (h : Has W g 24 (vcs k f i b t) ∧ Has W g' 24 (vcs k' f' i' b' t')) : Lies g k f i b t W ∧ Lies g' k' f' i' b' t' W :=
  ⟨lies h.1, lies h.2⟩

theorem worth_told (x y : Val) (hx : x.ok) (hy : y.ok) : Val.worth x y = ((x.right && y.right && decide (x.kind = 3) && decide (y.kind = 3) && !Val.nan x.bits && !Val.nan y.bits) && (decide (x.bits = y.bits) || (decide (x.bits % 9223372036854775808 = 0) && decide (y.bits % 9223372036854775808 = 0)))) := by
  unfold Val.worth
  cases hr : x.right
  · simp
  cases hs : y.right
  · simp
  by_cases k1 : x.kind = 3
  rotate_left
  · rw [decide_eq_false k1]; simp
  by_cases k2 : y.kind = 3
  rotate_left
  · rw [decide_eq_false k2]; simp
  rw [decide_eq_true k1, decide_eq_true k2, Flt.order_eq _ _ hx.1 hy.1 (right_cbits hr k1) (right_cbits hs k2)]
  simp only [Bool.true_and, Bool.and_true, Bool.and_assoc]
theorem zero_told (b : Nat) (hb : b < 18446744073709551616) : (IntKind.u64.wrap ((b : Int) * 2) == 0) = decide (b % 9223372036854775808 = 0) := by
  rw [IntKind.wrap_u64, Bool.eq_iff_iff, beq_iff_eq, decide_eq_true_iff]; omega

set_option maxRecDepth 100000 in
set_option maxHeartbeats 2000000 in
theorem valueWorths_walk (x y : Val) (hx : x.ok) (hy : y.ok) (w : World) :
    Calls Try.prog 9 #[x.v, y.v] w fun e w' => e = .returned (.bool true) ∧ Below w.heap.size w w' := by
  have r1 := fun W => lright_any x hx W
  have r2 := fun W => lright_any y hy W
  have n1 := fun W => nan_any x.bits hx.1 W
  have n2 := fun W => nan_any y.bits hy.1 W
  have wo := fun W => worth_any x y hx hy W
  have wh := fun W => whole_any x hx W
  have lw := fun W => lworth_any x.bits hx.1 W
  have hd := worth_told x y hx hy
  have hwh : Val.whole x = if x.right = true then (if x.kind = 2 then (x.int, true) else if x.kind = 3 then Flt.wh x.bits else (0, false)) else (0, false) := rfl
  have z1 := zero_told x.bits hx.1
  have z2 := zero_told y.bits hy.1
  have e1 : ((x.bits : Int) == (y.bits : Int)) = decide (x.bits = y.bits) := by
    rw [Bool.eq_iff_iff, beq_iff_eq, decide_eq_true_iff]; omega
  have e3 : (x.kind == 3) = decide (x.kind = 3) := by rw [Bool.eq_iff_iff, beq_iff_eq, decide_eq_true_iff]
  have e4 : (y.kind == 3) = decide (y.kind = 3) := by rw [Bool.eq_iff_iff, beq_iff_eq, decide_eq_true_iff]
  obtain ⟨kx, fx, ix, bx, tx⟩ := x
  obtain ⟨ky, fy, iy, by', ty⟩ := y
  simp only [] at n1 n2 lw z1 z2 e1 e3 e4 hd hwh
  generalize Val.worth _ _ = d at wo hd
  generalize Val.whole _ = ow at wh hwh
  generalize Flt.wh bx = ol at lw hwh
  generalize Val.right ⟨kx, fx, ix, bx, tx⟩ = rx at r1 hd hwh
  generalize Val.right ⟨ky, fy, iy, by', ty⟩ = ry at r2 hd
  generalize Val.nan bx = nx at n1 hd
  generalize Val.nan by' = ny at n2 hd
  generalize decide (bx = by') = sm at e1 hd
  generalize decide (bx % 9223372036854775808 = 0) = zx at z1 hd
  generalize decide (by' % 9223372036854775808 = 0) = zy at z2 hd
  obtain ⟨p3, hp3⟩ : ∃ p3, p3 = decide (kx = 3) := ⟨_, rfl⟩
  obtain ⟨q3, hq3⟩ : ∃ q3, q3 = decide (ky = 3) := ⟨_, rfl⟩
  rw [← hp3] at e3 hd
  rw [← hq3] at e4 hd
  rw [Val.v_eq kx fx ix bx tx] at r1 wo wh ⊢
  rw [Val.v_eq ky fy iy by' ty] at r2 wo ⊢
  obtain ⟨fl, hfl⟩ : ∃ fl, fl = (rx && ry && p3 && q3 && !nx && !ny) := ⟨_, rfl⟩
  rw [← hfl] at hd
  have R1 := Lib.hid r1; clear r1
  have R2 := Lib.hid r2; clear r2
  have N1 := Lib.hid n1; clear n1
  have N2 := Lib.hid n2; clear n2
  have WO := Lib.hid wo; clear wo
  have WH := Lib.hid wh; clear wh
  have LW := Lib.hid lw; clear lw
  have HD := Lib.hid (And.intro hd (And.intro hfl (And.intro hp3 hwh))); clear hd hfl hp3 hq3 hwh
  have HZ := Lib.hid (And.intro e1 (And.intro z1 z2)); clear e1 z1 z2
  clear hx hy
  by_cases l1 : (300 : Int) < (tx.length : Int)
  · go_enter Try.func9, Try.ntmps9
    go_wp2_with fail
    refine (awake_any _).mono ?_
    rintro r w9 ⟨rfl, hb9⟩
    go_wp2_with fail
    go_ret
    exact ⟨rfl, (up2 _ _).trans (hb9.mono (by simp; omega))⟩
  by_cases l2 : (300 : Int) < (ty.length : Int)
  · go_enter Try.func9, Try.ntmps9
    go_wp2_with fail
    refine (awake_any _).mono ?_
    rintro r w9 ⟨rfl, hb9⟩
    go_wp2_with fail
    go_ret
    exact ⟨rfl, (up2 _ _).trans (hb9.mono (by simp; omega))⟩
  have HG0 : (Has ((w.alloc (.cells (vcs kx fx ix bx tx) 24)).alloc (.cells (vcs ky fy iy by' ty) 24)) w.heap.size 24 (vcs kx fx ix bx tx) ∧ Has ((w.alloc (.cells (vcs kx fx ix bx tx) 24)).alloc (.cells (vcs ky fy iy by' ty) 24)) (w.heap.size + 1) 24 (vcs ky fy iy by' ty)) ∧ Below w.heap.size w ((w.alloc (.cells (vcs kx fx ix bx tx) 24)).alloc (.cells (vcs ky fy iy by' ty) 24)) :=
    ⟨⟨(Has.made w _ _).of_alloc _, has_new _ _ _ _⟩, up2 _ _⟩
  have HGB := Lib.hid HG0
  have hx2 := lies2 HG0.1
  clear HG0
  have HG := Lib.hid (And.intro e3 e4); clear e3 e4
  go_enter Try.func9, Try.ntmps9
  go_upto_region 3 with (fail)
  go_cut [5] (fun v5 wc => v5 = .bool fl ∧ (Has wc w.heap.size 24 (vcs kx fx ix bx tx) ∧ Has wc (w.heap.size + 1) 24 (vcs ky fy iy by' ty)) ∧ Below w.heap.size w wc)
  case first =>
    have e3 := HG.out.1
    have e4 := HG.out.2
    go_wp2_with fail
    refine (R1.out _).mono ?_
    rintro r w1 ⟨rfl, hb1⟩
    replace HGB := Lib.hid (And.intro (keep2 HGB.out.1 hb1) (HGB.out.2.trans (hb1.mono HGB.out.2.size)))
    clear hx2 hb1
    have hx2 := lies2 HGB.out.1
    cases rx
    · clear R2 N1 N2
      go_wp2_with fail
      go_meet
      case rel => exact ⟨by rw [HD.out.2.1]; simp, HGB.out⟩
    go_wp2_with fail
    refine (R2.out _).mono ?_
    rintro r w1 ⟨rfl, hb1⟩
    replace HGB := Lib.hid (And.intro (keep2 HGB.out.1 hb1) (HGB.out.2.trans (hb1.mono HGB.out.2.size)))
    clear hx2 hb1
    have hx2 := lies2 HGB.out.1
    cases ry
    · clear N1 N2
      go_wp2_with fail
      go_meet
      case rel => exact ⟨by rw [HD.out.2.1]; simp, HGB.out⟩
    cases p3
    · go_wp2_with fail
      go_meet
      case rel => exact ⟨by rw [HD.out.2.1]; simp, HGB.out⟩
    cases q3
    · go_wp2_with fail
      go_meet
      case rel => exact ⟨by rw [HD.out.2.1]; simp, HGB.out⟩
    go_wp2_with fail
    refine (N1.out _).mono ?_
    rintro r w1 ⟨rfl, rfl⟩
    cases nx
    rotate_left
    · go_wp2_with fail
      go_meet
      case rel => exact ⟨by rw [HD.out.2.1]; simp, HGB.out⟩
    go_wp2_with fail
    refine (N2.out _).mono ?_
    rintro r w1 ⟨rfl, rfl⟩
    cases ny
    rotate_left
    · go_wp2_with fail
      go_meet
      case rel => exact ⟨by rw [HD.out.2.1]; simp, HGB.out⟩
    go_wp2_with fail
    go_meet
    case rel => exact ⟨by rw [HD.out.2.1]; simp, HGB.out⟩
  case rest =>
    obtain ⟨rfl, hgg, hbb⟩ := hcut
    clear HGB hx2
    have HGB := Lib.hid (And.intro hgg hbb)
    have hx2 := lies2 hgg
    clear hgg hbb R2 N1 N2
    go_wp2_with fail
    refine (WO.out _).mono ?_
    rintro r w1 ⟨rfl, hb1⟩
    replace HGB := Lib.hid (And.intro (keep2 HGB.out.1 hb1) (HGB.out.2.trans (hb1.mono HGB.out.2.size)))
    clear hx2 hb1
    have hx2 := lies2 HGB.out.1
    have hd := HD.out.1
    have hsm := HZ.out.1
    have hzx := HZ.out.2.1
    have hzy := HZ.out.2.2
    have hall : (fl = false ∧ d = false) ∨ (fl = true ∧ sm = true ∧ d = true) ∨ (fl = true ∧ sm = false ∧ zx = false ∧ d = false) ∨ (fl = true ∧ sm = false ∧ zx = true ∧ zy = true ∧ d = true) ∨ (fl = true ∧ sm = false ∧ zx = true ∧ zy = false ∧ d = false) := by
      rw [hd]
      cases fl <;> cases sm <;> cases zx <;> cases zy <;> simp
    have HWH := Lib.hid HD.out.2.2.2
    clear hd HD WO HZ HG
    rcases hall with ⟨rfl, rfl⟩ | ⟨rfl, rfl, rfl⟩ | ⟨rfl, rfl, rfl, rfl⟩ | ⟨rfl, rfl, rfl, rfl, rfl⟩ | ⟨rfl, rfl, rfl, rfl, rfl⟩
    all_goals
      go_wp2_with fail
      refine (WH.out _).mono ?_
      rintro r w1 ⟨rfl, hb1⟩
      replace HGB := Lib.hid (And.intro (keep2 HGB.out.1 hb1) (HGB.out.2.trans (hb1.mono HGB.out.2.size)))
      clear hx2 hb1
      have hx2 := lies2 HGB.out.1
      clear hsm hzx hzy
      have hwh := HWH.out
      cases rx
      · rw [if_neg (by decide)] at hwh
        subst hwh
        clear HWH
        go_wp2_with fail
        refine (R1.out _).mono ?_
        rintro r w1 ⟨rfl, hb1⟩
        replace HGB := Lib.hid (And.intro (keep2 HGB.out.1 hb1) (HGB.out.2.trans (hb1.mono HGB.out.2.size)))
        clear hx2 hb1
        have hx2 := lies2 HGB.out.1
        go_wp2_with fail
        refine (R1.out _).mono ?_
        rintro r w1 ⟨rfl, hb1⟩
        replace HGB := Lib.hid (And.intro (keep2 HGB.out.1 hb1) (HGB.out.2.trans (hb1.mono HGB.out.2.size)))
        clear hx2 hb1
        have hx2 := lies2 HGB.out.1
        go_wp2_with fail
        refine (awake_any _).mono ?_
        rintro r w9 ⟨rfl, hb9⟩
        go_wp2_with fail
        go_ret
        exact ⟨rfl, HGB.out.2.trans (hb9.mono HGB.out.2.size)⟩
      · rw [if_pos (by trivial)] at hwh
        by_cases q2 : kx = 2
        · rw [if_pos q2] at hwh
          subst hwh
          subst q2
          clear HWH
          go_wp2_with fail
          refine (R1.out _).mono ?_
          rintro r w1 ⟨rfl, hb1⟩
          replace HGB := Lib.hid (And.intro (keep2 HGB.out.1 hb1) (HGB.out.2.trans (hb1.mono HGB.out.2.size)))
          clear hx2 hb1
          have hx2 := lies2 HGB.out.1
          go_wp2_with fail
          refine (awake_any _).mono ?_
          rintro r w9 ⟨rfl, hb9⟩
          go_wp2_with fail
          go_ret
          exact ⟨rfl, HGB.out.2.trans (hb9.mono HGB.out.2.size)⟩
        · have g2 : (kx == 2) = false := by simpa using q2
          rw [if_neg q2] at hwh
          by_cases q3 : kx = 3
          · rw [if_pos q3] at hwh
            subst hwh
            subst q3
            clear HWH
            go_wp2_with fail
            refine (R1.out _).mono ?_
            rintro r w1 ⟨rfl, hb1⟩
            replace HGB := Lib.hid (And.intro (keep2 HGB.out.1 hb1) (HGB.out.2.trans (hb1.mono HGB.out.2.size)))
            clear hx2 hb1
            have hx2 := lies2 HGB.out.1
            go_wp2_with fail
            refine (R1.out _).mono ?_
            rintro r w1 ⟨rfl, hb1⟩
            replace HGB := Lib.hid (And.intro (keep2 HGB.out.1 hb1) (HGB.out.2.trans (hb1.mono HGB.out.2.size)))
            clear hx2 hb1
            have hx2 := lies2 HGB.out.1
            go_wp2_with fail
            refine (LW.out _).mono ?_
            rintro r w1 ⟨rfl, rfl⟩
            go_wp2_with fail
            refine (awake_any _).mono ?_
            rintro r w9 ⟨rfl, hb9⟩
            go_wp2_with fail
            go_ret
            exact ⟨rfl, HGB.out.2.trans (hb9.mono HGB.out.2.size)⟩
          · rw [if_neg q3] at hwh
            subst hwh
            have g3 : (kx != 3) = true := by simpa using q3
            clear HWH
            go_wp2_with fail
            refine (R1.out _).mono ?_
            rintro r w1 ⟨rfl, hb1⟩
            replace HGB := Lib.hid (And.intro (keep2 HGB.out.1 hb1) (HGB.out.2.trans (hb1.mono HGB.out.2.size)))
            clear hx2 hb1
            have hx2 := lies2 HGB.out.1
            go_wp2_with fail
            refine (R1.out _).mono ?_
            rintro r w1 ⟨rfl, hb1⟩
            replace HGB := Lib.hid (And.intro (keep2 HGB.out.1 hb1) (HGB.out.2.trans (hb1.mono HGB.out.2.size)))
            clear hx2 hb1
            have hx2 := lies2 HGB.out.1
            go_wp2_with fail
            refine (awake_any _).mono ?_
            rintro r w9 ⟨rfl, hb9⟩
            go_wp2_with fail
            go_ret
            exact ⟨rfl, HGB.out.2.trans (hb9.mono HGB.out.2.size)⟩

set_option maxRecDepth 100000 in
theorem valueWorths_contract {H : Type} (enc : TypeId × Value → H) (W : World) (base : Nat) (args : Array Value) (ds gs : List (DataW H)) (before : List MemPlace)
    (hval : ∀ (j : Nat) t v, Try.f9.params[j]? = some t → args[j]? = some v → Value.okWide Try.prog W .any base t v)
    (hW : DataW.Whole enc Try.prog Try.f9.params.toList Rows.valueWorthsSpec.vars false W args.toList ds gs before)
    (hsz : (DataW.weightsEach Try.prog (Try.f9.params.toList ++ Rows.valueWorthsSpec.plain.varTypes Try.prog) (ds ++ gs)).all (· ≤ reachBytes) = true) :
    Calls Try.prog 9 args W fun e W' =>
      ((Rows.valueWorthsSpec.fn H (ds ++ gs)).results = [.lit (.bool true)] ∧ (Rows.valueWorthsSpec.fn H (ds ++ gs)).args = ds ∧ (Rows.valueWorthsSpec.fn H (ds ++ gs)).vars = []) ∧ e = .returned (.bool true) ∧ Below W.heap.size W W' := by
  obtain ⟨p, q, hA0, hV, rfl, hfz, hnd⟩ := hW
  have hA : DataW.TrodAll enc Try.prog W 0 (fun _ => true) true Try.f9.params.toList args.toList ds p := hA0
  rw [Try.params9] at hA hval hsz
  obtain ⟨v0, v1, d0, d1, p0, p1, rfl, rfl, rfl, h0, h1⟩ := trodAll_two hA
  obtain ⟨rfl, rfl⟩ := trodVars_none hV
  obtain ⟨x, rfl, ok_x⟩ := val_open (hval 0 24 v0 rfl rfl) h0
  obtain ⟨y, rfl, ok_y⟩ := val_open (hval 1 24 v1 rfl rfl) h1
  exact (valueWorths_walk x y ok_x ok_y W).mono fun e W' h => ⟨⟨rfl, rfl, rfl⟩, h⟩

end Go.Proofs.Ytmjfgnaecokhcaa
