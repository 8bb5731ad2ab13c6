/-
  The contract of ValueChains.
-/
import Derived.Test.YthajflnkcindbaaValL
import Derived.Test.YthajflnkcindbaaValArg
namespace Go.Proofs.Ythajflnkcindbaa
open Go.ChangeShapes Go.WideShapes Go.ChangeAt Go.RowKit
open Go.ChangeMaps (open_string shut_string)
set_option linter.unusedVariables false

theorem keep3 {W W' : World} {g g' g2 : Nat} {cs cs' cs2 : Array Value} {T : TypeId} (h : Has W g T cs ∧ Has W g' T cs' ∧ Has W g2 T cs2) (hb : Below W.heap.size W W') : Has W' g T cs ∧ Has W' g' T cs' ∧ Has W' g2 T cs2 :=
  ⟨h.1.below hb h.1.lt, h.2.1.below hb h.2.1.lt, h.2.2.below hb h.2.2.lt⟩
theorem lies3 {W : World} {g g' g2 : Nat} {k k' k2 : Int} {f f' f2 : Bool} {i i' i2 : Int} {b b' b2 : Nat} {t t' t2 : List UInt8} (h : Has W g 24 (vcs k f i b t) ∧ Has W g' 24 (vcs k' f' i' b' t') ∧ Has W g2 24 (vcs k2 f2 i2 b2 t2)) : Lies g k f i b t W ∧ Lies g' k' f' i' b' t' W ∧ Lies g2 k2 f2 i2 b2 t2 W :=
  ⟨lies h.1, lies h.2.1, lies h.2.2⟩

set_option maxRecDepth 100000 in
set_option maxHeartbeats 2000000 in
theorem valueChains_walk (x y z : Val) (hx : x.ok) (hy : y.ok) (hz : z.ok) (w : World) :
    Calls Try.prog 4 #[x.v, y.v, z.v] w fun e w' => e = .returned (.bool true) ∧ Below w.heap.size w w' := by
  have r1 := fun W => lright_any x hx W
  have r2 := fun W => lright_any y hy W
  have r3 := fun W => lright_any z hz W
  have c1 := fun W => compare_any x y hx hy W
  have c2 := fun W => compare_any y z hy hz W
  have c3 := fun W => compare_any x z hx hz W
  have ht := cmp_trans x y z
  generalize x.right = rx at r1
  generalize y.right = ry at r2
  generalize z.right = rz at r3
  generalize Val.cmp x y = k1 at c1 ht
  generalize Val.cmp y z = k2 at c2 ht
  generalize Val.cmp x z = k3 at c3 ht
  obtain ⟨kx, fx, ix, bx, tx⟩ := x
  obtain ⟨ky, fy, iy, by', ty⟩ := y
  obtain ⟨kz, fz, iz, bz, tz⟩ := z
  rw [Val.v_eq kx fx ix bx tx] at r1 c1 c3 ⊢
  rw [Val.v_eq ky fy iy by' ty] at r2 c1 c2 ⊢
  rw [Val.v_eq kz fz iz bz tz] at r3 c2 c3 ⊢
  have R1 := Lib.hid r1; clear r1
  have R2 := Lib.hid r2; clear r2
  have R3 := Lib.hid r3; clear r3
  have C1 := Lib.hid c1; clear c1
  have C2 := Lib.hid c2; clear c2
  have C3 := Lib.hid c3; clear c3
  clear hx hy hz
  have HG0 : (Has (((w.alloc (.cells (vcs kx fx ix bx tx) 24)).alloc (.cells (vcs ky fy iy by' ty) 24)).alloc (.cells (vcs kz fz iz bz tz) 24)) w.heap.size 24 (vcs kx fx ix bx tx) ∧ Has (((w.alloc (.cells (vcs kx fx ix bx tx) 24)).alloc (.cells (vcs ky fy iy by' ty) 24)).alloc (.cells (vcs kz fz iz bz tz) 24)) (w.heap.size + 1) 24 (vcs ky fy iy by' ty) ∧ Has (((w.alloc (.cells (vcs kx fx ix bx tx) 24)).alloc (.cells (vcs ky fy iy by' ty) 24)).alloc (.cells (vcs kz fz iz bz tz) 24)) (w.heap.size + 1 + 1) 24 (vcs kz fz iz bz tz)) ∧ Below w.heap.size w (((w.alloc (.cells (vcs kx fx ix bx tx) 24)).alloc (.cells (vcs ky fy iy by' ty) 24)).alloc (.cells (vcs kz fz iz bz tz) 24)) :=
    ⟨⟨((Has.made w _ _).of_alloc _).of_alloc _, has_mid _ _ _ _ _, by
      have h := Has.made ((w.alloc (.cells (vcs kx fx ix bx tx) 24)).alloc (.cells (vcs ky fy iy by' ty) 24)) 24 (vcs kz fz iz bz tz)
      simpa using h⟩, up3 _ _ _⟩
  have HGB := Lib.hid HG0
  have hx := lies3 HG0.1
  clear HG0
  go_enter Try.func4, Try.ntmps4
  go_wp2_with fail
  refine (R1.out _).mono ?_
  rintro r w1 ⟨rfl, hb1⟩
  replace HGB := Lib.hid (And.intro (keep3 HGB.out.1 hb1) (HGB.out.2.trans (hb1.mono HGB.out.2.size)))
  clear hx hb1
  have hx := lies3 HGB.out.1
  cases rx
  · go_wp2_with fail
    refine (awake_any _).mono ?_
    rintro r w9 ⟨rfl, hb9⟩
    go_wp2_with fail
    go_ret
    exact ⟨rfl, HGB.out.2.trans (hb9.mono HGB.out.2.size)⟩
  · go_wp2_with fail
    refine (R2.out _).mono ?_
    rintro r w1 ⟨rfl, hb1⟩
    replace HGB := Lib.hid (And.intro (keep3 HGB.out.1 hb1) (HGB.out.2.trans (hb1.mono HGB.out.2.size)))
    clear hx hb1
    have hx := lies3 HGB.out.1
    cases ry
    · go_wp2_with fail
      refine (awake_any _).mono ?_
      rintro r w9 ⟨rfl, hb9⟩
      go_wp2_with fail
      go_ret
      exact ⟨rfl, HGB.out.2.trans (hb9.mono HGB.out.2.size)⟩
    · go_wp2_with fail
      refine (R3.out _).mono ?_
      rintro r w1 ⟨rfl, hb1⟩
      replace HGB := Lib.hid (And.intro (keep3 HGB.out.1 hb1) (HGB.out.2.trans (hb1.mono HGB.out.2.size)))
      clear hx hb1
      have hx := lies3 HGB.out.1
      cases rz
      · go_wp2_with fail
        refine (awake_any _).mono ?_
        rintro r w9 ⟨rfl, hb9⟩
        go_wp2_with fail
        go_ret
        exact ⟨rfl, HGB.out.2.trans (hb9.mono HGB.out.2.size)⟩
      · go_wp2_with fail
        refine (C1.out _).mono ?_
        rintro r w1 ⟨rfl, hb1⟩
        replace HGB := Lib.hid (And.intro (keep3 HGB.out.1 hb1) (HGB.out.2.trans (hb1.mono HGB.out.2.size)))
        clear hx hb1
        have hx := lies3 HGB.out.1
        by_cases qk1 : 0 < k1
        · go_wp2_with fail
          refine (awake_any _).mono ?_
          rintro r w9 ⟨rfl, hb9⟩
          go_wp2_with fail
          go_ret
          exact ⟨rfl, HGB.out.2.trans (hb9.mono HGB.out.2.size)⟩
        · go_wp2_with fail
          refine (C2.out _).mono ?_
          rintro r w1 ⟨rfl, hb1⟩
          replace HGB := Lib.hid (And.intro (keep3 HGB.out.1 hb1) (HGB.out.2.trans (hb1.mono HGB.out.2.size)))
          clear hx hb1
          have hx := lies3 HGB.out.1
          by_cases qk2 : 0 < k2
          · go_wp2_with fail
            refine (awake_any _).mono ?_
            rintro r w9 ⟨rfl, hb9⟩
            go_wp2_with fail
            go_ret
            exact ⟨rfl, HGB.out.2.trans (hb9.mono HGB.out.2.size)⟩
          · have hk3 := ht (by omega) (by omega)
            go_wp2_with fail
            refine (C3.out _).mono ?_
            rintro r w1 ⟨rfl, hb1⟩
            replace HGB := Lib.hid (And.intro (keep3 HGB.out.1 hb1) (HGB.out.2.trans (hb1.mono HGB.out.2.size)))
            clear hx hb1
            have hx := lies3 HGB.out.1
            go_wp2_with fail
            refine (awake_any _).mono ?_
            rintro r w9 ⟨rfl, hb9⟩
            go_wp2_with fail
            go_ret
            exact ⟨rfl, HGB.out.2.trans (hb9.mono HGB.out.2.size)⟩

set_option maxRecDepth 100000 in
theorem valueChains_contract {H : Type} (enc : TypeId × Value → H) (W : World) (base : Nat) (args : Array Value) (ds gs : List (DataW H)) (before : List MemPlace)
    (hval : ∀ (j : Nat) t v, Try.f4.params[j]? = some t → args[j]? = some v → Value.okWide Try.prog W .any base t v)
    (hW : DataW.Whole enc Try.prog Try.f4.params.toList Rows.valueChainsSpec.vars false W args.toList ds gs before)
    (hsz : (DataW.weightsEach Try.prog (Try.f4.params.toList ++ Rows.valueChainsSpec.plain.varTypes Try.prog) (ds ++ gs)).all (· ≤ reachBytes) = true) :
    Calls Try.prog 4 args W fun e W' =>
      ((Rows.valueChainsSpec.fn H (ds ++ gs)).results = [.lit (.bool true)] ∧ (Rows.valueChainsSpec.fn H (ds ++ gs)).args = ds ∧ (Rows.valueChainsSpec.fn H (ds ++ gs)).vars = []) ∧ e = .returned (.bool true) ∧ Below W.heap.size W W' := by
  obtain ⟨p, q, hA0, hV, rfl, hfz, hnd⟩ := hW
  have hA : DataW.TrodAll enc Try.prog W 0 (fun _ => true) true Try.f4.params.toList args.toList ds p := hA0
  rw [Try.params4] at hA hval hsz
  obtain ⟨v0, v1, v2, d0, d1, d2, p0, p1, p2, rfl, rfl, rfl, h0, h1, h2⟩ := trodAll_three hA
  obtain ⟨rfl, rfl⟩ := trodVars_none hV
  obtain ⟨x, rfl, ok_x⟩ := val_open (hval 0 24 v0 rfl rfl) h0
  obtain ⟨y, rfl, ok_y⟩ := val_open (hval 1 24 v1 rfl rfl) h1
  obtain ⟨z, rfl, ok_z⟩ := val_open (hval 2 24 v2 rfl rfl) h2
  exact (valueChains_walk x y z ok_x ok_y ok_z W).mono fun e W' h => ⟨⟨rfl, rfl, rfl⟩, h⟩

end Go.Proofs.Ythajflnkcindbaa
