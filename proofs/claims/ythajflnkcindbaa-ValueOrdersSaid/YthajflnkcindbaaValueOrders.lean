/-
  The contract of ValueOrders.
-/
import Derived.Test.YthajflnkcindbaaValM
import Derived.Test.YthajflnkcindbaaValInj
import Derived.Test.YthajflnkcindbaaValArg
namespace Go.Proofs.Ythajflnkcindbaa
open Go.ChangeShapes Go.WideShapes Go.ChangeAt Go.RowKit
open Go.ChangeMaps (open_string shut_string)
set_option linter.unusedVariables false

theorem keep2 {W W' : World} {g g' : Nat} {cs cs' : Array Value} {T T' : TypeId} (h : Has W g T cs ∧ Has W g' T' cs') (hb : Below W.heap.size W W') : Has W' g T cs ∧ Has W' g' T' cs' :=
  ⟨h.1.below hb h.1.lt, h.2.below hb h.2.lt⟩
theorem lies2 {W : World} {g g' : Nat} {k k' : Int} {f f' : Bool} {i i' : Int} {b b' : Nat} {t t' : List UInt8} (h : Has W g 24 (vcs k f i b t) ∧ Has W g' 24 (vcs k' f' i' b' t')) : Lies g k f i b t W ∧ Lies g' k' f' i' b' t' W :=
  ⟨lies h.1, lies h.2⟩
theorem cmp_three (x y : Val) : Val.cmp x y = -1 ∨ Val.cmp x y = 0 ∨ Val.cmp x y = 1 := by
  unfold Val.cmp cmpOf
  cases Val.less x y <;> cases Val.less y x <;> simp

set_option maxRecDepth 100000 in
set_option maxHeartbeats 2000000 in
theorem valueOrders_walk (x y : Val) (hx : x.ok) (hy : y.ok) (w : World) :
    Calls Try.prog 3 #[x.v, y.v] w fun e w' => e = .returned (.bool true) ∧ Below w.heap.size w w' := by
  have r1 := fun W => lright_any x hx W
  have r2 := fun W => lright_any y hy W
  have c1 := fun W => compare_any x y hx hy W
  have c2 := fun W => compare_any y x hy hx W
  have c3 := fun W => order_any x y hx hy W
  have b1 := fun h W => lbytes_any x hx h W
  have b2 := fun h W => lbytes_any y hy h W
  have hanti := cmp_anti x y
  have h3 := cmp_three x y
  have hz := fun h h' => cmp_zero (a := x) (b := y) hx hy h h'
  have hinj := fun h h' => enc_inj (a := x) (b := y) hx hy h h'
  have hE := fun W => run_veq x y W
  have hd : x.right = true → y.right = true → decide (x = y) = (Val.cmp x y == 0) := fun h h' => by
    rw [Bool.eq_iff_iff, decide_eq_true_iff, beq_iff_eq, hz h h']
  have he : x.right = true → y.right = true → (x.enc == y.enc) = (Val.cmp x y == 0) := fun h h' => by
    rw [Bool.eq_iff_iff, beq_iff_eq, beq_iff_eq, hz h h']
    exact ⟨hinj h h', fun e => by rw [e]⟩
  have hG := fun op o1 o2 W => run_vguard op o1 o2 x y W
  clear hz hinj
  rw [hanti] at c2
  generalize decide (x = y) = d at hE hd
  generalize x.right = rx at r1 b1 hd he
  generalize y.right = ry at r2 b2 hd he
  generalize Val.cmp x y = c at c1 c2 c3 h3 hd he
  generalize x.enc = ex at b1 he
  generalize y.enc = ey at b2 he
  obtain ⟨kx, fx, ix, bx, tx⟩ := x
  obtain ⟨ky, fy, iy, by', ty⟩ := y
  rw [Val.v_eq kx fx ix bx tx] at r1 c1 c2 c3 b1 ⊢
  rw [Val.v_eq ky fy iy by' ty] at r2 c1 c2 c3 b2 ⊢
  have hE' : ∀ W, (binOp .eql 24 (.agg (vcs kx fx ix bx tx)) (.agg (vcs ky fy iy by' ty))).run Try.prog W = .ok (.bool d) W := hE
  have hG' : ∀ op o1 o2 W, (eqGuard op 24 o1 o2 (.agg (vcs kx fx ix bx tx)) (.agg (vcs ky fy iy by' ty))).run Try.prog W = .ok () W := hG
  clear hE hG hx hy hanti
  have R1 := Lib.hid r1; clear r1
  have R2 := Lib.hid r2; clear r2
  have C1 := Lib.hid c1; clear c1
  have C2 := Lib.hid c2; clear c2
  have C3 := Lib.hid c3; clear c3
  have B1 := Lib.hid b1; clear b1
  have B2 := Lib.hid b2; clear b2
  have HG0 : (Has ((w.alloc (.cells (vcs kx fx ix bx tx) 24)).alloc (.cells (vcs ky fy iy by' ty) 24)) w.heap.size 24 (vcs kx fx ix bx tx) ∧ Has ((w.alloc (.cells (vcs kx fx ix bx tx) 24)).alloc (.cells (vcs ky fy iy by' ty) 24)) (w.heap.size + 1) 24 (vcs ky fy iy by' ty)) ∧ Below w.heap.size w ((w.alloc (.cells (vcs kx fx ix bx tx) 24)).alloc (.cells (vcs ky fy iy by' ty) 24)) :=
    ⟨⟨(Has.made w _ _).of_alloc _, has_new _ _ _ _⟩, up2 _ _⟩
  have HGB := Lib.hid HG0
  have hx := lies2 HG0.1
  clear HG0
  have HDE := Lib.hid (And.intro hd he); clear hd he
  go_enter Try.func3, Try.ntmps3
  go_wp2_with fail
  refine (R1.out _).mono ?_
  rintro r w1 ⟨rfl, hb1⟩
  replace HGB := Lib.hid (And.intro (keep2 HGB.out.1 hb1) (HGB.out.2.trans (hb1.mono HGB.out.2.size)))
  clear hx hb1
  have hx := lies2 HGB.out.1
  cases rx
  · go_wp2_with fail
    refine (awake_any _).mono ?_
    rintro r w9 ⟨rfl, hb9⟩
    go_wp2_with fail
    go_ret
    exact ⟨rfl, HGB.out.2.trans (hb9.mono HGB.out.2.size)⟩
  go_wp2_with fail
  refine (R2.out _).mono ?_
  rintro r w1 ⟨rfl, hb1⟩
  replace HGB := Lib.hid (And.intro (keep2 HGB.out.1 hb1) (HGB.out.2.trans (hb1.mono HGB.out.2.size)))
  clear hx hb1
  have hx := lies2 HGB.out.1
  cases ry
  · go_wp2_with fail
    refine (awake_any _).mono ?_
    rintro r w9 ⟨rfl, hb9⟩
    go_wp2_with fail
    go_ret
    exact ⟨rfl, HGB.out.2.trans (hb9.mono HGB.out.2.size)⟩
  have HD := Lib.hid (And.intro (HDE.out.1 (by trivial) (by trivial)) (HDE.out.2 (by trivial) (by trivial)))
  clear HDE
  rcases h3 with rfl | rfl | rfl
  all_goals
    have hdd := HD.out.1
    have hee := HD.out.2
    simp only [Int.reduceBEq, Int.reduceNeg] at hdd hee
    subst hdd
    go_wp2_with fail
    refine (C1.out _).mono ?_
    rintro r w1 ⟨rfl, hb1⟩
    replace HGB := Lib.hid (And.intro (keep2 HGB.out.1 hb1) (HGB.out.2.trans (hb1.mono HGB.out.2.size)))
    clear hx hb1
    have hx := lies2 HGB.out.1
    go_upto_region 4 with (fail)
    have HX2 : Has w1.drew w.heap.size 24 (vcs kx fx ix bx tx) ∧ Has w1.drew (w.heap.size + 1) 24 (vcs ky fy iy by' ty) := HGB.out.1
    replace HGB := Lib.hid (And.intro HX2 HGB.out.2.drew)
    clear hx
    have hx := lies2 HX2
    clear HX2
    refine wp_region_held_drew (S := fun W => Lies w.heap.size kx fx ix bx tx W ∧ Lies (w.heap.size + 1) ky fy iy by' ty W) (by kernel_rfl) hx (fun hHeld => ?_)
    first
    | (refine take_wanted (i := 0) (v := ?_) rfl rfl (by kernel_rfl) (by kernel_rfl) (by kernel_rfl) (fun _ _ _ h => h) (by rfl) (by assumption) ?_ ?_; rotate_left; (focus (intro w hSw; (try dsimp only at hSw); go_simp; first | done | with_reducible rfl)); (simp only [Act.at, List.setIfInBounds_toArray, List.set_cons_zero, List.set_cons_succ]))
    | (refine take_unwanted (i := 0) rfl rfl (by kernel_rfl) (by kernel_rfl) (by kernel_rfl) (fun _ _ _ h => h) (by rfl) (by assumption) ?_; (simp only [Act.at, List.setIfInBounds_toArray, List.set_cons_zero, List.set_cons_succ]))
    first
    | (refine take_wanted (i := 1) (v := ?_) rfl rfl (by kernel_rfl) (by kernel_rfl) (by kernel_rfl) (fun _ _ _ h => h) (by rfl) (by assumption) ?_ ?_; rotate_left; (focus (intro w hSw; (try dsimp only at hSw); go_simp; first | done | with_reducible rfl)); (simp only [Act.at, List.setIfInBounds_toArray, List.set_cons_zero, List.set_cons_succ]))
    | (refine take_unwanted (i := 1) rfl rfl (by kernel_rfl) (by kernel_rfl) (by kernel_rfl) (fun _ _ _ h => h) (by rfl) (by assumption) ?_; (simp only [Act.at, List.setIfInBounds_toArray, List.set_cons_zero, List.set_cons_succ]))
    first
    | (refine take_wanted (i := 2) (v := ?_) rfl rfl (by kernel_rfl) (by kernel_rfl) (by kernel_rfl) (fun _ _ _ h => h) (by rfl) (by assumption) ?_ ?_; rotate_left; (focus (intro w hSw; (try dsimp only at hSw); go_simp; first | done | with_reducible rfl)); (simp only [Act.at, List.setIfInBounds_toArray, List.set_cons_zero, List.set_cons_succ]))
    | (refine take_unwanted (i := 2) rfl rfl (by kernel_rfl) (by kernel_rfl) (by kernel_rfl) (fun _ _ _ h => h) (by rfl) (by assumption) ?_; (simp only [Act.at, List.setIfInBounds_toArray, List.set_cons_zero, List.set_cons_succ]))
    refine take_call (i := 3) (by kernel_rfl) rfl rfl (by rfl) (fun K hK => ?_)
    go_simp
    refine (C3.out _).mono ?_
    rintro r w1 ⟨rfl, hb1⟩
    replace HGB := Lib.hid (And.intro (keep2 HGB.out.1 hb1) (HGB.out.2.trans (hb1.mono HGB.out.2.size)))
    clear hx
    have hx := lies2 HGB.out.1
    clear hb1
    refine hK.out _ _ hx (fun hHeld => ?_)
    clear hK K
    try simp only [Act.put, List.setIfInBounds_toArray, List.set_cons_zero, List.set_cons_succ]
    first
    | (refine take_wanted (i := 4) (v := ?_) rfl rfl (by kernel_rfl) (by kernel_rfl) (by kernel_rfl) (fun _ _ _ h => h) (by rfl) (by assumption) ?_ ?_; rotate_left; (focus (intro w hSw; (try dsimp only at hSw); go_simp; first | done | with_reducible rfl)); (simp only [Act.at, List.setIfInBounds_toArray, List.set_cons_zero, List.set_cons_succ]))
    | (refine take_unwanted (i := 4) rfl rfl (by kernel_rfl) (by kernel_rfl) (by kernel_rfl) (fun _ _ _ h => h) (by rfl) (by assumption) ?_; (simp only [Act.at, List.setIfInBounds_toArray, List.set_cons_zero, List.set_cons_succ]))
    first
    | (refine take_wanted (i := 5) (v := ?_) rfl rfl (by kernel_rfl) (by kernel_rfl) (by kernel_rfl) (fun _ _ _ h => h) (by rfl) (by assumption) ?_ ?_; rotate_left; (focus (intro w hSw; (try dsimp only at hSw); go_simp; first | done | with_reducible rfl)); (simp only [Act.at, List.setIfInBounds_toArray, List.set_cons_zero, List.set_cons_succ]))
    | (refine take_unwanted (i := 5) rfl rfl (by kernel_rfl) (by kernel_rfl) (by kernel_rfl) (fun _ _ _ h => h) (by rfl) (by assumption) ?_; (simp only [Act.at, List.setIfInBounds_toArray, List.set_cons_zero, List.set_cons_succ]))
    first
    | (refine take_wanted (i := 6) (v := ?_) rfl rfl (by kernel_rfl) (by kernel_rfl) (by kernel_rfl) (fun _ _ _ h => h) (by rfl) (by assumption) ?_ ?_; rotate_left; (focus (intro w hSw; (try dsimp only at hSw); go_simp; first | done | with_reducible rfl)); (simp only [Act.at, List.setIfInBounds_toArray, List.set_cons_zero, List.set_cons_succ]))
    | (refine take_unwanted (i := 6) rfl rfl (by kernel_rfl) (by kernel_rfl) (by kernel_rfl) (fun _ _ _ h => h) (by rfl) (by assumption) ?_; (simp only [Act.at, List.setIfInBounds_toArray, List.set_cons_zero, List.set_cons_succ]))
    first
    | (refine take_wanted (i := 7) (v := ?_) rfl rfl (by kernel_rfl) (by kernel_rfl) (by kernel_rfl) (fun _ _ _ h => h) (by rfl) (by assumption) ?_ ?_; rotate_left; (focus (intro w hSw; (try dsimp only at hSw); go_simp; first | done | with_reducible rfl)); (simp only [Act.at, List.setIfInBounds_toArray, List.set_cons_zero, List.set_cons_succ]))
    | (refine take_unwanted (i := 7) rfl rfl (by kernel_rfl) (by kernel_rfl) (by kernel_rfl) (fun _ _ _ h => h) (by rfl) (by assumption) ?_; (simp only [Act.at, List.setIfInBounds_toArray, List.set_cons_zero, List.set_cons_succ]))
    first
    | (refine take_wanted (i := 9) (v := ?_) rfl rfl (by kernel_rfl) (by kernel_rfl) (by kernel_rfl) (fun _ _ _ h => h) (by rfl) (by assumption) ?_ ?_; rotate_left; (focus (intro w hSw; (try dsimp only at hSw); go_simp; first | done | with_reducible rfl)); (simp only [Act.at, List.setIfInBounds_toArray, List.set_cons_zero, List.set_cons_succ]))
    | (refine take_unwanted (i := 9) rfl rfl (by kernel_rfl) (by kernel_rfl) (by kernel_rfl) (fun _ _ _ h => h) (by rfl) (by assumption) ?_; (simp only [Act.at, List.setIfInBounds_toArray, List.set_cons_zero, List.set_cons_succ]))
    first
    | (refine take_wanted (i := 10) (v := ?_) rfl rfl (by kernel_rfl) (by kernel_rfl) (by kernel_rfl) (fun _ _ _ h => h) (by rfl) (by assumption) ?_ ?_; rotate_left; (focus (intro w hSw; (try dsimp only at hSw); go_simp; first | done | with_reducible rfl)); (simp only [Act.at, List.setIfInBounds_toArray, List.set_cons_zero, List.set_cons_succ]))
    | (refine take_unwanted (i := 10) rfl rfl (by kernel_rfl) (by kernel_rfl) (by kernel_rfl) (fun _ _ _ h => h) (by rfl) (by assumption) ?_; (simp only [Act.at, List.setIfInBounds_toArray, List.set_cons_zero, List.set_cons_succ]))
    refine take_call (i := 8) (by kernel_rfl) rfl rfl (by rfl) (fun K hK => ?_)
    go_simp
    refine (C2.out _).mono ?_
    rintro r w1 ⟨rfl, hb1⟩
    replace HGB := Lib.hid (And.intro (keep2 HGB.out.1 hb1) (HGB.out.2.trans (hb1.mono HGB.out.2.size)))
    clear hx
    have hx := lies2 HGB.out.1
    clear hb1
    refine hK.out _ _ hx (fun hHeld => ?_)
    clear hK K
    try simp only [Act.put, List.setIfInBounds_toArray, List.set_cons_zero, List.set_cons_succ]
    first
    | (refine take_wanted (i := 11) (v := ?_) rfl rfl (by kernel_rfl) (by kernel_rfl) (by kernel_rfl) (fun _ _ _ h => h) (by rfl) (by assumption) ?_ ?_; rotate_left; (focus (intro w hSw; (try dsimp only at hSw); go_simp; first | done | with_reducible rfl)); (simp only [Act.at, List.setIfInBounds_toArray, List.set_cons_zero, List.set_cons_succ]))
    | (refine take_unwanted (i := 11) rfl rfl (by kernel_rfl) (by kernel_rfl) (by kernel_rfl) (fun _ _ _ h => h) (by rfl) (by assumption) ?_; (simp only [Act.at, List.setIfInBounds_toArray, List.set_cons_zero, List.set_cons_succ]))
    first
    | (refine take_wanted (i := 12) (v := ?_) rfl rfl (by kernel_rfl) (by kernel_rfl) (by kernel_rfl) (fun _ _ _ h => h) (by rfl) (by assumption) ?_ ?_; rotate_left; (focus (intro w hSw; (try dsimp only at hSw); go_simp; first | done | with_reducible rfl)); (simp only [Act.at, List.setIfInBounds_toArray, List.set_cons_zero, List.set_cons_succ]))
    | (refine take_unwanted (i := 12) rfl rfl (by kernel_rfl) (by kernel_rfl) (by kernel_rfl) (fun _ _ _ h => h) (by rfl) (by assumption) ?_; (simp only [Act.at, List.setIfInBounds_toArray, List.set_cons_zero, List.set_cons_succ]))
    first
    | (refine take_wanted (i := 13) (v := ?_) rfl rfl (by kernel_rfl) (by kernel_rfl) (by kernel_rfl) (fun _ _ _ h => h) (by rfl) (by assumption) ?_ ?_; rotate_left; (focus (intro w hSw; (try dsimp only at hSw); go_simp; first | done | with_reducible rfl)); (simp only [Act.at, List.setIfInBounds_toArray, List.set_cons_zero, List.set_cons_succ]))
    | (refine take_unwanted (i := 13) rfl rfl (by kernel_rfl) (by kernel_rfl) (by kernel_rfl) (fun _ _ _ h => h) (by rfl) (by assumption) ?_; (simp only [Act.at, List.setIfInBounds_toArray, List.set_cons_zero, List.set_cons_succ]))
    first
    | (refine take_wanted (i := 14) (v := ?_) rfl rfl (by kernel_rfl) (by kernel_rfl) (by kernel_rfl) (fun _ _ _ h => h) (by rfl) (by assumption) ?_ ?_; rotate_left; (focus (intro w hSw; (try dsimp only at hSw); go_simp; first | done | with_reducible rfl)); (simp only [Act.at, List.setIfInBounds_toArray, List.set_cons_zero, List.set_cons_succ]))
    | (refine take_unwanted (i := 14) rfl rfl (by kernel_rfl) (by kernel_rfl) (by kernel_rfl) (fun _ _ _ h => h) (by rfl) (by assumption) ?_; (simp only [Act.at, List.setIfInBounds_toArray, List.set_cons_zero, List.set_cons_succ]))
    first
    | (refine take_wanted (i := 15) (v := ?_) rfl rfl (by kernel_rfl) (by kernel_rfl) (by kernel_rfl) (fun _ _ _ h => h) (by rfl) (by assumption) ?_ ?_; rotate_left; (focus (intro w hSw; (try dsimp only at hSw); go_simp; first | done | with_reducible rfl)); (simp only [Act.at, List.setIfInBounds_toArray, List.set_cons_zero, List.set_cons_succ]))
    | (refine take_unwanted (i := 15) rfl rfl (by kernel_rfl) (by kernel_rfl) (by kernel_rfl) (fun _ _ _ h => h) (by rfl) (by assumption) ?_; (simp only [Act.at, List.setIfInBounds_toArray, List.set_cons_zero, List.set_cons_succ]))
    first
    | (refine take_wanted (i := 16) (v := ?_) rfl rfl (by kernel_rfl) (by kernel_rfl) (by kernel_rfl) (fun _ _ _ h => h) (by rfl) (by assumption) ?_ ?_; rotate_left; (focus (intro w hSw; (try dsimp only at hSw); go_simp; first | done | with_reducible rfl)); (simp only [Act.at, List.setIfInBounds_toArray, List.set_cons_zero, List.set_cons_succ]))
    | (refine take_unwanted (i := 16) rfl rfl (by kernel_rfl) (by kernel_rfl) (by kernel_rfl) (fun _ _ _ h => h) (by rfl) (by assumption) ?_; (simp only [Act.at, List.setIfInBounds_toArray, List.set_cons_zero, List.set_cons_succ]))
    first
    | (refine take_wanted (i := 17) (v := ?_) rfl rfl (by kernel_rfl) (by kernel_rfl) (by kernel_rfl) (fun _ _ _ h => h) (by rfl) (by assumption) ?_ ?_; rotate_left; (focus (intro w hSw; (try dsimp only at hSw); go_simp; first | done | with_reducible rfl)); (simp only [Act.at, List.setIfInBounds_toArray, List.set_cons_zero, List.set_cons_succ]))
    | (refine take_unwanted (i := 17) rfl rfl (by kernel_rfl) (by kernel_rfl) (by kernel_rfl) (fun _ _ _ h => h) (by rfl) (by assumption) ?_; (simp only [Act.at, List.setIfInBounds_toArray, List.set_cons_zero, List.set_cons_succ]))
    first
    | (refine take_wanted (i := 18) (v := ?_) rfl rfl (by kernel_rfl) (by kernel_rfl) (by kernel_rfl) (fun _ _ _ h => h) (by rfl) (by assumption) ?_ ?_; rotate_left; (focus (intro w hSw; (try dsimp only at hSw); go_simp; first | done | with_reducible rfl)); (simp only [Act.at, List.setIfInBounds_toArray, List.set_cons_zero, List.set_cons_succ]))
    | (refine take_unwanted (i := 18) rfl rfl (by kernel_rfl) (by kernel_rfl) (by kernel_rfl) (fun _ _ _ h => h) (by rfl) (by assumption) ?_; (simp only [Act.at, List.setIfInBounds_toArray, List.set_cons_zero, List.set_cons_succ]))
    first
    | (refine take_wanted (i := 19) (v := ?_) rfl rfl (by kernel_rfl) (by kernel_rfl) (by kernel_rfl) (fun _ _ _ h => h) (by rfl) (by assumption) ?_ ?_; rotate_left; (focus (intro w hSw; (try dsimp only at hSw); go_simp; first | done | with_reducible rfl)); (simp only [Act.at, List.setIfInBounds_toArray, List.set_cons_zero, List.set_cons_succ]))
    | (refine take_unwanted (i := 19) rfl rfl (by kernel_rfl) (by kernel_rfl) (by kernel_rfl) (fun _ _ _ h => h) (by rfl) (by assumption) ?_; (simp only [Act.at, List.setIfInBounds_toArray, List.set_cons_zero, List.set_cons_succ]))
    first
    | (refine take_wanted (i := 20) (v := ?_) rfl rfl (by kernel_rfl) (by kernel_rfl) (by kernel_rfl) (fun _ _ _ h => h) (by rfl) (by assumption) ?_ ?_; rotate_left; (focus (intro w hSw; (try dsimp only at hSw); go_simp; first | done | with_reducible rfl)); (simp only [Act.at, List.setIfInBounds_toArray, List.set_cons_zero, List.set_cons_succ]))
    | (refine take_unwanted (i := 20) rfl rfl (by kernel_rfl) (by kernel_rfl) (by kernel_rfl) (fun _ _ _ h => h) (by rfl) (by assumption) ?_; (simp only [Act.at, List.setIfInBounds_toArray, List.set_cons_zero, List.set_cons_succ]))
    first
    | (refine take_wanted (i := 21) (v := ?_) rfl rfl (by kernel_rfl) (by kernel_rfl) (by kernel_rfl) (fun _ _ _ h => h) (by rfl) (by assumption) ?_ ?_; rotate_left; (focus (intro w hSw; (try dsimp only at hSw); go_simp; first | done | with_reducible rfl)); (simp only [Act.at, List.setIfInBounds_toArray, List.set_cons_zero, List.set_cons_succ]))
    | (refine take_unwanted (i := 21) rfl rfl (by kernel_rfl) (by kernel_rfl) (by kernel_rfl) (fun _ _ _ h => h) (by rfl) (by assumption) ?_; (simp only [Act.at, List.setIfInBounds_toArray, List.set_cons_zero, List.set_cons_succ]))
    first
    | (refine take_wanted (i := 22) (v := ?_) rfl rfl (by kernel_rfl) (by kernel_rfl) (by kernel_rfl) (fun _ _ _ h => h) (by rfl) (by assumption) ?_ ?_; rotate_left; (focus (intro w hSw; (try dsimp only at hSw); go_simp; first | done | with_reducible rfl)); (simp only [Act.at, List.setIfInBounds_toArray, List.set_cons_zero, List.set_cons_succ]))
    | (refine take_unwanted (i := 22) rfl rfl (by kernel_rfl) (by kernel_rfl) (by kernel_rfl) (fun _ _ _ h => h) (by rfl) (by assumption) ?_; (simp only [Act.at, List.setIfInBounds_toArray, List.set_cons_zero, List.set_cons_succ]))
    first
    | (refine take_wanted (i := 23) (v := ?_) rfl rfl (by kernel_rfl) (by kernel_rfl) (by kernel_rfl) (fun _ _ _ h => h) (by rfl) (by assumption) ?_ ?_; rotate_left; (focus (intro w hSw; (try dsimp only at hSw); go_simp; first | done | with_reducible rfl)); (simp only [Act.at, List.setIfInBounds_toArray, List.set_cons_zero, List.set_cons_succ]))
    | (refine take_unwanted (i := 23) rfl rfl (by kernel_rfl) (by kernel_rfl) (by kernel_rfl) (fun _ _ _ h => h) (by rfl) (by assumption) ?_; (simp only [Act.at, List.setIfInBounds_toArray, List.set_cons_zero, List.set_cons_succ]))
    first
    | (refine take_wanted (i := 24) (v := ?_) rfl rfl (by kernel_rfl) (by kernel_rfl) (by kernel_rfl) (fun _ _ _ h => h) (by rfl) (by assumption) ?_ ?_; rotate_left; (focus (intro w hSw; (try dsimp only at hSw); go_simp; first | done | with_reducible rfl)); (simp only [Act.at, List.setIfInBounds_toArray, List.set_cons_zero, List.set_cons_succ]))
    | (refine take_unwanted (i := 24) rfl rfl (by kernel_rfl) (by kernel_rfl) (by kernel_rfl) (fun _ _ _ h => h) (by rfl) (by assumption) ?_; (simp only [Act.at, List.setIfInBounds_toArray, List.set_cons_zero, List.set_cons_succ]))
    first
    | (refine take_wanted (i := 26) (v := ?_) rfl rfl (by kernel_rfl) (by kernel_rfl) (by kernel_rfl) (fun _ _ _ h => h) (by rfl) (by assumption) ?_ ?_; rotate_left; (focus (intro w hSw; (try dsimp only at hSw); go_simp; first | done | with_reducible rfl)); (simp only [Act.at, List.setIfInBounds_toArray, List.set_cons_zero, List.set_cons_succ]))
    | (refine take_unwanted (i := 26) rfl rfl (by kernel_rfl) (by kernel_rfl) (by kernel_rfl) (fun _ _ _ h => h) (by rfl) (by assumption) ?_; (simp only [Act.at, List.setIfInBounds_toArray, List.set_cons_zero, List.set_cons_succ]))
    refine take_call (i := 25) (by kernel_rfl) rfl rfl (by rfl) (fun K hK => ?_)
    go_simp
    refine (B1.out (by trivial) _).mono ?_
    rintro r w1 ⟨rfl, hb1⟩
    replace HGB := Lib.hid (And.intro (keep2 HGB.out.1 hb1) (HGB.out.2.trans (hb1.mono HGB.out.2.size)))
    clear hx
    have hx := lies2 HGB.out.1
    clear hb1
    refine hK.out _ _ hx (fun hHeld => ?_)
    clear hK K
    try simp only [Act.put, List.setIfInBounds_toArray, List.set_cons_zero, List.set_cons_succ]
    refine take_call (i := 27) (by kernel_rfl) rfl rfl (by rfl) (fun K hK => ?_)
    go_simp
    refine (B2.out (by trivial) _).mono ?_
    rintro r w1 ⟨rfl, hb1⟩
    replace HGB := Lib.hid (And.intro (keep2 HGB.out.1 hb1) (HGB.out.2.trans (hb1.mono HGB.out.2.size)))
    clear hx
    have hx := lies2 HGB.out.1
    clear hb1
    refine hK.out _ _ hx (fun hHeld => ?_)
    clear hK K
    try simp only [Act.put, List.setIfInBounds_toArray, List.set_cons_zero, List.set_cons_succ]
    first
    | (refine take_wanted (i := 28) (v := ?_) rfl rfl (by kernel_rfl) (by kernel_rfl) (by kernel_rfl) (fun _ _ _ h => h) (by rfl) (by assumption) ?_ ?_; rotate_left; (focus (intro w hSw; (try dsimp only at hSw); go_simp; first | done | with_reducible rfl)); (simp only [Act.at, List.setIfInBounds_toArray, List.set_cons_zero, List.set_cons_succ]))
    | (refine take_unwanted (i := 28) rfl rfl (by kernel_rfl) (by kernel_rfl) (by kernel_rfl) (fun _ _ _ h => h) (by rfl) (by assumption) ?_; (simp only [Act.at, List.setIfInBounds_toArray, List.set_cons_zero, List.set_cons_succ]))
    first
    | (refine take_wanted (i := 29) (v := ?_) rfl rfl (by kernel_rfl) (by kernel_rfl) (by kernel_rfl) (fun _ _ _ h => h) (by rfl) (by assumption) ?_ ?_; rotate_left; (focus (intro w hSw; (try dsimp only at hSw); go_simp; first | done | with_reducible rfl)); (simp only [Act.at, List.setIfInBounds_toArray, List.set_cons_zero, List.set_cons_succ]))
    | (refine take_unwanted (i := 29) rfl rfl (by kernel_rfl) (by kernel_rfl) (by kernel_rfl) (fun _ _ _ h => h) (by rfl) (by assumption) ?_; (simp only [Act.at, List.setIfInBounds_toArray, List.set_cons_zero, List.set_cons_succ]))
    first
    | (refine take_wanted (i := 30) (v := ?_) rfl rfl (by kernel_rfl) (by kernel_rfl) (by kernel_rfl) (fun _ _ _ h => h) (by rfl) (by assumption) ?_ ?_; rotate_left; (focus (intro w hSw; (try dsimp only at hSw); go_simp; first | done | with_reducible rfl)); (simp only [Act.at, List.setIfInBounds_toArray, List.set_cons_zero, List.set_cons_succ]))
    | (refine take_unwanted (i := 30) rfl rfl (by kernel_rfl) (by kernel_rfl) (by kernel_rfl) (fun _ _ _ h => h) (by rfl) (by assumption) ?_; (simp only [Act.at, List.setIfInBounds_toArray, List.set_cons_zero, List.set_cons_succ]))
    first
    | (refine take_wanted (i := 31) (v := ?_) rfl rfl (by kernel_rfl) (by kernel_rfl) (by kernel_rfl) (fun _ _ _ h => h) (by rfl) (by assumption) ?_ ?_; rotate_left; (focus (intro w hSw; (try dsimp only at hSw); go_simp; first | done | with_reducible rfl)); (simp only [Act.at, List.setIfInBounds_toArray, List.set_cons_zero, List.set_cons_succ]))
    | (refine take_unwanted (i := 31) rfl rfl (by kernel_rfl) (by kernel_rfl) (by kernel_rfl) (fun _ _ _ h => h) (by rfl) (by assumption) ?_; (simp only [Act.at, List.setIfInBounds_toArray, List.set_cons_zero, List.set_cons_succ]))
    refine take_call (i := 32) (by kernel_rfl) rfl rfl (by rfl) (fun K hK => ?_)
    go_simp
    refine (awake_any _).mono ?_
    rintro r w1 ⟨rfl, hb1⟩
    replace HGB := Lib.hid (And.intro (keep2 HGB.out.1 hb1) (HGB.out.2.trans (hb1.mono HGB.out.2.size)))
    clear hx
    have hx := lies2 HGB.out.1
    clear hb1
    refine hK.out _ _ hx (fun hHeld => ?_)
    clear hK K
    try simp only [Act.put, List.setIfInBounds_toArray, List.set_cons_zero, List.set_cons_succ]
    first
    | (refine take_wanted (i := 33) (v := ?_) rfl rfl (by kernel_rfl) (by kernel_rfl) (by kernel_rfl) (fun _ _ _ h => h) (by rfl) (by assumption) ?_ ?_; rotate_left; (focus (intro w hSw; (try dsimp only at hSw); go_simp; first | done | with_reducible rfl)); (simp only [Act.at, List.setIfInBounds_toArray, List.set_cons_zero, List.set_cons_succ]))
    | (refine take_unwanted (i := 33) rfl rfl (by kernel_rfl) (by kernel_rfl) (by kernel_rfl) (fun _ _ _ h => h) (by rfl) (by assumption) ?_; (simp only [Act.at, List.setIfInBounds_toArray, List.set_cons_zero, List.set_cons_succ]))
    first
    | (refine take_wanted (i := 34) (v := ?_) rfl rfl (by kernel_rfl) (by kernel_rfl) (by kernel_rfl) (fun _ _ _ h => h) (by rfl) (by assumption) ?_ ?_; rotate_left; (focus (intro w hSw; (try dsimp only at hSw); go_simp; first | done | with_reducible rfl)); (simp only [Act.at, List.setIfInBounds_toArray, List.set_cons_zero, List.set_cons_succ]))
    | (refine take_unwanted (i := 34) rfl rfl (by kernel_rfl) (by kernel_rfl) (by kernel_rfl) (fun _ _ _ h => h) (by rfl) (by assumption) ?_; (simp only [Act.at, List.setIfInBounds_toArray, List.set_cons_zero, List.set_cons_succ]))
    refine wpAnyH_done (by kernel_rfl) ?_ _
    go_wp2_with fail
    go_ret
    exact ⟨rfl, HGB.out.2⟩

set_option maxRecDepth 100000 in
theorem valueOrders_contract {H : Type} (enc : TypeId × Value → H) (W : World) (base : Nat) (args : Array Value) (ds gs : List (DataW H)) (before : List MemPlace)
    (hval : ∀ (j : Nat) t v, Try.f3.params[j]? = some t → args[j]? = some v → Value.okWide Try.prog W .any base t v)
    (hW : DataW.Whole enc Try.prog Try.f3.params.toList Rows.valueOrdersSpec.vars false W args.toList ds gs before)
    (hsz : (DataW.weightsEach Try.prog (Try.f3.params.toList ++ Rows.valueOrdersSpec.plain.varTypes Try.prog) (ds ++ gs)).all (· ≤ reachBytes) = true) :
    Calls Try.prog 3 args W fun e W' =>
      ((Rows.valueOrdersSpec.fn H (ds ++ gs)).results = [.lit (.bool true)] ∧ (Rows.valueOrdersSpec.fn H (ds ++ gs)).args = ds ∧ (Rows.valueOrdersSpec.fn H (ds ++ gs)).vars = []) ∧ e = .returned (.bool true) ∧ Below W.heap.size W W' := by
  obtain ⟨p, q, hA0, hV, rfl, hfz, hnd⟩ := hW
  have hA : DataW.TrodAll enc Try.prog W 0 (fun _ => true) true Try.f3.params.toList args.toList ds p := hA0
  rw [Try.params3] at hA hval hsz
  obtain ⟨v0, v1, d0, d1, p0, p1, rfl, rfl, rfl, h0, h1⟩ := trodAll_two hA
  obtain ⟨rfl, rfl⟩ := trodVars_none hV
  obtain ⟨x, rfl, ok_x⟩ := val_open (hval 0 24 v0 rfl rfl) h0
  obtain ⟨y, rfl, ok_y⟩ := val_open (hval 1 24 v1 rfl rfl) h1
  exact (valueOrders_walk x y ok_x ok_y W).mono fun e W' h => ⟨⟨rfl, rfl, rfl⟩, h⟩

end Go.Proofs.Ythajflnkcindbaa
