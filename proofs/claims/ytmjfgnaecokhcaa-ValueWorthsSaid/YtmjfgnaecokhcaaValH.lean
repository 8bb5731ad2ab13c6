/-
  The contracts of the statements' own bytes and awake.
-/
import Derived.Test.YtmjfgnaecokhcaaValG
namespace Go.Proofs.Ytmjfgnaecokhcaa
open Go.RowKit
set_option linter.unusedVariables false

set_option maxHeartbeats 1000000 in
theorem awake_any (w : World) : Calls Try.prog 14 #[] w fun e w' => e = .returned (.bool true) ∧ Below w.heap.size w w' := by
  have hO := fun W => of_any 4607182418800017408 (by omega) W
  have hB := fun W => bytes_any (Val.of 4607182418800017408) (by refine ⟨?_, ?_, ?_⟩ <;> decide) W
  have hE : (if (Val.of 4607182418800017408).right = true then (Val.of 4607182418800017408).enc else []) = [1, 3, 63, 240, 0, 0, 0, 0, 0, 0] := by decide +kernel
  rw [hE] at hB
  generalize (Val.of 4607182418800017408).v = x at hO hB
  have HO := Lib.hid hO; clear hO
  have HB := Lib.hid hB; clear hB hE
  go_enter Try.func14, Try.ntmps14
  go_wp2_with fail
  refine (HO.out _).mono ?_
  rintro e w1 ⟨rfl, hb1⟩
  go_wp2_with fail
  refine (HB.out _).mono ?_
  rintro e w2 ⟨rfl, hb2⟩
  have hc : S [1, 3, 63, 240, 0, 0, 0, 0, 0, 0] = ⟨#[1, 3, 63, 240, 0, 0, 0, 0, 0, 0]⟩ := rfl
  rw [hc]
  go_wp2_with fail
  go_ret
  exact ⟨rfl, hb1.trans (hb2.mono hb1.size)⟩

set_option maxRecDepth 100000 in
set_option maxHeartbeats 2000000 in
theorem lbytes_any (x : Val) (hx : x.ok) (hr : x.right = true) (w : World) :
    Calls Try.prog 22 #[x.v] w fun r w' => r = .returned (.string (S x.enc)) ∧ Below w.heap.size w w' := by
  have hle := Val.right_le hr
  have hE : x.enc = M.encL x.kind ++ x.body := rfl
  have hBd : x.body = if x.kind = 1 then [if x.flag then 1 else 0]
    else if x.kind = 2 then oct 8 (w64 x.int)
    else if x.kind = 3 then oct 8 x.bits
    else if x.kind = 4 then M.encL x.text.length ++ x.text
    else [] := rfl
  clear hr
  obtain ⟨k, f, i, b, t⟩ := x
  generalize Val.enc _ = en at hE ⊢
  generalize Val.body _ = bd at hE hBd
  rw [Val.v_eq]
  obtain ⟨h0, h4, ht, -⟩ := hle
  simp only [] at h0 h4 ht hE hBd
  have hk : k = 0 ∨ k = 1 ∨ k = 2 ∨ k = 3 ∨ k = 4 := by omega
  have hl8 := M.encL_len k
  have hNum := fun W => number_any k W h0 (by omega)
  clear h0 h4
  generalize M.encL k = e at hE hl8 hNum
  have HNUM := Lib.hid hNum; clear hNum
  have HT := Lib.hid ht; clear ht
  rcases hk with rfl | rfl | rfl | rfl | rfl
  · have HE := Lib.hid (show e = en by rw [hE, hBd]; simp); clear hE hBd
    go_enter Try.func22, Try.ntmps22
    go_wp2_with fail
    refine (HNUM.out _).mono ?_
    rintro r w1 ⟨rfl, hb1⟩
    have HB : Has w1 w.heap.size 24 (vcs 0 f i b t) := (Has.made w _ _).below hb1 (by simp)
    have hb0 : Below w.heap.size w w1 := (up1 _).trans (hb1.mono (by simp))
    have hx := lies HB
    clear hb1 HB
    go_wp2_with fail
    go_ret
    exact ⟨by rw [← HE.out]; rfl, hb0⟩
  · cases f
    all_goals
      have HE := Lib.hid hE; clear hE
      have HBD := Lib.hid hBd; clear hBd
      go_enter Try.func22, Try.ntmps22
      go_wp2_with fail
      refine (HNUM.out _).mono ?_
      rintro r w1 ⟨rfl, hb1⟩
      have HB : Has w1 w.heap.size 24 (vcs 1 _ i b t) := (Has.made w _ _).below hb1 (by simp)
      have hb0 : Below w.heap.size w w1 := (up1 _).trans (hb1.mono (by simp))
      have hx := lies HB
      have hlim : ¬ 9223372036854775807 < e.length + (0 + 1) := by omega
      clear hb1 HB
      go_wp2_with fail
      go_ret
      refine ⟨?_, hb0⟩
      rw [HE.out, HBD.out, ← S_append]
      rfl
  · have hwd : ∀ W, Calls Try.prog 42 #[.int .u64 (i % 18446744073709551616)] W fun e w' => e = .returned (.string (S (oct 8 (w64 i)))) ∧ Below W.heap.size W w' := fun W => by
      have e : i % 18446744073709551616 = ((w64 i : Nat) : Int) := by unfold w64; omega
      rw [e]
      exact eight_any (w64 i) (by unfold w64; omega) W
    have hol := oct_len 8 (w64 i)
    have hE2 : e ++ oct 8 (w64 i) = en := by rw [hE, hBd]; simp
    generalize oct 8 (w64 i) = o at hwd hol hE2
    have HWD := Lib.hid hwd; clear hwd hE hBd
    have HE := Lib.hid hE2; clear hE2
    go_enter Try.func22, Try.ntmps22
    go_wp2_with fail
    refine (HNUM.out _).mono ?_
    rintro r w1 ⟨rfl, hb1⟩
    have HB : Has w1 w.heap.size 24 (vcs 2 f i b t) := (Has.made w _ _).below hb1 (by simp)
    have hb0 : Below w.heap.size w w1 := (up1 _).trans (hb1.mono (by simp))
    have hx := lies HB
    have hlim : ¬ 9223372036854775807 < e.length + o.length := by omega
    clear hb1 HB
    go_wp2_with fail
    refine (HWD.out _).mono ?_
    rintro r w2 ⟨rfl, hb2⟩
    go_wp2_with fail
    go_ret
    exact ⟨by rw [← HE.out]; rfl, hb0.trans (hb2.mono hb0.size)⟩
  · have hwd := fun W => eight_any b hx.1 W
    have hol := oct_len 8 b
    have hE2 : e ++ oct 8 b = en := by rw [hE, hBd]; simp
    generalize oct 8 b = o at hwd hol hE2
    have HWD := Lib.hid hwd; clear hwd hE hBd
    have HE := Lib.hid hE2; clear hE2
    go_enter Try.func22, Try.ntmps22
    go_wp2_with fail
    refine (HNUM.out _).mono ?_
    rintro r w1 ⟨rfl, hb1⟩
    have HB : Has w1 w.heap.size 24 (vcs 3 f i b t) := (Has.made w _ _).below hb1 (by simp)
    have hb0 : Below w.heap.size w w1 := (up1 _).trans (hb1.mono (by simp))
    have hx := lies HB
    have hlim : ¬ 9223372036854775807 < e.length + o.length := by omega
    clear hb1 HB
    go_wp2_with fail
    refine (HWD.out _).mono ?_
    rintro r w2 ⟨rfl, hb2⟩
    go_wp2_with fail
    go_ret
    exact ⟨by rw [← HE.out]; rfl, hb0.trans (hb2.mono hb0.size)⟩
  · have hwd := fun W => number_any (t.length : Int) W (by omega) (by have := HT.out; omega)
    have hol := M.encL_len t.length
    have hE2 : (e ++ M.encL t.length) ++ t = en := by rw [hE, hBd]; simp
    generalize M.encL t.length = o at hwd hol hE2
    have HWD := Lib.hid hwd; clear hwd hE hBd
    have HE := Lib.hid hE2; clear hE2
    go_enter Try.func22, Try.ntmps22
    go_wp2_with fail
    refine (HNUM.out _).mono ?_
    rintro r w1 ⟨rfl, hb1⟩
    have HB : Has w1 w.heap.size 24 (vcs 4 f i b t) := (Has.made w _ _).below hb1 (by simp)
    have hb0 : Below w.heap.size w w1 := (up1 _).trans (hb1.mono (by simp))
    have hx := lies HB
    have hlim : ¬ 9223372036854775807 < e.length + o.length := by omega
    have hlim2 : ¬ 9223372036854775807 < (e.length + o.length) + t.length := by have := HT.out; omega
    clear hb1
    go_upto_region 13 with (fail)
    have hd0 := hb0.drew
    replace HB : Has w1.drew w.heap.size 24 (vcs 4 f i b t) := HB
    have hx := lies HB
    have HGB := Lib.hid (And.intro HB hd0); clear HB hb0 hd0
    refine wp_region_held_drew (S := Lies w.heap.size 4 f i b t) (by kernel_rfl) hx (fun hHeld => ?_)
    first
    | (refine take_wanted (i := 0) (v := ?_) rfl rfl (by kernel_rfl) (by kernel_rfl) (by kernel_rfl) (fun _ _ _ h => h) (by rfl) (by assumption) ?_ ?_; rotate_left; (focus (intro w hSw; (try dsimp only at hSw); go_simp; first | done | with_reducible rfl)); (simp only [Act.at, List.setIfInBounds_toArray, List.set_cons_zero, List.set_cons_succ]))
    | (refine take_unwanted (i := 0) rfl rfl (by kernel_rfl) (by kernel_rfl) (by kernel_rfl) (fun _ _ _ h => h) (by rfl) (by assumption) ?_; (simp only [Act.at, List.setIfInBounds_toArray, List.set_cons_zero, List.set_cons_succ]))
    first
    | (refine take_wanted (i := 1) (v := ?_) rfl rfl (by kernel_rfl) (by kernel_rfl) (by kernel_rfl) (fun _ _ _ h => h) (by rfl) (by assumption) ?_ ?_; rotate_left; (focus (intro w hSw; (try dsimp only at hSw); go_simp; first | done | with_reducible rfl)); (simp only [Act.at, List.setIfInBounds_toArray, List.set_cons_zero, List.set_cons_succ]))
    | (refine take_unwanted (i := 1) rfl rfl (by kernel_rfl) (by kernel_rfl) (by kernel_rfl) (fun _ _ _ h => h) (by rfl) (by assumption) ?_; (simp only [Act.at, List.setIfInBounds_toArray, List.set_cons_zero, List.set_cons_succ]))
    first
    | (refine take_wanted (i := 2) (v := ?_) rfl rfl (by kernel_rfl) (by kernel_rfl) (by kernel_rfl) (fun _ _ _ h => h) (by rfl) (by assumption) ?_ ?_; rotate_left; (focus (intro w hSw; (try dsimp only at hSw); go_simp; first | done | with_reducible rfl)); (simp only [Act.at, List.setIfInBounds_toArray, List.set_cons_zero, List.set_cons_succ]))
    | (refine take_unwanted (i := 2) rfl rfl (by kernel_rfl) (by kernel_rfl) (by kernel_rfl) (fun _ _ _ h => h) (by rfl) (by assumption) ?_; (simp only [Act.at, List.setIfInBounds_toArray, List.set_cons_zero, List.set_cons_succ]))
    first
    | (refine take_wanted (i := 3) (v := ?_) rfl rfl (by kernel_rfl) (by kernel_rfl) (by kernel_rfl) (fun _ _ _ h => h) (by rfl) (by assumption) ?_ ?_; rotate_left; (focus (intro w hSw; (try dsimp only at hSw); go_simp; first | done | with_reducible rfl)); (simp only [Act.at, List.setIfInBounds_toArray, List.set_cons_zero, List.set_cons_succ]))
    | (refine take_unwanted (i := 3) rfl rfl (by kernel_rfl) (by kernel_rfl) (by kernel_rfl) (fun _ _ _ h => h) (by rfl) (by assumption) ?_; (simp only [Act.at, List.setIfInBounds_toArray, List.set_cons_zero, List.set_cons_succ]))
    first
    | (refine take_wanted (i := 6) (v := ?_) rfl rfl (by kernel_rfl) (by kernel_rfl) (by kernel_rfl) (fun _ _ _ h => h) (by rfl) (by assumption) ?_ ?_; rotate_left; (focus (intro w hSw; (try dsimp only at hSw); go_simp; first | done | with_reducible rfl)); (simp only [Act.at, List.setIfInBounds_toArray, List.set_cons_zero, List.set_cons_succ]))
    | (refine take_unwanted (i := 6) rfl rfl (by kernel_rfl) (by kernel_rfl) (by kernel_rfl) (fun _ _ _ h => h) (by rfl) (by assumption) ?_; (simp only [Act.at, List.setIfInBounds_toArray, List.set_cons_zero, List.set_cons_succ]))
    first
    | (refine take_wanted (i := 7) (v := ?_) rfl rfl (by kernel_rfl) (by kernel_rfl) (by kernel_rfl) (fun _ _ _ h => h) (by rfl) (by assumption) ?_ ?_; rotate_left; (focus (intro w hSw; (try dsimp only at hSw); go_simp; first | done | with_reducible rfl)); (simp only [Act.at, List.setIfInBounds_toArray, List.set_cons_zero, List.set_cons_succ]))
    | (refine take_unwanted (i := 7) rfl rfl (by kernel_rfl) (by kernel_rfl) (by kernel_rfl) (fun _ _ _ h => h) (by rfl) (by assumption) ?_; (simp only [Act.at, List.setIfInBounds_toArray, List.set_cons_zero, List.set_cons_succ]))
    refine take_call (i := 4) (by kernel_rfl) rfl rfl (by rfl) (fun K hK => ?_)
    go_simp
    refine (HWD.out _).mono ?_
    rintro r w2 ⟨rfl, hb2⟩
    have HGB1 := HGB.out
    have HB := HGB1.1.below hb2 HGB1.1.lt
    have hb0 := HGB1.2.trans (hb2.mono HGB1.2.size)
    have hx := lies HB
    clear HB HGB1 hb2
    refine hK.out _ _ hx (fun hHeld => ?_)
    clear hK K
    try simp only [Act.put, List.setIfInBounds_toArray, List.set_cons_zero, List.set_cons_succ]
    first
    | (refine take_wanted (i := 5) (v := ?_) rfl rfl (by kernel_rfl) (by kernel_rfl) (by kernel_rfl) (fun _ _ _ h => h) (by rfl) (by assumption) ?_ ?_; rotate_left; (focus (intro w hSw; (try dsimp only at hSw); go_simp; first | done | with_reducible rfl)); (simp only [Act.at, List.setIfInBounds_toArray, List.set_cons_zero, List.set_cons_succ]))
    | (refine take_unwanted (i := 5) rfl rfl (by kernel_rfl) (by kernel_rfl) (by kernel_rfl) (fun _ _ _ h => h) (by rfl) (by assumption) ?_; (simp only [Act.at, List.setIfInBounds_toArray, List.set_cons_zero, List.set_cons_succ]))
    first
    | (refine take_wanted (i := 8) (v := ?_) rfl rfl (by kernel_rfl) (by kernel_rfl) (by kernel_rfl) (fun _ _ _ h => h) (by rfl) (by assumption) ?_ ?_; rotate_left; (focus (intro w hSw; (try dsimp only at hSw); go_simp; first | done | with_reducible rfl)); (simp only [Act.at, List.setIfInBounds_toArray, List.set_cons_zero, List.set_cons_succ]))
    | (refine take_unwanted (i := 8) rfl rfl (by kernel_rfl) (by kernel_rfl) (by kernel_rfl) (fun _ _ _ h => h) (by rfl) (by assumption) ?_; (simp only [Act.at, List.setIfInBounds_toArray, List.set_cons_zero, List.set_cons_succ]))
    first
    | (refine take_wanted (i := 9) (v := ?_) rfl rfl (by kernel_rfl) (by kernel_rfl) (by kernel_rfl) (fun _ _ _ h => h) (by rfl) (by assumption) ?_ ?_; rotate_left; (focus (intro w hSw; (try dsimp only at hSw); go_simp; first | done | with_reducible rfl)); (simp only [Act.at, List.setIfInBounds_toArray, List.set_cons_zero, List.set_cons_succ]))
    | (refine take_unwanted (i := 9) rfl rfl (by kernel_rfl) (by kernel_rfl) (by kernel_rfl) (fun _ _ _ h => h) (by rfl) (by assumption) ?_; (simp only [Act.at, List.setIfInBounds_toArray, List.set_cons_zero, List.set_cons_succ]))
    refine wpAnyH_done (by kernel_rfl) ?_ _
    go_wp2_with fail
    go_ret
    exact ⟨by rw [← HE.out, List.append_assoc]; rfl, hb0⟩
end Go.Proofs.Ytmjfgnaecokhcaa
