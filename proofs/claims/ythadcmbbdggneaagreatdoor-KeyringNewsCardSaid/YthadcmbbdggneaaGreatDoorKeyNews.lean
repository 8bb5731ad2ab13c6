/-
  KeyringNews, walked.
-/
import Derived.Test.YthadcmbbdggneaaGreatDoorKeyAw
import Derived.Test.YthadcmbbdggneaaGreatDoorDskWN
namespace Go.Proofs.YthadcmbbdggneaaGreatDoor
open Go.RowKit
set_option linter.unusedVariables false

set_option maxRecDepth 100000
theorem knews_small (s b n : Int) (hs : s < 1 ∨ 100 < s) (w : World) : Calls Tryz.prog 4 #[.int .i64 s, .int .i64 b, .int .i64 n] w fun e w' => e = .returned (.bool true) ∧ Below w.heap.size w w' := by
  have HAW := Lib.hid (fun W => kawake_any W)
  by_cases h1 : s < 1
  · clear hs
    go_enter Tryz.func4, Tryz.ntmps4
    go_wp2_with fail
    refine (HAW.out _).mono ?_
    rintro r w1 ⟨rfl, hb⟩
    go_wp2_with fail
    go_ret
    exact ⟨rfl, hb⟩
  · have h2 : 100 < s := by omega
    clear hs
    go_enter Tryz.func4, Tryz.ntmps4
    go_wp2_with fail
    refine (HAW.out _).mono ?_
    rintro r w1 ⟨rfl, hb⟩
    go_wp2_with fail
    go_ret
    exact ⟨rfl, hb⟩
set_option maxHeartbeats 4000000 in
theorem knews_arg (N : Nat) (b n : Int) (h1 : 1 ≤ N) (h2 : N ≤ 100) (hbn : b < 0 ∨ n < 1 ∨ 64 < n) (w : World) : Calls Tryz.prog 4 #[.int .i64 (N : Int), .int .i64 b, .int .i64 n] w fun e w' => e = .returned (.bool true) ∧ Below w.heap.size w w' := by
  have HAW := Lib.hid (fun W => kawake_any W)
  have HNEW : Hid (Calls Tryz.prog 7 #[.int .i64 (N : Int)] w (NewDPost w N)) := Lib.hid (newd_any N (by omega) (by omega) w)
  have HG : Hid (∀ (W : World) (g bd mb : Nat), DiskAt W g bd mb (Dsk.fresh N) → Calls Tryz.prog 19 #[.pointer (some ⟨g, 0, none⟩), .int .i64 1] W (NewGPost W g bd mb 1 (Dsk.fresh N))) :=
    Lib.hid (fun W g bd mb h => gnew_any h 1 (by decide) (by decide))
  have HR : Hid (∀ (W : World) (gg g bd mb : Nat), GuardAt W gg g bd mb 1 0 (Dsk.fresh N) → Calls Tryz.prog 20 #[.pointer (some ⟨gg, 0, none⟩), .int .i64 b, .int .i64 n] W fun e w' => e = .returned (.tuple #[.pointer none, .int .i64 1]) ∧ W = w') := Lib.hid (fun W gg g bd mb h => rnew_arg h b n hbn)
  have HNI := Lib.hid (fun W => rnew_nil b n W)
  unfold NewDPost at HNEW
  unfold NewGPost at HG
  generalize Dsk.fresh N = d0 at HNEW HG HR
  have k1 : ¬ (N : Int) < 1 := by omega
  have k2 : ¬ (100 : Int) < (N : Int) := by omega
  clear h1 h2
  have hor : b < 0 ∨ (¬ b < 0 ∧ n < 1) ∨ (¬ b < 0 ∧ ¬ n < 1 ∧ 64 < n) := by omega
  clear hbn
  rcases hor with q1 | ⟨q1, q2⟩ | ⟨q1, q2, q3⟩
  all_goals
    go_enter Tryz.func4, Tryz.ntmps4
    go_wp2_with fail
    refine HNEW.out.mono ?_
    rintro r w1 ⟨g, bd, mb, rfl, hd, hb, -, -, -⟩
    have H1 := Lib.hid (And.intro hd hb)
    clear hd hb
    go_wp2_with fail
    refine (HG.out _ _ _ _ H1.out.1).mono ?_
    rintro r w2 ⟨gg, rfl, hg, hb, -⟩
    have H2 := Lib.hid (And.intro hg (H1.out.2.trans (hb.mono H1.out.2.size)))
    clear hg hb
    go_wp2_with fail
    refine (HR.out _ _ _ _ _ H2.out.1).mono ?_
    rintro r w3 ⟨rfl, rfl⟩
    go_wp2_with fail
    refine (HNI.out _).mono ?_
    rintro r w3 ⟨rfl, rfl⟩
    go_wp2_with fail
    refine (HAW.out _).mono ?_
    rintro r w4 ⟨rfl, hb⟩
    have HF := Lib.hid (H2.out.2.trans (hb.mono H2.out.2.size))
    clear hb
    go_wp2_with fail
    go_ret
    exact ⟨rfl, HF.out⟩
set_option maxHeartbeats 4000000 in
theorem knews_range (N : Nat) (b n : Int) (h1 : 1 ≤ N) (h2 : N ≤ 100) (q1 : 0 ≤ b) (q2 : 1 ≤ n) (q3 : n ≤ 64) (hr : (N : Int) - n < b) (hb63 : b ≤ 9223372036854775807) (w : World) : Calls Tryz.prog 4 #[.int .i64 (N : Int), .int .i64 b, .int .i64 n] w fun e w' => e = .returned (.bool true) ∧ Below w.heap.size w w' := by
  have HAW := Lib.hid (fun W => kawake_any W)
  have HNEW : Hid (Calls Tryz.prog 7 #[.int .i64 (N : Int)] w (NewDPost w N)) := Lib.hid (newd_any N (by omega) (by omega) w)
  have HG : Hid (∀ (W : World) (g bd mb : Nat), DiskAt W g bd mb (Dsk.fresh N) → Calls Tryz.prog 19 #[.pointer (some ⟨g, 0, none⟩), .int .i64 1] W (NewGPost W g bd mb 1 (Dsk.fresh N))) :=
    Lib.hid (fun W g bd mb h => gnew_any h 1 (by decide) (by decide))
  have hlen : (Dsk.fresh N).secs.length = N := List.length_replicate
  have HR : Hid (∀ (W : World) (gg g bd mb : Nat), GuardAt W gg g bd mb 1 0 (Dsk.fresh N) → Calls Tryz.prog 20 #[.pointer (some ⟨gg, 0, none⟩), .int .i64 b, .int .i64 n] W fun e w' => e = .returned (.tuple #[.pointer none, .int .i64 5]) ∧ W = w') := Lib.hid (fun W gg g bd mb h => rnew_range h b n q1 q2 q3 (by rw [hlen]; exact hr) (by rw [hlen]; omega))
  have HNI := Lib.hid (fun W => rnew_nil b n W)
  unfold NewDPost at HNEW
  unfold NewGPost at HG
  clear hlen
  generalize Dsk.fresh N = d0 at HNEW HG HR
  have k1 : ¬ (N : Int) < 1 := by omega
  have k2 : ¬ (100 : Int) < (N : Int) := by omega
  have k3 : ¬ b < 0 := by omega
  have k4 : ¬ n < 1 := by omega
  have k5 : ¬ (64 : Int) < n := by omega
  have k6 : IntKind.i64.wrap ((N : Int) - b) = (N : Int) - b := by rw [IntKind.wrap_i64]; omega
  have hor : (N : Int) < b ∨ (¬ (N : Int) < b ∧ (N : Int) - b < n) := by omega
  clear h1 h2 q1 q2 q3 hr hb63
  rcases hor with q1 | ⟨q1, q2⟩
  all_goals
    go_enter Tryz.func4, Tryz.ntmps4
    go_wp2_with fail
    refine HNEW.out.mono ?_
    rintro r w1 ⟨g, bd, mb, rfl, hd, hb, -, -, -⟩
    have H1 := Lib.hid (And.intro hd hb)
    clear hd hb
    go_wp2_with fail
    refine (HG.out _ _ _ _ H1.out.1).mono ?_
    rintro r w2 ⟨gg, rfl, hg, hb, -⟩
    have H2 := Lib.hid (And.intro hg (H1.out.2.trans (hb.mono H1.out.2.size)))
    clear hg hb
    go_wp2_with fail
    refine (HR.out _ _ _ _ _ H2.out.1).mono ?_
    rintro r w3 ⟨rfl, rfl⟩
    go_wp2_with fail
    refine (HNI.out _).mono ?_
    rintro r w3 ⟨rfl, rfl⟩
    go_wp2_with fail
    refine (HAW.out _).mono ?_
    rintro r w4 ⟨rfl, hb⟩
    have HF := Lib.hid (H2.out.2.trans (hb.mono H2.out.2.size))
    clear hb
    go_wp2_with fail
    go_ret
    exact ⟨rfl, HF.out⟩
set_option maxHeartbeats 4000000 in
theorem knews_ok (N b n : Nat) (h1 : 1 ≤ N) (h2 : N ≤ 100) (q2 : 1 ≤ n) (q3 : n ≤ 64) (hr : b + n ≤ N) (w : World) : Calls Tryz.prog 4 #[.int .i64 (N : Int), .int .i64 (b : Int), .int .i64 (n : Int)] w fun e w' => e = .returned (.bool true) ∧ Below w.heap.size w w' := by
  have HAW := Lib.hid (fun W => kawake_any W)
  have HNEW : Hid (Calls Tryz.prog 7 #[.int .i64 (N : Int)] w (NewDPost w N)) := Lib.hid (newd_any N (by omega) (by omega) w)
  have HG : Hid (∀ (W : World) (g bd mb : Nat), DiskAt W g bd mb (Dsk.fresh N) → Calls Tryz.prog 19 #[.pointer (some ⟨g, 0, none⟩), .int .i64 1] W (NewGPost W g bd mb 1 (Dsk.fresh N))) :=
    Lib.hid (fun W g bd mb h => gnew_any h 1 (by decide) (by decide))
  have hlen : (Dsk.fresh N).secs.length = N := List.length_replicate
  have HR : Hid (∀ (W : World) (gg g bd mb : Nat), GuardAt W gg g bd mb 1 0 (Dsk.fresh N) → Calls Tryz.prog 20 #[.pointer (some ⟨gg, 0, none⟩), .int .i64 (b : Int), .int .i64 (n : Int)] W (NewRPost W gg g bd mb 1 0 b n (Dsk.fresh N))) := Lib.hid (fun W gg g bd mb h => rnew_any h q2 q3 (by rw [hlen]; exact hr) (by rw [hlen]; omega))
  have HNI := Lib.hid (fun W => rnew_nil (b : Int) (n : Int) W)
  have hcast : ((n - 1 : Nat) : Int) = (n : Int) - 1 := by omega
  have HF1 : Hid (∀ (W : World) (rb gg g bd mb : Nat), RingAt W rb gg g bd mb 1 0 b n 0 (Dsk.fresh N) → Calls Tryz.prog 22 #[.pointer (some ⟨rb, 0, none⟩), .int .i64 ((n : Int) - 1)] W fun e w' => e = .returned (.bool true) ∧ Below W.heap.size W w') := Lib.hid (fun W rb gg g bd mb h => by
    have hq := rfree_any h (i := n - 1) (by omega)
    rw [Dsk.fresh_read N (b + (n - 1)) (by omega), hcast] at hq
    exact hq)
  have HF2 : Hid (∀ (W : World) (rb gg g bd mb : Nat), RingAt W rb gg g bd mb 1 0 b n 0 (Dsk.fresh N) → Calls Tryz.prog 22 #[.pointer (some ⟨rb, 0, none⟩), .int .i64 (n : Int)] W fun e w' => e = .returned (.bool false) ∧ Below W.heap.size W w') := Lib.hid (fun W rb gg g bd mb h => rfree_out h (Or.inr (Int.le_refl _)))
  have HF3 : Hid (∀ (W : World) (rb gg g bd mb : Nat), RingAt W rb gg g bd mb 1 0 b n 0 (Dsk.fresh N) → Calls Tryz.prog 22 #[.pointer (some ⟨rb, 0, none⟩), .int .i64 (-1)] W fun e w' => e = .returned (.bool false) ∧ Below W.heap.size W w') := Lib.hid (fun W rb gg g bd mb h => rfree_out h (Or.inl (by decide)))
  have HWT : Hid (∀ (W : World) (rb gg g bd mb : Nat), RingAt W rb gg g bd mb 1 0 b n 0 (Dsk.fresh N) → Calls Tryz.prog 23 #[.pointer (some ⟨g, 0, none⟩)] W fun e w' => (∃ A cap, e = .returned (.slice A 0 cap)) ∧ Below W.heap.size W w') := Lib.hid (fun W rb gg g bd mb h => dwaits_none h.grd.disk (Dsk.fresh_waits N))
  have HSL : Hid (∀ (W : World) (rb gg g bd mb : Nat), RingAt W rb gg g bd mb 1 0 b n 0 (Dsk.fresh N) → Calls Tryz.prog 21 #[.pointer (some ⟨rb, 0, none⟩)] W fun e w' => e = .returned (.int .i64 (n : Int)) ∧ W = w') := Lib.hid (fun W rb gg g bd mb h => rslots_any h)
  unfold NewDPost at HNEW
  unfold NewGPost at HG
  unfold NewRPost at HR
  clear hlen hcast
  generalize Dsk.fresh N = d0 at HNEW HG HR HF1 HF2 HF3 HWT HSL
  have k1 : ¬ (N : Int) < 1 := by omega
  have k2 : ¬ (100 : Int) < (N : Int) := by omega
  have k3 : ¬ (b : Int) < 0 := by omega
  have k4 : ¬ (n : Int) < 1 := by omega
  have k5 : ¬ (64 : Int) < (n : Int) := by omega
  have k6 : IntKind.i64.wrap ((N : Int) - (b : Int)) = (N : Int) - (b : Int) := by rw [IntKind.wrap_i64]; omega
  have k7 : ¬ (N : Int) < (b : Int) := by omega
  have k8 : ¬ (N : Int) - (b : Int) < (n : Int) := by omega
  have k9 : IntKind.i64.wrap ((n : Int) - 1) = (n : Int) - 1 := by rw [IntKind.wrap_i64]; omega
  have k10 : ((n : Int) == (n : Int)) = true := by rw [beq_self_eq_true]
  clear h1 h2 q2 q3 hr
  go_enter Tryz.func4, Tryz.ntmps4
  go_wp2_with fail
  refine HNEW.out.mono ?_
  rintro r w1 ⟨g, bd, mb, rfl, hd, hb, -, -, -⟩
  have H1 := Lib.hid (And.intro hd hb)
  clear hd hb
  go_wp2_with fail
  refine (HG.out _ _ _ _ H1.out.1).mono ?_
  rintro r w2 ⟨gg, rfl, hg, hb, -⟩
  have H2 := Lib.hid (And.intro hg (H1.out.2.trans (hb.mono H1.out.2.size)))
  clear hg hb
  go_wp2_with fail
  refine (HR.out _ _ _ _ _ H2.out.1).mono ?_
  rintro r w3 ⟨rb, rfl, hr, hb, -⟩
  have H3 := Lib.hid (And.intro hr (H2.out.2.trans (hb.mono H2.out.2.size)))
  clear hr hb
  go_wp2_with fail
  refine (HNI.out _).mono ?_
  rintro r w4 ⟨rfl, rfl⟩
  go_wp2_with fail
  refine (HSL.out _ _ _ _ _ _ H3.out.1).mono ?_
  rintro r w4 ⟨rfl, rfl⟩
  go_wp2_with fail
  refine (HF1.out _ _ _ _ _ _ H3.out.1).mono ?_
  rintro r w4 ⟨rfl, hb⟩
  have H4 := Lib.hid (And.intro (H3.out.1.below hb) (H3.out.2.trans (hb.mono H3.out.2.size)))
  clear hb H3
  go_wp2_with fail
  refine (HF2.out _ _ _ _ _ _ H4.out.1).mono ?_
  rintro r w5 ⟨rfl, hb⟩
  have H5 := Lib.hid (And.intro (H4.out.1.below hb) (H4.out.2.trans (hb.mono H4.out.2.size)))
  clear hb H4
  go_wp2_with fail
  refine (HF3.out _ _ _ _ _ _ H5.out.1).mono ?_
  rintro r w6 ⟨rfl, hb⟩
  have H6 := Lib.hid (And.intro (H5.out.1.below hb) (H5.out.2.trans (hb.mono H5.out.2.size)))
  clear hb H5
  go_wp2_with fail
  refine (HWT.out _ _ _ _ _ _ H6.out.1).mono ?_
  rintro r w7 ⟨⟨A, cap, rfl⟩, hb⟩
  have H7 := Lib.hid (H6.out.2.trans (hb.mono H6.out.2.size))
  clear hb H6
  go_wp2_with fail
  refine (HAW.out _).mono ?_
  rintro r w8 ⟨rfl, hb⟩
  have HF := Lib.hid (H7.out.trans (hb.mono H7.out.size))
  clear hb H7
  go_wp2_with fail
  go_ret
  exact ⟨rfl, HF.out⟩
theorem knews_any (s b n : Int) (w : World) (hb : -9223372036854775808 ≤ b ∧ b ≤ 9223372036854775807) (hn : -9223372036854775808 ≤ n ∧ n ≤ 9223372036854775807) : Calls Tryz.prog 4 #[.int .i64 s, .int .i64 b, .int .i64 n] w fun e w' => e = .returned (.bool true) ∧ Below w.heap.size w w' := by
  by_cases hs : s < 1 ∨ 100 < s
  · exact knews_small s b n hs w
  · obtain ⟨N, rfl⟩ : ∃ N : Nat, s = (N : Int) := ⟨s.toNat, by omega⟩
    by_cases hbn : b < 0 ∨ n < 1 ∨ 64 < n
    · exact knews_arg N b n (by omega) (by omega) hbn w
    · by_cases hr : (N : Int) - n < b
      · exact knews_range N b n (by omega) (by omega) (by omega) (by omega) (by omega) hr hb.2 w
      · obtain ⟨b', rfl⟩ : ∃ b' : Nat, b = (b' : Int) := ⟨b.toNat, by omega⟩
        obtain ⟨n', rfl⟩ : ∃ n' : Nat, n = (n' : Int) := ⟨n.toNat, by omega⟩
        exact knews_ok N b' n' (by omega) (by omega) (by omega) (by omega) (by omega) w
end Go.Proofs.YthadcmbbdggneaaGreatDoor
