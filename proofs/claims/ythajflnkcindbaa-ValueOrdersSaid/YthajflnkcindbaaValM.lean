/-
  The contracts of the statements' own ahead and order.
-/
import Derived.Test.YthajflnkcindbaaValL
namespace Go.Proofs.Ythajflnkcindbaa
open Go.RowKit
set_option linter.unusedVariables false
open Go.Op (bytesLess)

theorem rank_nan {b : Nat} (h : Val.nan b = true) : rank b = 18444492273895866369 := by
  unfold rank
  have : Val.cbits b = 9221120237041090561 := by unfold Val.cbits; rw [if_pos h]
  rw [this]; rfl
theorem rank_lt {b : Nat} (hb : b < 18446744073709551616) (h : Val.nan b = false) : rank b < 18444492273895866369 := by
  have hc : Val.cbits b = b := by unfold Val.cbits; rw [h]; rfl
  unfold rank
  rw [hc]
  unfold Val.nan at h
  have := of_decide_eq_false h
  split <;> omega

set_option maxHeartbeats 1000000 in
theorem ahead_any (a b : Nat) (ha : a < 18446744073709551616) (hb : b < 18446744073709551616) (w : World) :
    Calls Try.prog 24 #[.int .u64 (a : Int), .int .u64 (b : Int)] w fun e w' => e = .returned (.bool (decide (rank a < rank b))) ∧ w = w' := by
  have hna := fun W => nan_any a ha W
  have hnb := fun W => nan_any b hb W
  cases h1 : Val.nan a
  · cases h2 : Val.nan b
    · have hca : Val.cbits a = a := by unfold Val.cbits; rw [h1]; rfl
      have hcb : Val.cbits b = b := by unfold Val.cbits; rw [h2]; rfl
      have hr : decide (rank a < rank b) = if 9223372036854775808 ≤ a then (if 9223372036854775808 ≤ b then decide (b < a) else true) else (if 9223372036854775808 ≤ b then false else decide (a < b)) := by
        unfold rank
        rw [hca, hcb]
        by_cases p : 9223372036854775808 ≤ a <;> by_cases q : 9223372036854775808 ≤ b <;> simp only [p, q, if_true, if_false] <;> first | (rw [decide_eq_decide]; omega) | (simp; omega)
      rw [h1] at hna
      rw [h2] at hnb
      generalize decide (rank a < rank b) = d at hr ⊢
      have HA := Lib.hid hna; clear hna
      have HB := Lib.hid hnb; clear hnb hca hcb
      by_cases p : 9223372036854775808 ≤ a
      · rw [if_pos p] at hr
        by_cases q : 9223372036854775808 ≤ b
        · rw [if_pos q] at hr
          have sa : (a : Int) / 9223372036854775808 = 1 := by omega
          have sb : (b : Int) / 9223372036854775808 = 1 := by omega
          have HD := Lib.hid hr; clear hr p q
          go_enter Try.func24, Try.ntmps24
          go_wp2_with fail
          refine (HA.out _).mono ?_
          rintro e w1 ⟨rfl, rfl⟩
          go_wp2_with fail
          refine (HB.out _).mono ?_
          rintro e w1 ⟨rfl, rfl⟩
          go_wp2_with fail
          go_ret
          exact ⟨by rw [HD.out]; rfl, rfl⟩
        · rw [if_neg q] at hr
          have sa : (a : Int) / 9223372036854775808 = 1 := by omega
          have sb : (b : Int) / 9223372036854775808 = 0 := by omega
          have HD := Lib.hid hr; clear hr p q
          go_enter Try.func24, Try.ntmps24
          go_wp2_with fail
          refine (HA.out _).mono ?_
          rintro e w1 ⟨rfl, rfl⟩
          go_wp2_with fail
          refine (HB.out _).mono ?_
          rintro e w1 ⟨rfl, rfl⟩
          go_wp2_with fail
          go_ret
          exact ⟨by rw [HD.out]; rfl, rfl⟩
      · rw [if_neg p] at hr
        by_cases q : 9223372036854775808 ≤ b
        · rw [if_pos q] at hr
          have sa : (a : Int) / 9223372036854775808 = 0 := by omega
          have sb : (b : Int) / 9223372036854775808 = 1 := by omega
          have HD := Lib.hid hr; clear hr p q
          go_enter Try.func24, Try.ntmps24
          go_wp2_with fail
          refine (HA.out _).mono ?_
          rintro e w1 ⟨rfl, rfl⟩
          go_wp2_with fail
          refine (HB.out _).mono ?_
          rintro e w1 ⟨rfl, rfl⟩
          go_wp2_with fail
          go_ret
          exact ⟨by rw [HD.out]; rfl, rfl⟩
        · rw [if_neg q] at hr
          have sa : (a : Int) / 9223372036854775808 = 0 := by omega
          have sb : (b : Int) / 9223372036854775808 = 0 := by omega
          have HD := Lib.hid hr; clear hr p q
          go_enter Try.func24, Try.ntmps24
          go_wp2_with fail
          refine (HA.out _).mono ?_
          rintro e w1 ⟨rfl, rfl⟩
          go_wp2_with fail
          refine (HB.out _).mono ?_
          rintro e w1 ⟨rfl, rfl⟩
          go_wp2_with fail
          go_ret
          exact ⟨by rw [HD.out]; rfl, rfl⟩
    · have hr : decide (rank a < rank b) = true := decide_eq_true (by rw [rank_nan h2]; exact rank_lt ha h1)
      rw [h1] at hna
      rw [h2] at hnb
      rw [hr]
      have HA := Lib.hid hna; clear hna hr
      have HB := Lib.hid hnb; clear hnb
      go_enter Try.func24, Try.ntmps24
      go_wp2_with fail
      refine (HA.out _).mono ?_
      rintro e w1 ⟨rfl, rfl⟩
      go_wp2_with fail
      refine (HB.out _).mono ?_
      rintro e w1 ⟨rfl, rfl⟩
      go_wp2_with fail
      refine (HA.out _).mono ?_
      rintro e w1 ⟨rfl, rfl⟩
      go_wp2_with fail
      refine (HB.out _).mono ?_
      rintro e w1 ⟨rfl, rfl⟩
      go_wp2_with fail
      go_ret
      exact ⟨rfl, rfl⟩
  · have hr : decide (rank a < rank b) = false := decide_eq_false (by
      rw [rank_nan h1]
      cases h2 : Val.nan b
      · have := rank_lt hb h2; omega
      · rw [rank_nan h2]; omega)
    rw [h1] at hna
    rw [hr]
    have HA := Lib.hid hna; clear hna hr
    have HB := Lib.hid hnb; clear hnb
    go_enter Try.func24, Try.ntmps24
    go_wp2_with fail
    refine (HA.out _).mono ?_
    rintro e w1 ⟨rfl, rfl⟩
    go_wp2_with fail
    refine (HA.out _).mono ?_
    rintro e w1 ⟨rfl, rfl⟩
    go_wp2_with fail
    go_ret
    exact ⟨rfl, rfl⟩

set_option maxRecDepth 100000 in
set_option maxHeartbeats 2000000 in
theorem order_any (x y : Val) (hx : x.ok) (hy : y.ok) (w : World) :
    Calls Try.prog 9 #[x.v, y.v] w fun e w' => e = .returned (.int .i64 (Val.cmp x y)) ∧ Below w.heap.size w w' := by
  have hC : Val.cmp x y = cmpOf (Val.less x y) (Val.less y x) := rfl
  have h1 : Val.less x y = if x.kind = y.kind then
    if x.kind = 1 then !x.flag && y.flag
    else if x.kind = 2 then decide (x.int < y.int)
    else if x.kind = 3 then decide (rank x.bits < rank y.bits)
    else if x.kind = 4 then bytesLess x.text y.text
    else false
  else decide (x.kind < y.kind) := rfl
  have h2 : Val.less y x = if y.kind = x.kind then
    if y.kind = 1 then !y.flag && x.flag
    else if y.kind = 2 then decide (y.int < x.int)
    else if y.kind = 3 then decide (rank y.bits < rank x.bits)
    else if y.kind = 4 then bytesLess y.text x.text
    else false
  else decide (y.kind < x.kind) := rfl
  have hcc : (Val.less x y = true ∧ Val.cmp x y = -1) ∨ (Val.less x y = false ∧ Val.less y x = true ∧ Val.cmp x y = 1) ∨ (Val.less x y = false ∧ Val.less y x = false ∧ Val.cmp x y = 0) := by
    rw [hC]; unfold cmpOf
    cases Val.less x y <;> cases Val.less y x <;> simp
  have hbx := hx.1
  have hby := hy.1
  obtain ⟨k, f, i, b, t⟩ := x
  obtain ⟨k', f', i', b', t'⟩ := y
  generalize Val.less _ _ = l1 at hC h1 hcc
  generalize Val.less _ _ = l2 at hC h2 hcc
  generalize Val.cmp _ _ = c at hC hcc ⊢
  rw [Val.v_eq, Val.v_eq]
  simp only [] at h1 h2 hbx hby
  clear hC
  by_cases hk : k = k'
  · subst hk
    rw [if_pos rfl] at h1 h2
    by_cases k1 : k = 1
    · subst k1
      rw [if_pos rfl] at h1 h2
      cases f <;> cases f'
      all_goals
        simp only [Bool.not_false, Bool.not_true, Bool.and_true, Bool.and_false, Bool.true_and, Bool.false_and] at h1 h2
        subst h1
        subst h2
        have hc := hcc
        simp only [true_and, false_and, and_false, or_false, false_or, Bool.false_eq_true, reduceCtorEq, and_self] at hc
        subst hc
        clear hcc
        go_enter Try.func9, Try.ntmps9
        go_wp2_with fail
        go_ret
        exact ⟨rfl, up2 _ _⟩
    by_cases k2 : k = 2
    · subst k2
      rw [if_neg (by decide), if_pos rfl] at h1 h2
      clear k1
      rcases hcc with ⟨q1, rfl⟩ | ⟨q1, q2, rfl⟩ | ⟨q1, q2, rfl⟩
      all_goals
        rw [q1] at h1
        try rw [q2] at h2
        have g1 := h1.symm
        have g2 := h2.symm
        simp only [decide_eq_true_eq, decide_eq_false_iff_not] at g1 g2
        clear h1 h2 q1
        go_enter Try.func9, Try.ntmps9
        go_wp2_with fail
        go_ret
        exact ⟨rfl, up2 _ _⟩
    by_cases k3 : k = 3
    · subst k3
      rw [if_neg (by decide), if_neg (by decide), if_pos rfl] at h1 h2
      have hA := fun W => ahead_any b b' hbx hby W
      have hB := fun W => ahead_any b' b hby hbx W
      rw [← h1] at hA
      rw [← h2] at hB
      have HA := Lib.hid hA
      have HB := Lib.hid hB
      clear k1 k2 h1 h2 hA hB
      rcases hcc with ⟨q1, rfl⟩ | ⟨q1, q2, rfl⟩ | ⟨q1, q2, rfl⟩
      all_goals
        subst q1
        try subst q2
        go_enter Try.func9, Try.ntmps9
        go_wp2_with fail
        refine (HA.out _).mono ?_
        rintro e w1 ⟨rfl, rfl⟩
        go_wp2_with fail
        refine (HB.out _).mono ?_
        rintro e w1 ⟨rfl, rfl⟩
        go_wp2_with fail
        go_ret
        exact ⟨rfl, up2 _ _⟩
    by_cases k4 : k = 4
    · subst k4
      rw [if_neg (by decide), if_neg (by decide), if_neg (by decide), if_pos rfl] at h1 h2
      clear k1 k2 k3
      rcases hcc with ⟨q1, rfl⟩ | ⟨q1, q2, rfl⟩ | ⟨q1, q2, rfl⟩
      · have g1 : bytesLess t t' = true := by rw [← h1, q1]
        clear h1 h2 q1
        go_enter Try.func9, Try.ntmps9
        go_wp2_with fail
        go_ret
        exact ⟨rfl, up2 _ _⟩
      · have g1 : bytesLess t t' = false := by rw [← h1, q1]
        have g2 : (t == t') = false := by
          rw [beq_eq_false_iff_ne]
          rintro rfl
          rw [q2, g1] at h2
          cases h2
        clear h1 h2 q1 q2
        go_enter Try.func9, Try.ntmps9
        go_wp2_with fail
        go_ret
        exact ⟨rfl, up2 _ _⟩
      · have g1 : bytesLess t t' = false := by rw [← h1, q1]
        have g2 : (t == t') = true := by
          rw [beq_iff_eq]
          exact bl_total t t' g1 (by rw [← h2, q2])
        clear h1 h2 q1 q2
        go_enter Try.func9, Try.ntmps9
        go_wp2_with fail
        go_ret
        exact ⟨rfl, up2 _ _⟩
    · rw [if_neg k1, if_neg k2, if_neg k3, if_neg k4] at h1 h2
      subst h1
      subst h2
      have hc : c = 0 := by simpa using hcc
      subst hc
      have g1 : (k == 1) = false := by simpa using k1
      have g2 : (k == 2) = false := by simpa using k2
      have g3 : (k == 3) = false := by simpa using k3
      have g4 : (k == 4) = false := by simpa using k4
      have g5 : ¬ k < k := by omega
      clear k1 k2 k3 k4 hcc
      go_enter Try.func9, Try.ntmps9
      go_wp2_with fail
      go_ret
      exact ⟨rfl, up2 _ _⟩
  · rw [if_neg hk] at h1
    rw [if_neg (fun e => hk e.symm)] at h2
    have hkb : (k == k') = false := by simpa using hk
    rcases hcc with ⟨q1, rfl⟩ | ⟨q1, q2, rfl⟩ | ⟨q1, q2, rfl⟩
    rotate_right
    · exfalso
      rw [q1] at h1
      rw [q2] at h2
      have g1 := h1.symm
      have g2 := h2.symm
      simp only [decide_eq_true_eq, decide_eq_false_iff_not] at g1 g2
      omega
    all_goals
      rw [q1] at h1
      try rw [q2] at h2
      have g1 := h1.symm
      have g2 := h2.symm
      simp only [decide_eq_true_eq, decide_eq_false_iff_not] at g1 g2
      clear h1 h2 q1 hk
      go_enter Try.func9, Try.ntmps9
      go_wp2_with fail
      go_ret
      exact ⟨rfl, up2 _ _⟩
end Go.Proofs.Ythajflnkcindbaa
