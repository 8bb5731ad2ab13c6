/-
  The contracts of value's Compare, and of the statements' own ahead and order.
-/
import Derived.Test.YtfcmkbeilpclmaaValK
namespace Go.Proofs.Ytfcmkbeilpclmaa
open Go.RowKit
set_option linter.unusedVariables false
open Go.Op (bytesLess)

theorem up_two {w : World} (A B : Obj) : Below w.heap.size w ((w.alloc A).alloc B) := up2 A B

set_option maxRecDepth 100000 in
set_option maxHeartbeats 2000000 in
theorem compare_any (x y : Val) (hx : x.ok) (hy : y.ok) (w : World) :
    Calls Try.prog 25 #[x.v, y.v] w fun e w' => e = .returned (.int .i64 (Val.cmp x y)) ∧ Below w.heap.size w w' := by
  have hC : Val.cmp x y = cmpOf (Val.less x y) (Val.less y x) := rfl
  have h1 : Val.less x y = if x.kind = y.kind then
    if x.kind = 1 then !x.flag && y.flag
    else if x.kind = 2 then decide (x.int < y.int)
    else if x.kind = 3 then decide (rank x.bits < rank y.bits)
    else if x.kind = 4 then bytesLess x.text y.text
    else false
  else decide (x.kind < y.kind) := rfl
  have h2 : Val.less y x = if y.kind = x.kind then
    if y.kind = 1 then !y.flag && x.flag
    else if y.kind = 2 then decide (y.int < x.int)
    else if y.kind = 3 then decide (rank y.bits < rank x.bits)
    else if y.kind = 4 then bytesLess y.text x.text
    else false
  else decide (y.kind < x.kind) := rfl
  have hbx := hx.1
  have hby := hy.1
  obtain ⟨k, f, i, b, t⟩ := x
  obtain ⟨k', f', i', b', t'⟩ := y
  generalize Val.less _ _ = l1 at hC h1
  generalize Val.less _ _ = l2 at hC h2
  generalize Val.cmp _ _ = c at hC ⊢
  rw [Val.v_eq, Val.v_eq]
  simp only [] at h1 h2 hbx hby
  by_cases hk : k = k'
  · subst hk
    rw [if_pos rfl] at h1 h2
    by_cases k1 : k = 1
    · subst k1
      rw [if_pos rfl] at h1 h2
      obtain ⟨fr, hfr⟩ : ∃ fr : Bool → Int, fr = fun f => if f then 1 else 0 := ⟨_, rfl⟩
      have hf1 : ∀ (f : Bool) (W : World), Calls Try.prog 49 #[.bool f] W fun e w' => e = .returned (.int .i64 (fr f)) ∧ w' = W := fun f W => (flagRank_any f W).mono fun _ _ h => ⟨by rw [hfr]; exact h.1, h.2.symm⟩
      have hce : cmpOf (decide (fr f < fr f')) (decide (fr f' < fr f)) = c := by
        rw [hC, h1, h2, hfr]; cases f <;> cases f' <;> rfl
      have hci : ∀ W, Calls Try.prog 48 #[.int .i64 (fr f), .int .i64 (fr f')] W fun e w' => e = .returned (.int .i64 c) ∧ w' = W := fun W => (cmp_int (fr f) (fr f') W).mono fun _ _ h => ⟨by rw [← hce]; exact h.1, h.2.symm⟩
      have HC := Lib.hid hci; clear hci hce
      have HF := Lib.hid hf1; clear hf1 hC h1 h2 hfr
      go_enter Try.func25, Try.ntmps25
      go_upto_region 5 with (fail)
      go_quiet (first | (go_at_call 49; exact Calls.quiet_of_same (HF.out _ _)) | (go_at_call 48; exact Calls.quiet_of_same (HC.out _)))
      go_wp2_with fail
      go_ret
      exact ⟨rfl, below_drewN (up2 _ _) _⟩
    by_cases k2 : k = 2
    · subst k2
      rw [if_neg (by decide), if_pos rfl] at h1 h2
      have hci := fun W => cmp_i64 i i' W
      rw [← h1, ← h2, ← hC] at hci
      have HC := Lib.hid hci; clear hci hC h1 h2 k1
      go_enter Try.func25, Try.ntmps25
      go_wp2_with fail
      refine (HC.out _).mono ?_
      rintro r w1 ⟨rfl, rfl⟩
      go_wp2_with fail
      go_ret
      exact ⟨rfl, up2 _ _⟩
    by_cases k3 : k = 3
    · subst k3
      rw [if_neg (by decide), if_neg (by decide), if_pos rfl] at h1 h2
      have hci := fun W => cmp_u64 (rank b : Nat) (rank b' : Nat) W
      have e1 : decide (((rank b : Nat) : Int) < ((rank b' : Nat) : Int)) = l1 := by rw [h1, decide_eq_decide]; omega
      have e2 : decide (((rank b' : Nat) : Int) < ((rank b : Nat) : Int)) = l2 := by rw [h2, decide_eq_decide]; omega
      rw [e1, e2, ← hC] at hci
      have hf1 : ∀ (b : Nat) (h : b < 18446744073709551616) (W : World), Calls Try.prog 52 #[.int .u64 (b : Int)] W fun e w' => e = .returned (.int .u64 (rank b : Nat)) ∧ w' = W := fun b h W => (floatRank_any b h W).mono fun _ _ h => ⟨h.1, h.2.symm⟩
      have hci' : ∀ W, Calls Try.prog 51 #[.int .u64 (rank b : Nat), .int .u64 (rank b' : Nat)] W fun e w' => e = .returned (.int .i64 c) ∧ w' = W := fun W => (hci W).mono fun _ _ h => ⟨h.1, h.2.symm⟩
      have HC := Lib.hid hci'; clear hci hci' e1 e2
      have HF := Lib.hid hf1; clear hf1 hC h1 h2 k1 k2
      go_enter Try.func25, Try.ntmps25
      go_upto_region 9 with (fail)
      go_quiet (first | (go_at_call 52; exact Calls.quiet_of_same (HF.out _ (by assumption) _)) | (go_at_call 51; exact Calls.quiet_of_same (HC.out _)))
      go_wp2_with fail
      go_ret
      exact ⟨rfl, below_drewN (up2 _ _) _⟩
    by_cases k4 : k = 4
    · subst k4
      rw [if_neg (by decide), if_neg (by decide), if_neg (by decide), if_pos rfl] at h1 h2
      have hci := fun W => cmp_string t t' W
      rw [← h1, ← h2, ← hC] at hci
      have HC := Lib.hid hci; clear hci hC h1 h2 k1 k2 k3
      go_enter Try.func25, Try.ntmps25
      go_wp2_with fail
      refine (HC.out _).mono ?_
      rintro r w1 ⟨rfl, rfl⟩
      go_wp2_with fail
      go_ret
      exact ⟨rfl, up2 _ _⟩
    · rw [if_neg k1, if_neg k2, if_neg k3, if_neg k4] at h1 h2
      rw [h1, h2] at hC
      have HC := Lib.hid (show c = 0 from hC); clear hC h1 h2
      have g1 : (k == 1) = false := by simpa using k1
      have g2 : (k == 2) = false := by simpa using k2
      have g3 : (k == 3) = false := by simpa using k3
      have g4 : (k == 4) = false := by simpa using k4
      clear k1 k2 k3 k4
      go_enter Try.func25, Try.ntmps25
      go_wp2_with fail
      go_ret
      exact ⟨by rw [HC.out]; rfl, up2 _ _⟩
  · rw [if_neg hk] at h1
    rw [if_neg (fun e => hk e.symm)] at h2
    have hci := fun W => cmp_int k k' W
    rw [← h1, ← h2, ← hC] at hci
    have HC := Lib.hid hci; clear hci hC h1 h2
    have hkb : (k != k') = true := by simpa using hk
    go_enter Try.func25, Try.ntmps25
    go_wp2_with fail
    refine (HC.out _).mono ?_
    rintro r w1 ⟨rfl, rfl⟩
    go_wp2_with fail
    go_ret
    exact ⟨rfl, up2 _ _⟩
end Go.Proofs.Ytfcmkbeilpclmaa
