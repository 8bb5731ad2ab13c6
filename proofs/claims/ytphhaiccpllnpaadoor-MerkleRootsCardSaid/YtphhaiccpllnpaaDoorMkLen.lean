/-
  How long paths and growth proofs are: the contracts of the program's pathLen, growthLen, and of the seventh layer's statements' own below, Depth, Long.
-/
import Derived.Test.YtphhaiccpllnpaaDoorMkMill
import Derived.Test.YtphhaiccpllnpaaDoorMkNum
namespace Go.Proofs.YtphhaiccpllnpaaDoor
open Go.RowKit
set_option linter.unusedVariables false

theorem splitB_any (n : Nat) (w : World) (h2 : 2 ≤ n) (hn : n ≤ 65536) :
    Calls Tryd.prog 59 #[.int .i64 (n : Int)] w fun e w' => e = .returned (.int .i64 ((Mk.below n : Nat) : Int)) ∧ w' = w := split_any n w h2 hn
theorem Mk.below_go {n e : Nat} (h1 : 2 ^ e < n) (h2 : ¬ 2 * 2 ^ e < n) : (2 ^ e : Nat) = below n := (below_eq h1 (by omega)).symm

set_option maxHeartbeats 2000000 in
theorem mkBelow_any (n : Nat) (h2 : 2 ≤ n) (hn : n ≤ 1000000000000000) (w : World) :
    Calls Tryd.prog 40 #[.int .i64 (n : Int)] w fun e w' => e = .returned (.int .i64 ((Mk.below n : Nat) : Int)) ∧ w' = w := by
  go_enter Tryd.func40, Tryd.ntmps40
  go_wp2_with fail
  go_loopw [3] (fun v3 wr => ∃ e : Nat, 2 ^ e < n ∧ v3 = .int .i64 ((2 ^ e : Nat) : Int) ∧ wr = w) (fun v3 _ => n - (intOf v3).toNat)
  case atStart => exact ⟨0, by omega, rfl, rfl⟩
  case round =>
    obtain ⟨e, he, rfl, rfl⟩ := hrel
    have hpos := Nat.two_pow_pos e
    obtain ⟨k, hk⟩ : ∃ k, 2 ^ e = k := ⟨_, rfl⟩
    have hs : 2 ^ (e + 1) = 2 * k := by rw [Nat.pow_succ, hk]; omega
    have HB := Lib.hid (fun h => Mk.below_go (n := n) (e := e) he h)
    rw [hk] at HB he hpos ⊢
    have HS := Lib.hid hs; clear hs hk
    by_cases hl : 2 * k < n
    · have hi : 2 * (k : Int) < (n : Int) := by omega
      go_wp2_with fail
      go_roundw
      case rel => exact ⟨e + 1, by rw [HS.out]; omega, by rw [HS.out]; go_num, trivial⟩
      case measure => simp [intOf]; omega
    · have hi : ¬ 2 * (k : Int) < (n : Int) := by omega
      go_wp2_with fail
      go_ret
      exact ⟨by rw [← HB.out hl]; rfl, rfl⟩

set_option maxHeartbeats 2000000 in
theorem pathLen_any : ∀ (n i : Nat) (w : World), 1 ≤ n → n ≤ 65536 → i < n →
    Calls Tryd.prog 44 #[.int .i64 (i : Int), .int .i64 (n : Int)] w fun e w' => e = .returned (.int .i64 ((Mk.depth i n : Nat) : Int)) ∧ w' = w := by
  intro n
  induction n using Nat.strongRecOn with
  | ind n ih =>
    intro i w h1 hn hi
    by_cases h2 : 2 ≤ n
    · have hS := fun W => splitB_any n W h2 hn
      have hlt := Mk.below_lt h2
      have hpos := Mk.below_pos n
      have hb1 : ((n : Int) == 1) = false := by simpa using (show ¬ (n : Int) = 1 by omega)
      by_cases hik : i < Mk.below n
      · rw [Mk.depth_left h2 hik]
        have hI := fun W => ih (Mk.below n) hlt i W hpos (by omega) hik
        have hd := Mk.depth_le 16 (Mk.below n) i (by omega) hik
        generalize Mk.depth i (Mk.below n) = d at hI hd ⊢
        generalize Mk.below n = k at hS hI hlt hpos hik
        have HS := Lib.hid hS; clear hS
        have HI := Lib.hid hI; clear hI ih
        have hik' : (i : Int) < (k : Int) := by omega
        go_enter Tryd.func44, Tryd.ntmps44
        go_wp2_with fail
        refine (HS.out _).mono ?_
        rintro e w1 ⟨rfl, rfl⟩
        go_wp2_with fail
        refine (HI.out _).mono ?_
        rintro e w2 ⟨rfl, rfl⟩
        go_wp2_with fail
        go_ret
        exact ⟨rfl, rfl⟩
      · rw [Mk.depth_right h2 hik]
        have hI := fun W => ih (n - Mk.below n) (by omega) (i - Mk.below n) W (by omega) (by omega) (by omega)
        have hd := Mk.depth_le 16 (n - Mk.below n) (i - Mk.below n) (by omega) (by omega)
        generalize Mk.depth (i - Mk.below n) (n - Mk.below n) = d at hI hd ⊢
        generalize Mk.below n = k at hS hI hlt hpos hik
        rw [show ((i - k : Nat) : Int) = (i : Int) - (k : Int) from by omega, show ((n - k : Nat) : Int) = (n : Int) - (k : Int) from by omega] at hI
        have HS := Lib.hid hS; clear hS
        have HI := Lib.hid hI; clear hI ih
        have hik' : ¬ (i : Int) < (k : Int) := by omega
        go_enter Tryd.func44, Tryd.ntmps44
        go_wp2_with fail
        refine (HS.out _).mono ?_
        rintro e w1 ⟨rfl, rfl⟩
        go_wp2_with fail
        refine (HI.out _).mono ?_
        rintro e w2 ⟨rfl, rfl⟩
        go_wp2_with fail
        go_ret
        exact ⟨rfl, rfl⟩
    · have h1n : n = 1 := by omega
      subst h1n
      rw [Mk.depth_none (by omega)]
      clear ih
      go_enter Tryd.func44, Tryd.ntmps44
      go_wp2_with fail
      go_ret
      exact ⟨rfl, rfl⟩

set_option maxHeartbeats 2000000 in
theorem growthLen_any : ∀ (n a : Nat) (whole : Bool) (w : World), 1 ≤ a → a ≤ n → n ≤ 65536 →
    Calls Tryd.prog 50 #[.int .i64 (a : Int), .int .i64 (n : Int), .bool whole] w fun e w' => e = .returned (.int .i64 ((Mk.long a n whole : Nat) : Int)) ∧ w' = w := by
  intro n
  induction n using Nat.strongRecOn with
  | ind n ih =>
    intro a whole w h1 han hn
    by_cases he : a = n
    · subst he
      rw [Mk.long_all whole rfl]
      clear ih
      cases whole with
      | true =>
        go_enter Tryd.func50, Tryd.ntmps50
        go_wp2_with fail
        go_ret
        exact ⟨rfl, rfl⟩
      | false =>
        go_enter Tryd.func50, Tryd.ntmps50
        go_wp2_with fail
        go_ret
        exact ⟨rfl, rfl⟩
    · have h2 : 2 ≤ n := by omega
      have hS := fun W => splitB_any n W h2 hn
      have hlt := Mk.below_lt h2
      have hpos := Mk.below_pos n
      have hb1 : ((a : Int) == (n : Int)) = false := by simpa using (show ¬ (a : Int) = (n : Int) by omega)
      by_cases hik : a ≤ Mk.below n
      · rw [Mk.long_left whole he h2 hik]
        have hI := fun W => ih (Mk.below n) hlt a whole W h1 hik (by omega)
        have hd := Mk.long_le 16 (Mk.below n) a whole (by omega) h1 hik
        generalize Mk.long a (Mk.below n) whole = d at hI hd ⊢
        generalize Mk.below n = k at hS hI hlt hpos hik
        have HS := Lib.hid hS; clear hS
        have HI := Lib.hid hI; clear hI ih
        have hik' : (a : Int) ≤ (k : Int) := by omega
        clear he
        go_enter Tryd.func50, Tryd.ntmps50
        go_wp2_with fail
        refine (HS.out _).mono ?_
        rintro e w1 ⟨rfl, rfl⟩
        go_wp2_with fail
        refine (HI.out _).mono ?_
        rintro e w2 ⟨rfl, rfl⟩
        go_wp2_with fail
        go_ret
        exact ⟨rfl, rfl⟩
      · rw [Mk.long_right whole he h2 hik]
        have hI := fun W => ih (n - Mk.below n) (by omega) (a - Mk.below n) false W (by omega) (by omega) (by omega)
        have hd := Mk.long_le 16 (n - Mk.below n) (a - Mk.below n) false (by omega) (by omega) (by omega)
        generalize Mk.long (a - Mk.below n) (n - Mk.below n) false = d at hI hd ⊢
        generalize Mk.below n = k at hS hI hlt hpos hik
        rw [show ((a - k : Nat) : Int) = (a : Int) - (k : Int) from by omega, show ((n - k : Nat) : Int) = (n : Int) - (k : Int) from by omega] at hI
        have HS := Lib.hid hS; clear hS
        have HI := Lib.hid hI; clear hI ih
        have hik' : ¬ (a : Int) ≤ (k : Int) := by omega
        clear he
        go_enter Tryd.func50, Tryd.ntmps50
        go_wp2_with fail
        refine (HS.out _).mono ?_
        rintro e w1 ⟨rfl, rfl⟩
        go_wp2_with fail
        refine (HI.out _).mono ?_
        rintro e w2 ⟨rfl, rfl⟩
        go_wp2_with fail
        go_ret
        exact ⟨rfl, rfl⟩
end Go.Proofs.YtphhaiccpllnpaaDoor
