/-
  How long paths and growth proofs are: the contracts of the seventh layer's statements' own Depth and Long.
-/
import Derived.Test.YtphhaiccpllnpaaDoorMkLen
namespace Go.Proofs.YtphhaiccpllnpaaDoor
open Go.RowKit
set_option linter.unusedVariables false

set_option maxHeartbeats 2000000 in
theorem mkDepth_any (n i : Nat) (w : World) (h1 : 1 ≤ n) (hn : n ≤ 65536) (hi : i < n) :
    Calls Tryd.prog 26 #[.int .i64 (i : Int), .int .i64 (n : Int)] w fun e w' => e = .returned (.int .i64 ((Mk.depth i n : Nat) : Int)) ∧ w' = w := by
  have hd0 := Mk.depth_le 16 n i (by omega) hi
  obtain ⟨d, hd⟩ : ∃ d, Mk.depth i n = d := ⟨_, rfl⟩
  rw [hd] at hd0 ⊢
  have HD := Lib.hid hd; clear hd
  go_enter Tryd.func26, Tryd.ntmps26
  go_wp2_with fail
  go_loopw [0, 1, 5] (fun v0 v1 v5 wr => ∃ i' n' o : Nat, v0 = .int .i64 (i' : Int) ∧ v1 = .int .i64 (n' : Int) ∧ v5 = .int .i64 (o : Int) ∧ 1 ≤ n' ∧ n' ≤ 65536 ∧ i' < n' ∧ o + Mk.depth i' n' = d ∧ wr = w) (fun _ v1 _ _ => (intOf v1).toNat)
  case atStart => exact ⟨i, n, 0, rfl, rfl, rfl, h1, hn, hi, by rw [HD.out, Nat.zero_add], rfl⟩
  case round =>
    obtain ⟨i', n', o, rfl, rfl, rfl, h1', hn', hi', ho, rfl⟩ := hrel
    by_cases h2 : 2 ≤ n'
    · have hS := fun W => mkBelow_any n' h2 (by omega) W
      have hlt := Mk.below_lt h2
      have hpos := Mk.below_pos n'
      by_cases hik : i' < Mk.below n'
      · rw [Mk.depth_left h2 hik] at ho
        have HO := Lib.hid ho; clear ho
        have hob : o ≤ 16 := by have := HO.out; omega
        generalize Mk.below n' = k at hS HO hlt hpos hik
        have HS := Lib.hid hS; clear hS
        have hik' : (i' : Int) < (k : Int) := by omega
        have hgt : (n' : Int) > 1 := by omega
        go_wp2_with fail
        refine (HS.out _).mono ?_
        rintro e w1 ⟨rfl, rfl⟩
        go_wp2_with fail
        go_roundw
        case rel => exact ⟨i', k, o + 1, rfl, rfl, by go_num, by omega, by omega, hik, by rw [← HO.out]; omega, trivial⟩
        case measure => simp [intOf]; omega
      · rw [Mk.depth_right h2 hik] at ho
        have HO := Lib.hid ho; clear ho
        have hob : o ≤ 16 := by have := HO.out; omega
        generalize Mk.below n' = k at hS HO hlt hpos hik
        have HS := Lib.hid hS; clear hS
        have hik' : ¬ (i' : Int) < (k : Int) := by omega
        have hgt : (n' : Int) > 1 := by omega
        go_wp2_with fail
        refine (HS.out _).mono ?_
        rintro e w1 ⟨rfl, rfl⟩
        go_wp2_with fail
        go_roundw
        case rel => exact ⟨i' - k, n' - k, o + 1, by go_num, by go_num, by go_num, by omega, by omega, by omega, by rw [← HO.out]; omega, trivial⟩
        case measure => simp [intOf]; omega
    · have h1n : n' = 1 := by omega
      subst h1n
      rw [Mk.depth_none (by omega), Nat.add_zero] at ho
      subst ho
      go_wp2_with fail
      go_ret
      exact ⟨rfl, rfl⟩

set_option maxHeartbeats 2000000 in
theorem mkLong_any : ∀ (n a : Nat) (whole : Bool) (w : World), 1 ≤ a → a ≤ n → n ≤ 65536 →
    Calls Tryd.prog 31 #[.int .i64 (a : Int), .int .i64 (n : Int), .bool whole] w fun e w' => e = .returned (.int .i64 ((Mk.long a n whole : Nat) : Int)) ∧ w' = w := by
  intro n
  induction n using Nat.strongRecOn with
  | ind n ih =>
    intro a whole w h1 han hn
    by_cases he : a = n
    · subst he
      rw [Mk.long_all whole rfl]
      clear ih
      cases whole with
      | true =>
        go_enter Tryd.func31, Tryd.ntmps31
        go_wp2_with fail
        go_ret
        exact ⟨rfl, rfl⟩
      | false =>
        go_enter Tryd.func31, Tryd.ntmps31
        go_wp2_with fail
        go_ret
        exact ⟨rfl, rfl⟩
    · have h2 : 2 ≤ n := by omega
      have hS := fun W => mkBelow_any n h2 (by omega) W
      have hlt := Mk.below_lt h2
      have hpos := Mk.below_pos n
      have hb1 : ((a : Int) == (n : Int)) = false := by simpa using (show ¬ (a : Int) = (n : Int) by omega)
      have hb2 : ¬ (n : Int) < 2 := by omega
      by_cases hik : a ≤ Mk.below n
      · rw [Mk.long_left whole he h2 hik]
        have hI := fun W => ih (Mk.below n) hlt a whole W h1 hik (by omega)
        have hd := Mk.long_le 16 (Mk.below n) a whole (by omega) h1 hik
        generalize Mk.long a (Mk.below n) whole = d at hI hd ⊢
        generalize Mk.below n = k at hS hI hlt hpos hik
        have HS := Lib.hid hS; clear hS
        have HI := Lib.hid hI; clear hI ih
        have hik' : (a : Int) ≤ (k : Int) := by omega
        clear he
        go_enter Tryd.func31, Tryd.ntmps31
        go_wp2_with fail
        refine (HS.out _).mono ?_
        rintro e w1 ⟨rfl, rfl⟩
        go_wp2_with fail
        refine (HI.out _).mono ?_
        rintro e w2 ⟨rfl, rfl⟩
        go_wp2_with fail
        go_ret
        refine ⟨?_, rfl⟩
        exact congrArg (fun z => Ending.returned (Value.int .i64 z)) (by omega)
      · rw [Mk.long_right whole he h2 hik]
        have hI := fun W => ih (n - Mk.below n) (by omega) (a - Mk.below n) false W (by omega) (by omega) (by omega)
        have hd := Mk.long_le 16 (n - Mk.below n) (a - Mk.below n) false (by omega) (by omega) (by omega)
        generalize Mk.long (a - Mk.below n) (n - Mk.below n) false = d at hI hd ⊢
        generalize Mk.below n = k at hS hI hlt hpos hik
        rw [show ((a - k : Nat) : Int) = (a : Int) - (k : Int) from by omega, show ((n - k : Nat) : Int) = (n : Int) - (k : Int) from by omega] at hI
        have HS := Lib.hid hS; clear hS
        have HI := Lib.hid hI; clear hI ih
        have hik' : ¬ (a : Int) ≤ (k : Int) := by omega
        clear he
        go_enter Tryd.func31, Tryd.ntmps31
        go_wp2_with fail
        refine (HS.out _).mono ?_
        rintro e w1 ⟨rfl, rfl⟩
        go_wp2_with fail
        refine (HI.out _).mono ?_
        rintro e w2 ⟨rfl, rfl⟩
        go_wp2_with fail
        go_ret
        refine ⟨?_, rfl⟩
        exact congrArg (fun z => Ending.returned (Value.int .i64 z)) (by omega)
end Go.Proofs.YtphhaiccpllnpaaDoor
