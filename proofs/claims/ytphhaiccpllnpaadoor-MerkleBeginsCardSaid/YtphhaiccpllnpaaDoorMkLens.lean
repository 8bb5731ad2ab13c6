/-
  MkLens: the texts MkNum, MkLen, MkLenL, MkRows in one.
-/
import Derived.Test.YtphhaiccpllnpaaDoorMem
import Derived.Test.YtphhaiccpllnpaaDoorChecked
import Derived.Lib.BitFns
import Derived.Lib.ItoaNum
import Derived.Lib.Hide
import Derived.Test.YtphhaiccpllnpaaDoorMkPures
import Derived.Test.YtphhaiccpllnpaaDoorMillMem
import Derived.Test.YtphhaiccpllnpaaDoorTextArg
import Derived.Deep.QuietTactic
import Derived.BigQuiet
namespace Go.Proofs.YtphhaiccpllnpaaDoor
open Go.RowKit
set_option linter.unusedVariables false

theorem Mk.bitLen_log (x : Nat) (h1 : 1 ≤ x) (hx : x < 65536) : Lib.bitLen x = Nat.log2 x + 1 := by
  obtain ⟨a, b, c⟩ := Lib.bitLenAux_bounds 64 x (by omega) (by omega)
  unfold Lib.bitLen
  generalize Lib.bitLenAux 64 x = L at a b c ⊢
  have hL : Nat.log2 x = L - 1 := by
    rw [Nat.log2_eq_iff (by omega)]
    exact ⟨b, by rw [show L - 1 + 1 = L from by omega]; exact c⟩
  omega
theorem Mk.log_le {x : Nat} (h1 : 1 ≤ x) (hx : x < 65536) : Nat.log2 x ≤ 15 := by
  have : Nat.log2 x < 16 := (Nat.log2_lt (by omega)).2 (by omega)
  omega
set_option maxRecDepth 100000 in
theorem len8tab_size : (Lib.len8tab.size : Int) = 256 := by
  have : Lib.len8tab.size = 256 := by decide
  omega
theorem wrap_one8 (a : Nat) (ha : a ≤ 8) : wrap64 (wrap64 (a : Int)) = (a : Int) := by
  unfold wrap64
  omega
theorem wrap_add8 (a b : Nat) (ha : a ≤ 8) (hb : b = 8 + a) : wrap64 (8 + wrap64 (a : Int)) = (b : Int) := by
  unfold wrap64
  omega
theorem len8_get (y : Int) (h : y.toNat < Lib.len8tab.size) : ((Lib.len8tab[y.toNat]'h).toNat : Int) = Lib.len8 y := by
  unfold Lib.len8
  rw [getElem?_pos Lib.len8tab y.toNat h]
  rfl
set_option maxHeartbeats 4000000 in
set_option maxRecDepth 100000 in
theorem len64_any (x : Int) (w : World) (h0 : 0 ≤ x) (h1 : x < 65536) :
    Calls Tryd.prog 67 #[.int .u64 x] w fun e w' => e = .returned (.int .i64 (Lib.bitLen x.toNat)) ∧ w' = w := by
  have hs := len8tab_size
  go_enter Tryd.func67, Tryd.ntmps67
  go_wp2
  all_goals first
    | (go_ret; refine ⟨congrArg Ending.returned (congrArg (Value.int IntKind.i64) ?_), rfl⟩)
    | (exfalso; omega)
  all_goals first
    | (rw [len8_get (x / 256) _, Lib.len8_of (x / 256) (by omega) (by omega)]
       have e : (x / 256).toNat = x.toNat / 256 := by omega
       have l := Lib.bitLen_le8' (x / 256) (by omega) (by omega)
       have s := Lib.bitLen_shift8 x.toNat (by omega) (by omega)
       rw [e] at l ⊢
       exact wrap_add8 _ _ l s)
    | (rw [len8_get x _, Lib.len8_of x (by omega) (by omega)]
       exact wrap_one8 _ (Lib.bitLen_le8' x (by omega) (by omega)))

theorem wrap_two (k : Nat) (hk : k ≤ 15) : wrap64 ((2 : Int) ^ k) = ((2 ^ k : Nat) : Int) := by
  have h1 : 2 ^ k ≤ 2 ^ 15 := Nat.pow_le_pow_right (by omega) hk
  have h2 : ((2 : Int) ^ k) = ((2 ^ k : Nat) : Int) := by rw [Int.natCast_pow]; rfl
  rw [h2]
  clear h2
  generalize (2 : Nat) ^ k = p at h1 ⊢
  unfold wrap64
  omega
set_option maxHeartbeats 4000000 in
theorem len_any (x : Int) (w : World) (h0 : 0 ≤ x) (h1 : x < 65536) :
    Calls Tryd.prog 62 #[.int .u64 x] w fun e w' => e = .returned (.int .i64 (Lib.bitLen x.toNat)) ∧ w' = w := by
  have HL := Lib.hid (fun W => len64_any x W h0 h1)
  go_enter Tryd.func62, Tryd.ntmps62
  go_wp2_with fail
  refine (HL.out _).mono ?_
  rintro e w1 ⟨rfl, rfl⟩
  go_wp2_with fail
  go_ret
  exact ⟨rfl, rfl⟩
set_option maxHeartbeats 4000000 in
theorem split_any (n : Nat) (w : World) (h2 : 2 ≤ n) (hn : n ≤ 65536) :
    Calls Tryd.prog 59 #[.int .i64 (n : Int)] w fun e w' => e = .returned (.int .i64 ((2 ^ Nat.log2 (n - 1) : Nat) : Int)) ∧ w' = w := by
  have hL := fun W => len_any ((n : Int) - 1) W (by omega) (by omega)
  have hl := Mk.log_le (x := n - 1) (by omega) (by omega)
  rw [show ((n : Int) - 1).toNat = n - 1 from by omega, Mk.bitLen_log _ (by omega) (by omega)] at hL
  generalize Nat.log2 (n - 1) = k at hL hl ⊢
  have HL := Lib.hid hL; clear hL
  go_enter Tryd.func59, Tryd.ntmps59
  go_wp2_with fail
  refine (HL.out _).mono ?_
  rintro e w1 ⟨rfl, rfl⟩
  go_wp2_with fail
  go_ret
  exact ⟨congrArg (fun z => Ending.returned (Value.int .i64 z)) (wrap_two k hl), rfl⟩
end Go.Proofs.YtphhaiccpllnpaaDoor

namespace Go.Proofs.YtphhaiccpllnpaaDoor
open Go.RowKit
set_option linter.unusedVariables false

theorem splitB_any (n : Nat) (w : World) (h2 : 2 ≤ n) (hn : n ≤ 65536) :
    Calls Tryd.prog 59 #[.int .i64 (n : Int)] w fun e w' => e = .returned (.int .i64 ((Mk.below n : Nat) : Int)) ∧ w' = w := split_any n w h2 hn
theorem Mk.below_go {n e : Nat} (h1 : 2 ^ e < n) (h2 : ¬ 2 * 2 ^ e < n) : (2 ^ e : Nat) = below n := (below_eq h1 (by omega)).symm

set_option maxHeartbeats 2000000 in
theorem mkBelow_any (n : Nat) (h2 : 2 ≤ n) (hn : n ≤ 1000000000000000) (w : World) :
    Calls Tryd.prog 40 #[.int .i64 (n : Int)] w fun e w' => e = .returned (.int .i64 ((Mk.below n : Nat) : Int)) ∧ w' = w := by
  go_enter Tryd.func40, Tryd.ntmps40
  go_wp2_with fail
  go_loopw [3] (fun v3 wr => ∃ e : Nat, 2 ^ e < n ∧ v3 = .int .i64 ((2 ^ e : Nat) : Int) ∧ wr = w) (fun v3 _ => n - (intOf v3).toNat)
  case atStart => exact ⟨0, by omega, rfl, rfl⟩
  case round =>
    obtain ⟨e, he, rfl, rfl⟩ := hrel
    have hpos := Nat.two_pow_pos e
    obtain ⟨k, hk⟩ : ∃ k, 2 ^ e = k := ⟨_, rfl⟩
    have hs : 2 ^ (e + 1) = 2 * k := by rw [Nat.pow_succ, hk]; omega
    have HB := Lib.hid (fun h => Mk.below_go (n := n) (e := e) he h)
    rw [hk] at HB he hpos ⊢
    have HS := Lib.hid hs; clear hs hk
    by_cases hl : 2 * k < n
    · have hi : 2 * (k : Int) < (n : Int) := by omega
      go_wp2_with fail
      go_roundw
      case rel => exact ⟨e + 1, by rw [HS.out]; omega, by rw [HS.out]; go_num, trivial⟩
      case measure => simp [intOf]; omega
    · have hi : ¬ 2 * (k : Int) < (n : Int) := by omega
      go_wp2_with fail
      go_ret
      exact ⟨by rw [← HB.out hl]; rfl, rfl⟩

set_option maxHeartbeats 2000000 in
theorem pathLen_any : ∀ (n i : Nat) (w : World), 1 ≤ n → n ≤ 65536 → i < n →
    Calls Tryd.prog 44 #[.int .i64 (i : Int), .int .i64 (n : Int)] w fun e w' => e = .returned (.int .i64 ((Mk.depth i n : Nat) : Int)) ∧ w' = w := by
  intro n
  induction n using Nat.strongRecOn with
  | ind n ih =>
    intro i w h1 hn hi
    by_cases h2 : 2 ≤ n
    · have hS := fun W => splitB_any n W h2 hn
      have hlt := Mk.below_lt h2
      have hpos := Mk.below_pos n
      have hb1 : ((n : Int) == 1) = false := by simpa using (show ¬ (n : Int) = 1 by omega)
      by_cases hik : i < Mk.below n
      · rw [Mk.depth_left h2 hik]
        have hI := fun W => ih (Mk.below n) hlt i W hpos (by omega) hik
        have hd := Mk.depth_le 16 (Mk.below n) i (by omega) hik
        generalize Mk.depth i (Mk.below n) = d at hI hd ⊢
        generalize Mk.below n = k at hS hI hlt hpos hik
        have HS := Lib.hid hS; clear hS
        have HI := Lib.hid hI; clear hI ih
        have hik' : (i : Int) < (k : Int) := by omega
        go_enter Tryd.func44, Tryd.ntmps44
        go_wp2_with fail
        refine (HS.out _).mono ?_
        rintro e w1 ⟨rfl, rfl⟩
        go_wp2_with fail
        refine (HI.out _).mono ?_
        rintro e w2 ⟨rfl, rfl⟩
        go_wp2_with fail
        go_ret
        exact ⟨rfl, rfl⟩
      · rw [Mk.depth_right h2 hik]
        have hI := fun W => ih (n - Mk.below n) (by omega) (i - Mk.below n) W (by omega) (by omega) (by omega)
        have hd := Mk.depth_le 16 (n - Mk.below n) (i - Mk.below n) (by omega) (by omega)
        generalize Mk.depth (i - Mk.below n) (n - Mk.below n) = d at hI hd ⊢
        generalize Mk.below n = k at hS hI hlt hpos hik
        rw [show ((i - k : Nat) : Int) = (i : Int) - (k : Int) from by omega, show ((n - k : Nat) : Int) = (n : Int) - (k : Int) from by omega] at hI
        have HS := Lib.hid hS; clear hS
        have HI := Lib.hid hI; clear hI ih
        have hik' : ¬ (i : Int) < (k : Int) := by omega
        go_enter Tryd.func44, Tryd.ntmps44
        go_wp2_with fail
        refine (HS.out _).mono ?_
        rintro e w1 ⟨rfl, rfl⟩
        go_wp2_with fail
        refine (HI.out _).mono ?_
        rintro e w2 ⟨rfl, rfl⟩
        go_wp2_with fail
        go_ret
        exact ⟨rfl, rfl⟩
    · have h1n : n = 1 := by omega
      subst h1n
      rw [Mk.depth_none (by omega)]
      clear ih
      go_enter Tryd.func44, Tryd.ntmps44
      go_wp2_with fail
      go_ret
      exact ⟨rfl, rfl⟩

set_option maxHeartbeats 2000000 in
theorem growthLen_any : ∀ (n a : Nat) (whole : Bool) (w : World), 1 ≤ a → a ≤ n → n ≤ 65536 →
    Calls Tryd.prog 50 #[.int .i64 (a : Int), .int .i64 (n : Int), .bool whole] w fun e w' => e = .returned (.int .i64 ((Mk.long a n whole : Nat) : Int)) ∧ w' = w := by
  intro n
  induction n using Nat.strongRecOn with
  | ind n ih =>
    intro a whole w h1 han hn
    by_cases he : a = n
    · subst he
      rw [Mk.long_all whole rfl]
      clear ih
      cases whole with
      | true =>
        go_enter Tryd.func50, Tryd.ntmps50
        go_wp2_with fail
        go_ret
        exact ⟨rfl, rfl⟩
      | false =>
        go_enter Tryd.func50, Tryd.ntmps50
        go_wp2_with fail
        go_ret
        exact ⟨rfl, rfl⟩
    · have h2 : 2 ≤ n := by omega
      have hS := fun W => splitB_any n W h2 hn
      have hlt := Mk.below_lt h2
      have hpos := Mk.below_pos n
      have hb1 : ((a : Int) == (n : Int)) = false := by simpa using (show ¬ (a : Int) = (n : Int) by omega)
      by_cases hik : a ≤ Mk.below n
      · rw [Mk.long_left whole he h2 hik]
        have hI := fun W => ih (Mk.below n) hlt a whole W h1 hik (by omega)
        have hd := Mk.long_le 16 (Mk.below n) a whole (by omega) h1 hik
        generalize Mk.long a (Mk.below n) whole = d at hI hd ⊢
        generalize Mk.below n = k at hS hI hlt hpos hik
        have HS := Lib.hid hS; clear hS
        have HI := Lib.hid hI; clear hI ih
        have hik' : (a : Int) ≤ (k : Int) := by omega
        clear he
        go_enter Tryd.func50, Tryd.ntmps50
        go_wp2_with fail
        refine (HS.out _).mono ?_
        rintro e w1 ⟨rfl, rfl⟩
        go_wp2_with fail
        refine (HI.out _).mono ?_
        rintro e w2 ⟨rfl, rfl⟩
        go_wp2_with fail
        go_ret
        exact ⟨rfl, rfl⟩
      · rw [Mk.long_right whole he h2 hik]
        have hI := fun W => ih (n - Mk.below n) (by omega) (a - Mk.below n) false W (by omega) (by omega) (by omega)
        have hd := Mk.long_le 16 (n - Mk.below n) (a - Mk.below n) false (by omega) (by omega) (by omega)
        generalize Mk.long (a - Mk.below n) (n - Mk.below n) false = d at hI hd ⊢
        generalize Mk.below n = k at hS hI hlt hpos hik
        rw [show ((a - k : Nat) : Int) = (a : Int) - (k : Int) from by omega, show ((n - k : Nat) : Int) = (n : Int) - (k : Int) from by omega] at hI
        have HS := Lib.hid hS; clear hS
        have HI := Lib.hid hI; clear hI ih
        have hik' : ¬ (a : Int) ≤ (k : Int) := by omega
        clear he
        go_enter Tryd.func50, Tryd.ntmps50
        go_wp2_with fail
        refine (HS.out _).mono ?_
        rintro e w1 ⟨rfl, rfl⟩
        go_wp2_with fail
        refine (HI.out _).mono ?_
        rintro e w2 ⟨rfl, rfl⟩
        go_wp2_with fail
        go_ret
        exact ⟨rfl, rfl⟩
end Go.Proofs.YtphhaiccpllnpaaDoor

namespace Go.Proofs.YtphhaiccpllnpaaDoor
open Go.RowKit
set_option linter.unusedVariables false

set_option maxHeartbeats 2000000 in
theorem mkDepth_any (n i : Nat) (w : World) (h1 : 1 ≤ n) (hn : n ≤ 65536) (hi : i < n) :
    Calls Tryd.prog 26 #[.int .i64 (i : Int), .int .i64 (n : Int)] w fun e w' => e = .returned (.int .i64 ((Mk.depth i n : Nat) : Int)) ∧ w' = w := by
  have hd0 := Mk.depth_le 16 n i (by omega) hi
  obtain ⟨d, hd⟩ : ∃ d, Mk.depth i n = d := ⟨_, rfl⟩
  rw [hd] at hd0 ⊢
  have HD := Lib.hid hd; clear hd
  go_enter Tryd.func26, Tryd.ntmps26
  go_wp2_with fail
  go_loopw [0, 1, 5] (fun v0 v1 v5 wr => ∃ i' n' o : Nat, v0 = .int .i64 (i' : Int) ∧ v1 = .int .i64 (n' : Int) ∧ v5 = .int .i64 (o : Int) ∧ 1 ≤ n' ∧ n' ≤ 65536 ∧ i' < n' ∧ o + Mk.depth i' n' = d ∧ wr = w) (fun _ v1 _ _ => (intOf v1).toNat)
  case atStart => exact ⟨i, n, 0, rfl, rfl, rfl, h1, hn, hi, by rw [HD.out, Nat.zero_add], rfl⟩
  case round =>
    obtain ⟨i', n', o, rfl, rfl, rfl, h1', hn', hi', ho, rfl⟩ := hrel
    by_cases h2 : 2 ≤ n'
    · have hS := fun W => mkBelow_any n' h2 (by omega) W
      have hlt := Mk.below_lt h2
      have hpos := Mk.below_pos n'
      by_cases hik : i' < Mk.below n'
      · rw [Mk.depth_left h2 hik] at ho
        have HO := Lib.hid ho; clear ho
        have hob : o ≤ 16 := by have := HO.out; omega
        generalize Mk.below n' = k at hS HO hlt hpos hik
        have HS := Lib.hid hS; clear hS
        have hik' : (i' : Int) < (k : Int) := by omega
        have hgt : (n' : Int) > 1 := by omega
        go_wp2_with fail
        refine (HS.out _).mono ?_
        rintro e w1 ⟨rfl, rfl⟩
        go_wp2_with fail
        go_roundw
        case rel => exact ⟨i', k, o + 1, rfl, rfl, by go_num, by omega, by omega, hik, by rw [← HO.out]; omega, trivial⟩
        case measure => simp [intOf]; omega
      · rw [Mk.depth_right h2 hik] at ho
        have HO := Lib.hid ho; clear ho
        have hob : o ≤ 16 := by have := HO.out; omega
        generalize Mk.below n' = k at hS HO hlt hpos hik
        have HS := Lib.hid hS; clear hS
        have hik' : ¬ (i' : Int) < (k : Int) := by omega
        have hgt : (n' : Int) > 1 := by omega
        go_wp2_with fail
        refine (HS.out _).mono ?_
        rintro e w1 ⟨rfl, rfl⟩
        go_wp2_with fail
        go_roundw
        case rel => exact ⟨i' - k, n' - k, o + 1, by go_num, by go_num, by go_num, by omega, by omega, by omega, by rw [← HO.out]; omega, trivial⟩
        case measure => simp [intOf]; omega
    · have h1n : n' = 1 := by omega
      subst h1n
      rw [Mk.depth_none (by omega), Nat.add_zero] at ho
      subst ho
      go_wp2_with fail
      go_ret
      exact ⟨rfl, rfl⟩

set_option maxHeartbeats 2000000 in
theorem mkLong_any : ∀ (n a : Nat) (whole : Bool) (w : World), 1 ≤ a → a ≤ n → n ≤ 65536 →
    Calls Tryd.prog 31 #[.int .i64 (a : Int), .int .i64 (n : Int), .bool whole] w fun e w' => e = .returned (.int .i64 ((Mk.long a n whole : Nat) : Int)) ∧ w' = w := by
  intro n
  induction n using Nat.strongRecOn with
  | ind n ih =>
    intro a whole w h1 han hn
    by_cases he : a = n
    · subst he
      rw [Mk.long_all whole rfl]
      clear ih
      cases whole with
      | true =>
        go_enter Tryd.func31, Tryd.ntmps31
        go_wp2_with fail
        go_ret
        exact ⟨rfl, rfl⟩
      | false =>
        go_enter Tryd.func31, Tryd.ntmps31
        go_wp2_with fail
        go_ret
        exact ⟨rfl, rfl⟩
    · have h2 : 2 ≤ n := by omega
      have hS := fun W => mkBelow_any n h2 (by omega) W
      have hlt := Mk.below_lt h2
      have hpos := Mk.below_pos n
      have hb1 : ((a : Int) == (n : Int)) = false := by simpa using (show ¬ (a : Int) = (n : Int) by omega)
      have hb2 : ¬ (n : Int) < 2 := by omega
      by_cases hik : a ≤ Mk.below n
      · rw [Mk.long_left whole he h2 hik]
        have hI := fun W => ih (Mk.below n) hlt a whole W h1 hik (by omega)
        have hd := Mk.long_le 16 (Mk.below n) a whole (by omega) h1 hik
        generalize Mk.long a (Mk.below n) whole = d at hI hd ⊢
        generalize Mk.below n = k at hS hI hlt hpos hik
        have HS := Lib.hid hS; clear hS
        have HI := Lib.hid hI; clear hI ih
        have hik' : (a : Int) ≤ (k : Int) := by omega
        clear he
        go_enter Tryd.func31, Tryd.ntmps31
        go_wp2_with fail
        refine (HS.out _).mono ?_
        rintro e w1 ⟨rfl, rfl⟩
        go_wp2_with fail
        refine (HI.out _).mono ?_
        rintro e w2 ⟨rfl, rfl⟩
        go_wp2_with fail
        go_ret
        refine ⟨?_, rfl⟩
        exact congrArg (fun z => Ending.returned (Value.int .i64 z)) (by omega)
      · rw [Mk.long_right whole he h2 hik]
        have hI := fun W => ih (n - Mk.below n) (by omega) (a - Mk.below n) false W (by omega) (by omega) (by omega)
        have hd := Mk.long_le 16 (n - Mk.below n) (a - Mk.below n) false (by omega) (by omega) (by omega)
        generalize Mk.long (a - Mk.below n) (n - Mk.below n) false = d at hI hd ⊢
        generalize Mk.below n = k at hS hI hlt hpos hik
        rw [show ((a - k : Nat) : Int) = (a : Int) - (k : Int) from by omega, show ((n - k : Nat) : Int) = (n : Int) - (k : Int) from by omega] at hI
        have HS := Lib.hid hS; clear hS
        have HI := Lib.hid hI; clear hI ih
        have hik' : ¬ (a : Int) ≤ (k : Int) := by omega
        clear he
        go_enter Tryd.func31, Tryd.ntmps31
        go_wp2_with fail
        refine (HS.out _).mono ?_
        rintro e w1 ⟨rfl, rfl⟩
        go_wp2_with fail
        refine (HI.out _).mono ?_
        rintro e w2 ⟨rfl, rfl⟩
        go_wp2_with fail
        go_ret
        refine ⟨?_, rfl⟩
        exact congrArg (fun z => Ending.returned (Value.int .i64 z)) (by omega)
end Go.Proofs.YtphhaiccpllnpaaDoor

namespace Go.Proofs.YtphhaiccpllnpaaDoor
open Go.RowKit
set_option linter.unusedVariables false

theorem belowN {B : Nat} {a w : World} (h : Below B a w) (n : Nat) : Below B a (w.drewN n) := h.trans ⟨rfl, rfl, rfl, Nat.le_refl _, fun _ _ => rfl⟩
theorem TRow.take {w : World} {b off : Nat} {L : List (List UInt8)} (h : TRow w b off L) (k : Nat) : TRow w b off (L.take k) := fun i hi => by
  rw [List.length_take] at hi
  rw [List.getElem_take]
  exact h i (by omega)
theorem TRow.drop {w : World} {b off : Nat} {L : List (List UInt8)} (h : TRow w b off L) (k : Nat) : TRow w b (off + k) (L.drop k) := fun i hi => by
  rw [List.length_drop] at hi
  rw [List.getElem_drop, Nat.add_assoc]
  exact h (k + i) (by omega)
theorem TRow.front {w : World} {b off : Nat} {P Q : List (List UInt8)} (h : TRow w b off (P ++ Q)) : TRow w b off P := by
  have := h.take P.length
  rwa [List.take_left] at this
theorem World.cell_block {w w' : World} {b off : Nat} {v : Value} (h : w'.heap[b]? = w.heap[b]?) (hc : w.cell? ⟨b, off, none⟩ = some v) : w'.cell? ⟨b, off, none⟩ = some v := by
  unfold World.cell? at hc ⊢
  rw [h]; exact hc
theorem TRow.mv {w w' : World} {s : List Nat} {b off : Nat} {L : List (List UInt8)} (h : TRow w b off L) (hm : Mv w w' s) (hb : b < w.heap.size) (hn : b ∉ s) : TRow w' b off L := fun i hi =>
  World.cell_block (hm.block b hb hn) (h i hi)
/-- A slice at A reads as L, in a block that is there and none of s. -/
def RowS (w : World) (s : List Nat) (A : Option Addr) (L : List (List UInt8)) : Prop := L ≠ [] → ∃ b off, A = some ⟨b, off, none⟩ ∧ b < w.heap.size ∧ b ∉ s ∧ TRow w b off L
theorem RowS.nil (w : World) (s : List Nat) (A : Option Addr) : RowS w s A [] := fun h => absurd rfl h
theorem RowS.mv {w w' : World} {s t : List Nat} {A : Option Addr} {L : List (List UInt8)} (h : RowS w s A L) (hm : Mv w w' t) (ht : ∀ x ∈ t, x ∈ s) : RowS w' s A L := fun hl => by
  obtain ⟨b, off, hA, hb, hn, hr⟩ := h hl
  exact ⟨b, off, hA, Nat.lt_of_lt_of_le hb hm.size, hn, hr.mv hm hb (fun hx => hn (ht b hx))⟩
theorem RowS.below {w w' : World} {s : List Nat} {A : Option Addr} {L : List (List UInt8)} (h : RowS w s A L) (hb : Below w.heap.size w w') : RowS w' s A L := h.mv (Mv.of_below hb []) (by simp)
theorem RowS.take {w : World} {s : List Nat} {A : Option Addr} {L : List (List UInt8)} (h : RowS w s A L) (k : Nat) : RowS w s A (L.take k) := fun hl => by
  obtain ⟨b, off, hA, hb, hn, hr⟩ := h (fun e => hl (by rw [e, List.take_nil]))
  exact ⟨b, off, hA, hb, hn, hr.take k⟩
theorem RowS.of {w : World} {s : List Nat} {b off : Nat} {L : List (List UInt8)} (hb : b < w.heap.size) (hn : b ∉ s) (hr : TRow w b off L) : RowS w s (some ⟨b, off, none⟩) L := fun _ => ⟨b, off, rfl, hb, hn, hr⟩

namespace Mk
def allSums (L : List T) : Bool := L.all (fun s => s.length == 32)
theorem allSums_iff (L : List T) : allSums L = true ↔ Sums L := by
  unfold allSums Sums
  rw [List.all_eq_true]
  exact ⟨fun h x hx => by simpa using h x hx, fun h x hx => by simpa using h x hx⟩
theorem allSums_take {L : List T} {k : Nat} (hk : k < L.length) (h : allSums (L.take k) = true) (hl : (L[k]'hk).length = 32) : allSums (L.take (k + 1)) = true := by
  rw [List.take_succ_eq_append_getElem hk]
  unfold allSums at h ⊢
  rw [List.all_append, h]
  simpa using hl
theorem allSums_not {L : List T} {k : Nat} (hk : k < L.length) (hl : (L[k]'hk).length ≠ 32) : allSums L = false := by
  cases h : allSums L with
  | false => rfl
  | true => exact absurd ((allSums_iff L).1 h _ (List.getElem_mem hk)) hl
end Mk

set_option maxHeartbeats 2000000 in
theorem areHashes_any (A : Option Addr) (cap : Nat) (L : List (List UInt8)) (s : List Nat) (w : World) (h : RowS w s A L) (hc : L.length ≤ cap) (hb : cap ≤ 9223372036854775807) :
    Calls Tryd.prog 45 #[.slice A L.length cap] w fun e w' => e = .returned (.bool (Mk.allSums L)) ∧ w' = w := by
  obtain ⟨res, hres⟩ : ∃ r, Mk.allSums L = r := ⟨_, rfl⟩
  rw [hres]
  have HR := Lib.hid hres; clear hres
  go_enter Tryd.func45, Tryd.ntmps45
  go_wp2_with fail
  go_loopw [7] (fun v7 wr => ∃ k : Nat, k ≤ L.length ∧ v7 = .int .i64 (k : Int) ∧ Mk.allSums (L.take k) = true ∧ wr = w) (fun v7 _ => L.length - (intOf v7).toNat)
  case atStart => exact ⟨0, Nat.zero_le _, rfl, rfl, rfl⟩
  case round =>
    obtain ⟨k, hk, rfl, hall, rfl⟩ := hrel
    by_cases hlt : k < L.length
    · obtain ⟨b, off, rfl, hbl, hn, hr⟩ := h (fun e => by rw [e] at hlt; exact absurd hlt (Nat.not_lt_zero _))
      have hcell := hr k hlt
      by_cases h32 : (L[k]'hlt).length = 32
      · have HA := Lib.hid (Mk.allSums_take hlt hall h32)
        generalize L[k]'hlt = x at hcell h32
        obtain ⟨n, hN⟩ : ∃ n, L.length = n := ⟨_, rfl⟩
        rw [hN] at hlt hk hc ⊢
        have hx : (x.length : Int) = 32 := by omega
        go_wp2_with fail
        go_roundw
        case rel => exact ⟨k + 1, by omega, by go_num, HA.out, trivial⟩
        case measure => simp [intOf]; omega
      · have HE := Lib.hid ((Mk.allSums_not hlt h32).symm.trans HR.out)
        clear HR hall
        generalize L[k]'hlt = x at hcell h32
        generalize L.length = n at hlt hk hc ⊢
        have hx : ((x.length : Int) != 32) = true := by simpa using (show ¬ (x.length : Int) = 32 by omega)
        go_wp2_with fail
        go_ret
        exact ⟨congrArg (fun z => Ending.returned (Value.bool z)) HE.out, rfl⟩
    · have hkn : k = L.length := by omega
      rw [hkn, List.take_length] at hall
      have HE := Lib.hid (hall.symm.trans HR.out)
      clear HR hall
      rw [hkn]
      generalize L.length = n at hc ⊢
      go_wp2_with fail
      go_ret
      exact ⟨congrArg (fun z => Ending.returned (Value.bool z)) HE.out, rfl⟩
set_option maxHeartbeats 2000000 in
theorem mkSums_any (A : Option Addr) (cap : Nat) (L : List (List UInt8)) (s : List Nat) (w : World) (h : RowS w s A L) (hc : L.length ≤ cap) (hb : cap ≤ 9223372036854775807) :
    Calls Tryd.prog 25 #[.slice A L.length cap] w fun e w' => e = .returned (.bool (Mk.allSums L)) ∧ w' = w := by
  obtain ⟨res, hres⟩ : ∃ r, Mk.allSums L = r := ⟨_, rfl⟩
  rw [hres]
  have HR := Lib.hid hres; clear hres
  go_enter Tryd.func25, Tryd.ntmps25
  go_wp2_with fail
  go_loopw [3] (fun v3 wr => ∃ k : Nat, k ≤ L.length ∧ v3 = .int .i64 (k : Int) ∧ Mk.allSums (L.take k) = true ∧ wr = w) (fun v3 _ => L.length - (intOf v3).toNat)
  case atStart => exact ⟨0, Nat.zero_le _, rfl, rfl, rfl⟩
  case round =>
    obtain ⟨k, hk, rfl, hall, rfl⟩ := hrel
    by_cases hlt : k < L.length
    · obtain ⟨b, off, rfl, hbl, hn, hr⟩ := h (fun e => by rw [e] at hlt; exact absurd hlt (Nat.not_lt_zero _))
      have hcell := hr k hlt
      by_cases h32 : (L[k]'hlt).length = 32
      · have HA := Lib.hid (Mk.allSums_take hlt hall h32)
        generalize L[k]'hlt = x at hcell h32
        obtain ⟨n, hN⟩ : ∃ n, L.length = n := ⟨_, rfl⟩
        rw [hN] at hlt hk hc ⊢
        have hx : (x.length : Int) = 32 := by omega
        go_wp2_with fail
        go_roundw
        case rel => exact ⟨k + 1, by omega, by go_num, HA.out, trivial⟩
        case measure => simp [intOf]; omega
      · have HE := Lib.hid ((Mk.allSums_not hlt h32).symm.trans HR.out)
        clear HR hall
        generalize L[k]'hlt = x at hcell h32
        generalize L.length = n at hlt hk hc ⊢
        have hx : ((x.length : Int) != 32) = true := by simpa using (show ¬ (x.length : Int) = 32 by omega)
        go_wp2_with fail
        go_ret
        exact ⟨congrArg (fun z => Ending.returned (Value.bool z)) HE.out, rfl⟩
    · have hkn : k = L.length := by omega
      rw [hkn, List.take_length] at hall
      have HE := Lib.hid (hall.symm.trans HR.out)
      clear HR hall
      rw [hkn]
      generalize L.length = n at hc ⊢
      go_wp2_with fail
      go_ret
      exact ⟨congrArg (fun z => Ending.returned (Value.bool z)) HE.out, rfl⟩

namespace Mk
theorem take_same {A B : List T} {k : Nat} (ha : k < A.length) (hb : k < B.length) (h : A.take k = B.take k) (he : A[k]'ha = B[k]'hb) : A.take (k + 1) = B.take (k + 1) := by
  rw [List.take_succ_eq_append_getElem ha, List.take_succ_eq_append_getElem hb, h, he]
theorem not_same {A B : List T} {k : Nat} (ha : k < A.length) (hb : k < B.length) (he : ¬ A[k]'ha = B[k]'hb) : ¬ A = B := fun e => by subst e; exact he rfl
end Mk

set_option maxHeartbeats 4000000 in
theorem mkSame_any (P Q : Option Addr) (c1 c2 : Nat) (A B : List (List UInt8)) (s t : List Nat) (w : World) (hA : RowS w s P A) (hB : RowS w t Q B) (h1 : A.length ≤ c1) (h2 : B.length ≤ c2) (hc1 : c1 ≤ 9223372036854775807) (hc2 : c2 ≤ 9223372036854775807) :
    Calls Tryd.prog 23 #[.slice P A.length c1, .slice Q B.length c2] w fun e w' => e = .returned (.bool (decide (A = B))) ∧ Below w.heap.size w w' := by
  obtain ⟨res, hres⟩ : ∃ r, decide (A = B) = r := ⟨_, rfl⟩
  rw [hres]
  have HR := Lib.hid hres; clear hres
  by_cases hl : A.length = B.length
  · have hlen : ((A.length : Int) != (B.length : Int)) = false := by simpa using (show (A.length : Int) = (B.length : Int) by omega)
    obtain ⟨n, hN⟩ : ∃ n, A.length = n := ⟨_, rfl⟩
    have hM : B.length = n := hl.symm.trans hN
    rw [hN] at h1 hlen ⊢
    rw [hM] at h2 hlen ⊢
    have HN := Lib.hid (And.intro hN hM); clear hN hM hl
    go_enter Tryd.func23, Tryd.ntmps23
    go_wp2_with fail
    go_loopw [5] (fun v5 wr => ∃ k : Nat, k ≤ n ∧ v5 = .int .i64 (k : Int) ∧ A.take k = B.take k ∧ Below w.heap.size w wr) (fun v5 _ => n - (intOf v5).toNat)
    case atStart => exact ⟨0, Nat.zero_le _, rfl, rfl, Below.refl _ _⟩
    case round =>
      obtain ⟨k, hk, rfl, htk, hbw⟩ := hrel
      by_cases hlt : k < n
      · have hka : k < A.length := by rw [HN.out.1]; exact hlt
        have hkb : k < B.length := by rw [HN.out.2]; exact hlt
        obtain ⟨b, off, hP, hbl, hn, hr⟩ := hA (fun e => by rw [e] at hka; exact absurd hka (Nat.not_lt_zero _))
        obtain ⟨b', off', hQ, hbl', hn', hr'⟩ := hB (fun e => by rw [e] at hkb; exact absurd hkb (Nat.not_lt_zero _))
        subst hP
        subst hQ
        have hcell : wr.cell? ⟨b, off + k, none⟩ = some (.string (S (A[k]'hka))) := (hbw.cell (p := ⟨b, off + k, none⟩) hbl).trans (hr k hka)
        have hcell' : wr.cell? ⟨b', off' + k, none⟩ = some (.string (S (B[k]'hkb))) := (hbw.cell (p := ⟨b', off' + k, none⟩) hbl').trans (hr' k hkb)
        have HBW := Lib.hid hbw; clear hbw
        clear hr hr' hbl hbl' hn hn'
        by_cases he : A[k]'hka = B[k]'hkb
        · have HA := Lib.hid (Mk.take_same hka hkb htk he)
          rw [← he] at hcell'
          clear he htk
          generalize A[k]'hka = x at hcell hcell'
          have hxx : (x == x) = true := by simp
          go_upto_region 6 with (fail)
          go_quiet (fail)
          go_wp2_with fail
          go_roundw
          case rel => exact ⟨k + 1, by omega, by go_num, HA.out, belowN HBW.out _⟩
          case measure => simp [intOf]; omega
        · have HE := Lib.hid ((decide_eq_false (Mk.not_same hka hkb he)).symm.trans HR.out)
          generalize A[k]'hka = x at hcell he
          generalize B[k]'hkb = y at hcell' he
          have hxy : (x == y) = false := by simpa using he
          clear he htk
          go_upto_region 6 with (fail)
          go_quiet (fail)
          go_wp2_with fail
          go_ret
          exact ⟨congrArg (fun z => Ending.returned (Value.bool z)) HE.out, belowN HBW.out _⟩
      · have hkn : k = n := by omega
        subst hkn
        have HE := Lib.hid ((decide_eq_true (show A = B by
          have := htk
          rw [List.take_of_length_le (by rw [HN.out.1]; exact Nat.le_refl _), List.take_of_length_le (by rw [HN.out.2]; exact Nat.le_refl _)] at this
          exact this)).symm.trans HR.out)
        clear htk
        go_wp2_with fail
        go_ret
        exact ⟨congrArg (fun z => Ending.returned (Value.bool z)) HE.out, hbw⟩
  · have hlen : ((A.length : Int) != (B.length : Int)) = true := by simpa using (show ¬ (A.length : Int) = (B.length : Int) by omega)
    have HE := Lib.hid ((decide_eq_false (show ¬ A = B from fun e => hl (by rw [e]))).symm.trans HR.out)
    clear hl
    go_enter Tryd.func23, Tryd.ntmps23
    go_wp2_with fail
    go_ret
    exact ⟨congrArg (fun z => Ending.returned (Value.bool z)) HE.out, Below.refl _ _⟩

set_option maxHeartbeats 4000000 in
theorem cut_any (b off cap : Nat) (q : List (List UInt8)) (x : List UInt8) (w : World) (hr : TRow w b off (q ++ [x])) (hc : q.length + 1 ≤ cap) (hb : cap ≤ 9223372036854775807) :
    Calls Tryd.prog 60 #[.slice (some ⟨b, off, none⟩) (q.length + 1) cap] w fun e w' => e = .returned (.tuple #[.slice (some ⟨b, off, none⟩) q.length q.length, .string (S x)]) ∧ Below w.heap.size w w' := by
  have hcell : w.cell? ⟨b, off + q.length, none⟩ = some (.string (S x)) := by
    have := hr q.length (by simp)
    simpa using this
  clear hr
  generalize q.length = n at *
  go_enter Tryd.func60, Tryd.ntmps60
  go_upto_region 2 with (fail)
  go_quiet (fail)
  go_wp2_with fail
  go_ret2
  exact ⟨rfl, belowN (Below.refl _ _) _⟩

set_option maxHeartbeats 4000000 in
theorem halves_any (b off cap n : Nat) (w : World) (h2 : 2 ≤ n) (hn : n ≤ 65536) (hc : n ≤ cap) (hb : cap ≤ 9223372036854775807) :
    Calls Tryd.prog 58 #[.slice (some ⟨b, off, none⟩) n cap] w fun e w' => e = .returned (.tuple #[.slice (some ⟨b, off, none⟩) (Mk.below n) (Mk.below n), .slice (some ⟨b, off + Mk.below n, none⟩) (n - Mk.below n) (n - Mk.below n)]) ∧ Below w.heap.size w w' := by
  have hS := fun W => splitB_any n W h2 hn
  have hlt := Mk.below_lt h2
  generalize Mk.below n = k at hS hlt ⊢
  have HS := Lib.hid hS; clear hS
  go_enter Tryd.func58, Tryd.ntmps58
  go_wp2_with fail
  refine (HS.out _).mono ?_
  rintro e w1 ⟨rfl, rfl⟩
  go_upto_region 2 with (fail)
  go_quiet (fail)
  go_wp2_with fail
  go_ret2
  exact ⟨rfl, belowN (Below.refl _ _) _⟩
end Go.Proofs.YtphhaiccpllnpaaDoor
