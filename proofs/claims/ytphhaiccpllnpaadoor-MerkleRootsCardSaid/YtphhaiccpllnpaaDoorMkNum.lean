/-
  The greatest power of two below a number, as the program reckons it: bits.Len, split.
-/
import Derived.Test.YtphhaiccpllnpaaDoorMem
import Derived.Test.YtphhaiccpllnpaaDoorChecked
import Derived.Lib.BitFns
import Derived.Lib.ItoaNum
import Derived.Lib.Hide
namespace Go.Proofs.YtphhaiccpllnpaaDoor
open Go.RowKit
set_option linter.unusedVariables false

theorem Mk.bitLen_log (x : Nat) (h1 : 1 ≤ x) (hx : x < 65536) : Lib.bitLen x = Nat.log2 x + 1 := by
  obtain ⟨a, b, c⟩ := Lib.bitLenAux_bounds 64 x (by omega) (by omega)
  unfold Lib.bitLen
  generalize Lib.bitLenAux 64 x = L at a b c ⊢
  have hL : Nat.log2 x = L - 1 := by
    rw [Nat.log2_eq_iff (by omega)]
    exact ⟨b, by rw [show L - 1 + 1 = L from by omega]; exact c⟩
  omega
theorem Mk.log_le {x : Nat} (h1 : 1 ≤ x) (hx : x < 65536) : Nat.log2 x ≤ 15 := by
  have : Nat.log2 x < 16 := (Nat.log2_lt (by omega)).2 (by omega)
  omega
set_option maxRecDepth 100000 in
theorem len8tab_size : (Lib.len8tab.size : Int) = 256 := by
  have : Lib.len8tab.size = 256 := by decide
  omega
theorem wrap_one8 (a : Nat) (ha : a ≤ 8) : wrap64 (wrap64 (a : Int)) = (a : Int) := by
  unfold wrap64
  omega
theorem wrap_add8 (a b : Nat) (ha : a ≤ 8) (hb : b = 8 + a) : wrap64 (8 + wrap64 (a : Int)) = (b : Int) := by
  unfold wrap64
  omega
theorem len8_get (y : Int) (h : y.toNat < Lib.len8tab.size) : ((Lib.len8tab[y.toNat]'h).toNat : Int) = Lib.len8 y := by
  unfold Lib.len8
  rw [getElem?_pos Lib.len8tab y.toNat h]
  rfl
set_option maxHeartbeats 4000000 in
set_option maxRecDepth 100000 in
theorem len64_any (x : Int) (w : World) (h0 : 0 ≤ x) (h1 : x < 65536) :
    Calls Tryd.prog 67 #[.int .u64 x] w fun e w' => e = .returned (.int .i64 (Lib.bitLen x.toNat)) ∧ w' = w := by
  have hs := len8tab_size
  go_enter Tryd.func67, Tryd.ntmps67
  go_wp2
  all_goals first
    | (go_ret; refine ⟨congrArg Ending.returned (congrArg (Value.int IntKind.i64) ?_), rfl⟩)
    | (exfalso; omega)
  all_goals first
    | (rw [len8_get (x / 256) _, Lib.len8_of (x / 256) (by omega) (by omega)]
       have e : (x / 256).toNat = x.toNat / 256 := by omega
       have l := Lib.bitLen_le8' (x / 256) (by omega) (by omega)
       have s := Lib.bitLen_shift8 x.toNat (by omega) (by omega)
       rw [e] at l ⊢
       exact wrap_add8 _ _ l s)
    | (rw [len8_get x _, Lib.len8_of x (by omega) (by omega)]
       exact wrap_one8 _ (Lib.bitLen_le8' x (by omega) (by omega)))

theorem wrap_two (k : Nat) (hk : k ≤ 15) : wrap64 ((2 : Int) ^ k) = ((2 ^ k : Nat) : Int) := by
  have h1 : 2 ^ k ≤ 2 ^ 15 := Nat.pow_le_pow_right (by omega) hk
  have h2 : ((2 : Int) ^ k) = ((2 ^ k : Nat) : Int) := by rw [Int.natCast_pow]; rfl
  rw [h2]
  clear h2
  generalize (2 : Nat) ^ k = p at h1 ⊢
  unfold wrap64
  omega
set_option maxHeartbeats 4000000 in
theorem len_any (x : Int) (w : World) (h0 : 0 ≤ x) (h1 : x < 65536) :
    Calls Tryd.prog 62 #[.int .u64 x] w fun e w' => e = .returned (.int .i64 (Lib.bitLen x.toNat)) ∧ w' = w := by
  have HL := Lib.hid (fun W => len64_any x W h0 h1)
  go_enter Tryd.func62, Tryd.ntmps62
  go_wp2_with fail
  refine (HL.out _).mono ?_
  rintro e w1 ⟨rfl, rfl⟩
  go_wp2_with fail
  go_ret
  exact ⟨rfl, rfl⟩
set_option maxHeartbeats 4000000 in
theorem split_any (n : Nat) (w : World) (h2 : 2 ≤ n) (hn : n ≤ 65536) :
    Calls Tryd.prog 59 #[.int .i64 (n : Int)] w fun e w' => e = .returned (.int .i64 ((2 ^ Nat.log2 (n - 1) : Nat) : Int)) ∧ w' = w := by
  have hL := fun W => len_any ((n : Int) - 1) W (by omega) (by omega)
  have hl := Mk.log_le (x := n - 1) (by omega) (by omega)
  rw [show ((n : Int) - 1).toNat = n - 1 from by omega, Mk.bitLen_log _ (by omega) (by omega)] at hL
  generalize Nat.log2 (n - 1) = k at hL hl ⊢
  have HL := Lib.hid hL; clear hL
  go_enter Tryd.func59, Tryd.ntmps59
  go_wp2_with fail
  refine (HL.out _).mono ?_
  rintro e w1 ⟨rfl, rfl⟩
  go_wp2_with fail
  go_ret
  exact ⟨congrArg (fun z => Ending.returned (Value.int .i64 z)) (wrap_two k hl), rfl⟩
end Go.Proofs.YtphhaiccpllnpaaDoor
