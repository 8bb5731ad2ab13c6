/-
  MkLens: the texts MkNum, MkLen, MkLenL, MkRows in one.
-/
import Derived.Test.YtgjknfphmmlcdaaDoorMem
import Derived.Test.YtgjknfphmmlcdaaDoorChecked
import Derived.Lib.BitFns
import Derived.Lib.ItoaNum
import Derived.Lib.Hide
import Derived.Test.YtgjknfphmmlcdaaDoorMkPures
import Derived.Test.YtgjknfphmmlcdaaDoorMillMem
import Derived.Test.YtgjknfphmmlcdaaDoorTextArg
import Derived.Deep.QuietTactic
import Derived.BigQuiet
namespace Go.Proofs.YtgjknfphmmlcdaaDoor
open Go.RowKit
set_option linter.unusedVariables false

theorem Mk.bitLen_log (x : Nat) (h1 : 1 ≤ x) (hx : x < 65536) : Lib.bitLen x = Nat.log2 x + 1 := by
  obtain ⟨a, b, c⟩ := Lib.bitLenAux_bounds 64 x (by omega) (by omega)
  unfold Lib.bitLen
  generalize Lib.bitLenAux 64 x = L at a b c ⊢
  have hL : Nat.log2 x = L - 1 := by
    rw [Nat.log2_eq_iff (by omega)]
    exact ⟨b, by rw [show L - 1 + 1 = L from by omega]; exact c⟩
  omega
theorem Mk.log_le {x : Nat} (h1 : 1 ≤ x) (hx : x < 65536) : Nat.log2 x ≤ 15 := by
  have : Nat.log2 x < 16 := (Nat.log2_lt (by omega)).2 (by omega)
  omega
set_option maxRecDepth 100000 in
theorem len8tab_size : (Lib.len8tab.size : Int) = 256 := by
  have : Lib.len8tab.size = 256 := by decide
  omega
theorem wrap_one8 (a : Nat) (ha : a ≤ 8) : wrap64 (wrap64 (a : Int)) = (a : Int) := by
  unfold wrap64
  omega
theorem wrap_add8 (a b : Nat) (ha : a ≤ 8) (hb : b = 8 + a) : wrap64 (8 + wrap64 (a : Int)) = (b : Int) := by
  unfold wrap64
  omega
theorem len8_get (y : Int) (h : y.toNat < Lib.len8tab.size) : ((Lib.len8tab[y.toNat]'h).toNat : Int) = Lib.len8 y := by
  unfold Lib.len8
  rw [getElem?_pos Lib.len8tab y.toNat h]
  rfl
set_option maxHeartbeats 4000000 in
set_option maxRecDepth 100000 in
theorem len64_any (x : Int) (w : World) (h0 : 0 ≤ x) (h1 : x < 65536) :
    Calls Tryd.prog 58 #[.int .u64 x] w fun e w' => e = .returned (.int .i64 (Lib.bitLen x.toNat)) ∧ w' = w := by
  have hs := len8tab_size
  go_enter Tryd.func58, Tryd.ntmps58
  go_wp2
  all_goals first
    | (go_ret; refine ⟨congrArg Ending.returned (congrArg (Value.int IntKind.i64) ?_), rfl⟩)
    | (exfalso; omega)
  all_goals first
    | (rw [len8_get (x / 256) _, Lib.len8_of (x / 256) (by omega) (by omega)]
       have e : (x / 256).toNat = x.toNat / 256 := by omega
       have l := Lib.bitLen_le8' (x / 256) (by omega) (by omega)
       have s := Lib.bitLen_shift8 x.toNat (by omega) (by omega)
       rw [e] at l ⊢
       exact wrap_add8 _ _ l s)
    | (rw [len8_get x _, Lib.len8_of x (by omega) (by omega)]
       exact wrap_one8 _ (Lib.bitLen_le8' x (by omega) (by omega)))

theorem wrap_two (k : Nat) (hk : k ≤ 15) : wrap64 ((2 : Int) ^ k) = ((2 ^ k : Nat) : Int) := by
  have h1 : 2 ^ k ≤ 2 ^ 15 := Nat.pow_le_pow_right (by omega) hk
  have h2 : ((2 : Int) ^ k) = ((2 ^ k : Nat) : Int) := by rw [Int.natCast_pow]; rfl
  rw [h2]
  clear h2
  generalize (2 : Nat) ^ k = p at h1 ⊢
  unfold wrap64
  omega
set_option maxHeartbeats 4000000 in
theorem len_any (x : Int) (w : World) (h0 : 0 ≤ x) (h1 : x < 65536) :
    Calls Tryd.prog 51 #[.int .u64 x] w fun e w' => e = .returned (.int .i64 (Lib.bitLen x.toNat)) ∧ w' = w := by
  have HL := Lib.hid (fun W => len64_any x W h0 h1)
  go_enter Tryd.func51, Tryd.ntmps51
  go_wp2_with fail
  refine (HL.out _).mono ?_
  rintro e w1 ⟨rfl, rfl⟩
  go_wp2_with fail
  go_ret
  exact ⟨rfl, rfl⟩
set_option maxHeartbeats 4000000 in
theorem split_any (n : Nat) (w : World) (h2 : 2 ≤ n) (hn : n ≤ 65536) :
    Calls Tryd.prog 56 #[.int .i64 (n : Int)] w fun e w' => e = .returned (.int .i64 ((2 ^ Nat.log2 (n - 1) : Nat) : Int)) ∧ w' = w := by
  have hL := fun W => len_any ((n : Int) - 1) W (by omega) (by omega)
  have hl := Mk.log_le (x := n - 1) (by omega) (by omega)
  rw [show ((n : Int) - 1).toNat = n - 1 from by omega, Mk.bitLen_log _ (by omega) (by omega)] at hL
  generalize Nat.log2 (n - 1) = k at hL hl ⊢
  have HL := Lib.hid hL; clear hL
  go_enter Tryd.func56, Tryd.ntmps56
  go_wp2_with fail
  refine (HL.out _).mono ?_
  rintro e w1 ⟨rfl, rfl⟩
  go_wp2_with fail
  go_ret
  exact ⟨congrArg (fun z => Ending.returned (Value.int .i64 z)) (wrap_two k hl), rfl⟩
end Go.Proofs.YtgjknfphmmlcdaaDoor

namespace Go.Proofs.YtgjknfphmmlcdaaDoor
open Go.RowKit
set_option linter.unusedVariables false

theorem splitB_any (n : Nat) (w : World) (h2 : 2 ≤ n) (hn : n ≤ 65536) :
    Calls Tryd.prog 56 #[.int .i64 (n : Int)] w fun e w' => e = .returned (.int .i64 ((Mk.below n : Nat) : Int)) ∧ w' = w := split_any n w h2 hn
theorem Mk.below_go {n e : Nat} (h1 : 2 ^ e < n) (h2 : ¬ 2 * 2 ^ e < n) : (2 ^ e : Nat) = below n := (below_eq h1 (by omega)).symm

set_option maxHeartbeats 2000000 in
theorem mkBelow_any (n : Nat) (h2 : 2 ≤ n) (hn : n ≤ 1000000000000000) (w : World) :
    Calls Tryd.prog 30 #[.int .i64 (n : Int)] w fun e w' => e = .returned (.int .i64 ((Mk.below n : Nat) : Int)) ∧ w' = w := by
  go_enter Tryd.func30, Tryd.ntmps30
  go_wp2_with fail
  go_loopw [3] (fun v3 wr => ∃ e : Nat, 2 ^ e < n ∧ v3 = .int .i64 ((2 ^ e : Nat) : Int) ∧ wr = w) (fun v3 _ => n - (intOf v3).toNat)
  case atStart => exact ⟨0, by omega, rfl, rfl⟩
  case round =>
    obtain ⟨e, he, rfl, rfl⟩ := hrel
    have hpos := Nat.two_pow_pos e
    obtain ⟨k, hk⟩ : ∃ k, 2 ^ e = k := ⟨_, rfl⟩
    have hs : 2 ^ (e + 1) = 2 * k := by rw [Nat.pow_succ, hk]; omega
    have HB := Lib.hid (fun h => Mk.below_go (n := n) (e := e) he h)
    rw [hk] at HB he hpos ⊢
    have HS := Lib.hid hs; clear hs hk
    by_cases hl : 2 * k < n
    · have hi : 2 * (k : Int) < (n : Int) := by omega
      go_wp2_with fail
      go_roundw
      case rel => exact ⟨e + 1, by rw [HS.out]; omega, by rw [HS.out]; go_num, trivial⟩
      case measure => simp [intOf]; omega
    · have hi : ¬ 2 * (k : Int) < (n : Int) := by omega
      go_wp2_with fail
      go_ret
      exact ⟨by rw [← HB.out hl]; rfl, rfl⟩

end Go.Proofs.YtgjknfphmmlcdaaDoor

namespace Go.Proofs.YtgjknfphmmlcdaaDoor
open Go.RowKit
set_option linter.unusedVariables false

end Go.Proofs.YtgjknfphmmlcdaaDoor

namespace Go.Proofs.YtgjknfphmmlcdaaDoor
open Go.RowKit
set_option linter.unusedVariables false

theorem belowN {B : Nat} {a w : World} (h : Below B a w) (n : Nat) : Below B a (w.drewN n) := h.trans ⟨rfl, rfl, rfl, Nat.le_refl _, fun _ _ => rfl⟩
theorem TRow.take {w : World} {b off : Nat} {L : List (List UInt8)} (h : TRow w b off L) (k : Nat) : TRow w b off (L.take k) := fun i hi => by
  rw [List.length_take] at hi
  rw [List.getElem_take]
  exact h i (by omega)
theorem TRow.drop {w : World} {b off : Nat} {L : List (List UInt8)} (h : TRow w b off L) (k : Nat) : TRow w b (off + k) (L.drop k) := fun i hi => by
  rw [List.length_drop] at hi
  rw [List.getElem_drop, Nat.add_assoc]
  exact h (k + i) (by omega)
theorem TRow.front {w : World} {b off : Nat} {P Q : List (List UInt8)} (h : TRow w b off (P ++ Q)) : TRow w b off P := by
  have := h.take P.length
  rwa [List.take_left] at this
theorem World.cell_block {w w' : World} {b off : Nat} {v : Value} (h : w'.heap[b]? = w.heap[b]?) (hc : w.cell? ⟨b, off, none⟩ = some v) : w'.cell? ⟨b, off, none⟩ = some v := by
  unfold World.cell? at hc ⊢
  rw [h]; exact hc
theorem TRow.mv {w w' : World} {s : List Nat} {b off : Nat} {L : List (List UInt8)} (h : TRow w b off L) (hm : Mv w w' s) (hb : b < w.heap.size) (hn : b ∉ s) : TRow w' b off L := fun i hi =>
  World.cell_block (hm.block b hb hn) (h i hi)
/-- A slice at A reads as L, in a block that is there and none of s. -/
def RowS (w : World) (s : List Nat) (A : Option Addr) (L : List (List UInt8)) : Prop := L ≠ [] → ∃ b off, A = some ⟨b, off, none⟩ ∧ b < w.heap.size ∧ b ∉ s ∧ TRow w b off L
theorem RowS.nil (w : World) (s : List Nat) (A : Option Addr) : RowS w s A [] := fun h => absurd rfl h
theorem RowS.mv {w w' : World} {s t : List Nat} {A : Option Addr} {L : List (List UInt8)} (h : RowS w s A L) (hm : Mv w w' t) (ht : ∀ x ∈ t, x ∈ s) : RowS w' s A L := fun hl => by
  obtain ⟨b, off, hA, hb, hn, hr⟩ := h hl
  exact ⟨b, off, hA, Nat.lt_of_lt_of_le hb hm.size, hn, hr.mv hm hb (fun hx => hn (ht b hx))⟩
theorem RowS.below {w w' : World} {s : List Nat} {A : Option Addr} {L : List (List UInt8)} (h : RowS w s A L) (hb : Below w.heap.size w w') : RowS w' s A L := h.mv (Mv.of_below hb []) (by simp)
theorem RowS.take {w : World} {s : List Nat} {A : Option Addr} {L : List (List UInt8)} (h : RowS w s A L) (k : Nat) : RowS w s A (L.take k) := fun hl => by
  obtain ⟨b, off, hA, hb, hn, hr⟩ := h (fun e => hl (by rw [e, List.take_nil]))
  exact ⟨b, off, hA, hb, hn, hr.take k⟩
theorem RowS.of {w : World} {s : List Nat} {b off : Nat} {L : List (List UInt8)} (hb : b < w.heap.size) (hn : b ∉ s) (hr : TRow w b off L) : RowS w s (some ⟨b, off, none⟩) L := fun _ => ⟨b, off, rfl, hb, hn, hr⟩

namespace Mk
def allSums (L : List T) : Bool := L.all (fun s => s.length == 32)
theorem allSums_iff (L : List T) : allSums L = true ↔ Sums L := by
  unfold allSums Sums
  rw [List.all_eq_true]
  exact ⟨fun h x hx => by simpa using h x hx, fun h x hx => by simpa using h x hx⟩
theorem allSums_take {L : List T} {k : Nat} (hk : k < L.length) (h : allSums (L.take k) = true) (hl : (L[k]'hk).length = 32) : allSums (L.take (k + 1)) = true := by
  rw [List.take_succ_eq_append_getElem hk]
  unfold allSums at h ⊢
  rw [List.all_append, h]
  simpa using hl
theorem allSums_not {L : List T} {k : Nat} (hk : k < L.length) (hl : (L[k]'hk).length ≠ 32) : allSums L = false := by
  cases h : allSums L with
  | false => rfl
  | true => exact absurd ((allSums_iff L).1 h _ (List.getElem_mem hk)) hl
end Mk

namespace Mk
theorem take_same {A B : List T} {k : Nat} (ha : k < A.length) (hb : k < B.length) (h : A.take k = B.take k) (he : A[k]'ha = B[k]'hb) : A.take (k + 1) = B.take (k + 1) := by
  rw [List.take_succ_eq_append_getElem ha, List.take_succ_eq_append_getElem hb, h, he]
theorem not_same {A B : List T} {k : Nat} (ha : k < A.length) (hb : k < B.length) (he : ¬ A[k]'ha = B[k]'hb) : ¬ A = B := fun e => by subst e; exact he rfl
end Mk

set_option maxHeartbeats 4000000 in
theorem halves_any (b off cap n : Nat) (w : World) (h2 : 2 ≤ n) (hn : n ≤ 65536) (hc : n ≤ cap) (hb : cap ≤ 9223372036854775807) :
    Calls Tryd.prog 50 #[.slice (some ⟨b, off, none⟩) n cap] w fun e w' => e = .returned (.tuple #[.slice (some ⟨b, off, none⟩) (Mk.below n) (Mk.below n), .slice (some ⟨b, off + Mk.below n, none⟩) (n - Mk.below n) (n - Mk.below n)]) ∧ Below w.heap.size w w' := by
  have hS := fun W => splitB_any n W h2 hn
  have hlt := Mk.below_lt h2
  generalize Mk.below n = k at hS hlt ⊢
  have HS := Lib.hid hS; clear hS
  go_enter Tryd.func50, Tryd.ntmps50
  go_wp2_with fail
  refine (HS.out _).mono ?_
  rintro e w1 ⟨rfl, rfl⟩
  go_upto_region 2 with (fail)
  go_quiet (fail)
  go_wp2_with fail
  go_ret2
  exact ⟨rfl, belowN (Below.refl _ _) _⟩
end Go.Proofs.YtgjknfphmmlcdaaDoor
