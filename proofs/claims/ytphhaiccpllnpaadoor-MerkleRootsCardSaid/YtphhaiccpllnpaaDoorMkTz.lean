/-
  How many bits carry: bits.TrailingZeros of small numbers; the tables of math/bits as they are laid.
-/
import Derived.Test.YtphhaiccpllnpaaDoorShaTabs
import Derived.Test.YtphhaiccpllnpaaDoorMkFront
import Derived.Test.YtphhaiccpllnpaaDoorMillMem
import Derived.Laws.Bits64b
import Derived.Lib.Hide
namespace Go.Proofs.YtphhaiccpllnpaaDoor
open Go.RowKit
set_option linter.unusedVariables false

def z2 : List Int := [0, 1, 28, 2, 29, 14, 24, 3, 30, 22, 20, 15, 25, 17, 4, 8, 31, 27, 13, 23, 21, 19, 16, 7, 26, 12, 18, 6, 11, 5, 10, 9]
def z3 : List Int := [0, 1, 56, 2, 57, 49, 28, 3, 61, 58, 42, 50, 38, 29, 17, 4, 62, 47, 59, 36, 45, 43, 51, 22, 53, 39, 33, 30, 24, 18, 12, 5, 63, 55, 48, 27, 60, 41, 37, 16, 46, 35, 44, 21, 52, 32, 23, 11, 54, 26, 40, 15, 34, 20, 31, 10, 25, 14, 19, 9, 13, 8, 7, 6]
theorem gTab2 : Tryd.prog.globalNamed "math/bits.deBruijn64tab" = some 1 := by kernel_rfl
theorem gType2 : (Tryd.prog.globals[1]?).map (·.type) = some 103 := by kernel_rfl
theorem cellsU8 : Tryd.prog.cellsOf 5 = 1 := by kernel_rfl
theorem cells64b : Tryd.prog.cellsOf 103 = 64 := by kernel_rfl
abbrev laidList4 : List (String × DataW Unit) := [("chartulary/sha.initial", Rows.laid_chartulary_sha_initial), ("chartulary/sha.added", Rows.laid_chartulary_sha_added), ("math/bits.deBruijn32tab", Rows.laid_math_bits_deBruijn32tab), ("math/bits.deBruijn64tab", Rows.laid_math_bits_deBruijn64tab)]
/-- The table of trailing zeros. -/
def Deb (W : World) : Prop := ∀ i, i < 64 → W.cell? ⟨1, i, none⟩ = some (.int .u8 (z3.getD i 0))
theorem Deb.below {w w' : World} {B : Nat} (h : Deb w) (hb : Below B w w') (hB : 4 ≤ B) : Deb w' := fun i hi => (hb.cell (p := ⟨1, i, none⟩) (show 1 < B by omega)).trans (h i hi)
theorem Deb.mv {w w' : World} {s : List Nat} (h : Deb w) (hm : Mv w w' s) (hT : Tabs w) (hs : ∀ x ∈ s, 4 ≤ x) : Deb w' :=
  h.below (B := 4) ⟨hm.os, hm.tape, hm.output, hm.size, fun i hi => hm.block i (Nat.lt_of_lt_of_le hi hT.2.2) (fun hx => by have := hs i hx; omega)⟩ (Nat.le_refl _)
theorem tabs_of4 {W : World} (h : laidMetH Tryd.prog laidList4 W) : Tabs W ∧ Deb W := by
  have h1 : laidMet Tryd.prog (("chartulary/sha.initial", Lib.tabData .u32 z0) :: ("chartulary/sha.added", Lib.tabData .u32 z1) :: ("math/bits.deBruijn32tab", Lib.tabData .u8 z2) :: [("math/bits.deBruijn64tab", Lib.tabData .u8 z3)]) W := h
  have t0 := Lib.tabIs_of_head gTab0 gType0 Tryd.underlying106 Tryd.underlying89 cellsU32 cells8 h1
  have t1 := Lib.tabIs_of_head gTab1 gType1 Tryd.underlying113 Tryd.underlying89 cellsU32 cells64 (laid_rest h1)
  have t3 := Lib.tabIs_of_head gTab2 gType2 Tryd.underlying103 Tryd.underlying5 cellsU8 cells64b (laid_rest (laid_rest (laid_rest h1)))
  refine ⟨⟨fun i hi => ?_, fun i hi => ?_, ?_⟩, fun i hi => t3.cell gTab2 i hi⟩
  · rw [← z0_s0 ⟨i, hi⟩]; exact t0.cell gTab0 i hi
  · rw [← z1_kl ⟨i, hi⟩]; exact t1.cell gTab1 i hi
  · have := World.block_lt_of_cell? W ⟨3, 0, none⟩ (t1.cell gTab1 0 (by decide))
    exact this
def layBytes (z : List Int) : Obj → Obj
  | .cells _ t frozen => .cells (z.map fun x => Value.int .u8 x).toArray t frozen
  | o => o
/-- A world for the witness: the four tables hold what their initialisers lay. -/
noncomputable def laidWorld4 (os : Os) : World :=
  { World.holding Tryd.prog os ⟨#[], #[], []⟩ with heap := (((((World.holding Tryd.prog os ⟨#[], #[], []⟩).heap.modify 2 (layInts z0)).modify 3 (layInts z1)).modify 0 (layBytes z2)).modify 1 (layBytes z3)) }

namespace Mk
/-- How many ones a number ends in. -/
def ones (m : Nat) : Nat := if h : m % 2 = 1 then ones (m / 2) + 1 else 0
termination_by m
decreasing_by omega
theorem ones_odd {m : Nat} (h : m % 2 = 1) : ones m = ones (m / 2) + 1 := by rw [ones, dif_pos h]
theorem ones_even {m : Nat} (h : ¬ m % 2 = 1) : ones m = 0 := by rw [ones, dif_neg h]
/-- .. with fuel: reckoned. -/
def onesF : Nat → Nat → Nat
  | 0, _ => 0
  | f + 1, m => if m % 2 = 1 then onesF f (m / 2) + 1 else 0
theorem onesF_eq : ∀ (f m : Nat), m < 2 ^ f → onesF f m = ones m := by
  intro f
  induction f with
  | zero => intro m h; have : m = 0 := by simpa using h
            subst this; rw [ones_even (by decide)]; rfl
  | succ f ih =>
    intro m h
    rw [Nat.pow_succ] at h
    show (if m % 2 = 1 then onesF f (m / 2) + 1 else 0) = _
    by_cases hm : m % 2 = 1
    · rw [if_pos hm, ones_odd hm, ih _ (by omega)]
    · rw [if_neg hm, ones_even hm]
/-- The place in the table. -/
def dbi (x : Nat) : Nat := (x &&& (18446744073709551616 - x)) * 285870213051353865 % 18446744073709551616 / 288230376151711744
theorem dbi_at : ∀ x : Fin 64, x.1 ≠ 0 → dbi x.1 < 64 ∧ z3.getD (dbi x.1) 0 = (onesF 7 (x.1 - 1) : Int) := by decide +kernel
theorem dbi_key (x : Nat) (hx : x < 64) (h0 : x ≠ 0) : IntKind.u64.wrap (bits .and .u64 (x : Int) (IntKind.u64.wrap (-(x : Int))) * 285870213051353865) / 288230376151711744 = (dbi x : Int) := by
  have e1 : IntKind.u64.wrap (-(x : Int)) = ((18446744073709551616 - x : Nat) : Int) := by rw [IntKind.wrap_u64]; omega
  unfold dbi
  rw [e1, bits_and_u64_nat x _ (by omega) (by omega), IntKind.wrap_u64]
  generalize x &&& (18446744073709551616 - x) = a
  omega
theorem ones_small : ∀ y : Fin 64, onesF 7 y.1 < 64 := by decide +kernel
theorem dbi_fact (x : Nat) (hx : x < 64) (h0 : x ≠ 0) : ∃ idx : Nat, idx < 64 ∧ z3.getD idx 0 = ((ones (x - 1) : Nat) : Int) ∧
    IntKind.u64.wrap (bits .and .u64 (x : Int) (IntKind.u64.wrap (-(x : Int))) * 285870213051353865) / 288230376151711744 = (idx : Int) := by
  have h := dbi_at ⟨x, hx⟩ h0
  have e := onesF_eq 7 (x - 1) (by omega)
  refine ⟨dbi x, h.1, ?_, dbi_key x hx h0⟩
  rw [← e]
  exact h.2
theorem ones_lt (x : Nat) (hx : x < 64) : ones x < 64 := by
  have h := ones_small ⟨x, hx⟩
  have e := onesF_eq 7 x (by omega)
  rw [← e]
  exact h
end Mk

set_option maxHeartbeats 1000000 in
theorem tz64_core (x k idx : Nat) (w : World) (hx0 : ((x : Int) == 0) = false)
    (key : IntKind.u64.wrap (bits .and .u64 (x : Int) (IntKind.u64.wrap (-(x : Int))) * 285870213051353865) / 288230376151711744 = (idx : Int)) (hi : idx < 64) (hk : k < 64) (hcell : w.cell? ⟨1, idx, none⟩ = some (.int .u8 k)) :
    Calls Tryd.prog 57 #[.int .u64 (x : Int)] w fun e w' => e = .returned (.int .i64 (k : Int)) ∧ w' = w := by
  go_enter Tryd.func57, Tryd.ntmps57
  go_wp2_with (simp only [key])
  go_ret
  exact ⟨rfl, rfl⟩
theorem tz64_any (x : Nat) (h1 : 1 ≤ x) (hx : x < 64) (w : World) (hD : Deb w) :
    Calls Tryd.prog 57 #[.int .u64 (x : Int)] w fun e w' => e = .returned (.int .i64 ((Mk.ones (x - 1) : Nat) : Int)) ∧ w' = w := by
  obtain ⟨idx, hi, hk, key⟩ := Mk.dbi_fact x hx (by omega)
  have hcell := hD idx hi
  rw [hk] at hcell
  exact tz64_core x (Mk.ones (x - 1)) idx w (by simpa using (show ¬ (x : Int) = 0 by omega)) key hi (Mk.ones_lt (x - 1) (by omega)) hcell
set_option maxHeartbeats 1000000 in
theorem tz_any (x : Nat) (h1 : 1 ≤ x) (hx : x < 64) (w : World) (hD : Deb w) :
    Calls Tryd.prog 39 #[.int .u64 (x : Int)] w fun e w' => e = .returned (.int .i64 ((Mk.ones (x - 1) : Nat) : Int)) ∧ w' = w := by
  have HL := Lib.hid (tz64_any x h1 hx w hD)
  clear h1 hx hD
  go_enter Tryd.func39, Tryd.ntmps39
  go_wp2_with fail
  refine (HL.out).mono ?_
  rintro e w1 ⟨rfl, rfl⟩
  go_wp2_with fail
  go_ret
  exact ⟨rfl, rfl⟩
end Go.Proofs.YtphhaiccpllnpaaDoor
