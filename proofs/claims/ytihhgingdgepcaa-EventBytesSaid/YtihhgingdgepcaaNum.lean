/-
  The contract of octet.Num.
-/
import Derived.Test.YtihhgingdgepcaaChecked
import Derived.Test.YtihhgingdgepcaaMath
import Derived.Test.YtihhgingdgepcaaMem
namespace Go.Proofs.Ytihhgingdgepcaa
open Go.RowKit
set_option linter.unusedVariables false

def cellsOf (z : Nat) (l : List UInt8) : Array Value := (List.replicate z (Value.int .u8 0) ++ bcells l).toArray

theorem cellsOf_set (z : Nat) (c : UInt8) (l : List UInt8) : (cellsOf (z + 1) l).setIfInBounds z (.int .u8 c.toNat) = cellsOf z (c :: l) := by
  unfold cellsOf bcells
  simp [List.replicate_succ']

theorem cellsOf_at (z : Nat) (l : List UInt8) (i : Nat) : (cellsOf z l)[z + i]? = (bcells l)[i]? := by
  unfold cellsOf
  rw [List.getElem?_toArray, List.getElem?_append_right (by simp)]
  simp

theorem num_rel {n m z : Nat} {l : List UInt8} {w wr : World} {B t : Nat} (h0 : 0 < m) (h1 : n < 72057594037927936) (hz : l.length = 7 - z) (hz7 : z ≤ 7) (hl : l.length ≤ 6) (hm : m < 256 ^ (7 - l.length)) (hd : M.dig n = M.dig m ++ l)
    (hh : Has wr B t (cellsOf (z + 1) l)) (hb : Below B w wr) :
    ∃ (m' : Nat) (l' : List UInt8), l'.length ≤ 7 ∧ m' < 256 ^ (7 - l'.length) ∧ M.dig n = M.dig m' ++ l' ∧ Value.int .i64 (z : Nat) = .int .i64 ((8 - l'.length : Nat) : Int) ∧ Value.int .i64 ((m : Int) / 256) = .int .i64 (m' : Nat) ∧
      Has (wr.setCell ⟨B, z, none⟩ (.int .u8 ((m : Int) % 256))) B t (cellsOf (8 - l'.length) l') ∧ Below B w (wr.setCell ⟨B, z, none⟩ (.int .u8 ((m : Int) % 256))) := by
  have e : (m : Int) % 256 = ((UInt8.ofNat (m % 256)).toNat : Int) := by simp
  have hm56 : m < 72057594037927936 := by
    have h7 : 256 ^ (7 - l.length) ≤ 256 ^ 7 := Nat.pow_le_pow_right (by omega) (by omega)
    have h8 : (256 : Nat) ^ 7 = 72057594037927936 := by decide
    omega
  refine ⟨m / 256, UInt8.ofNat (m % 256) :: l, by simp; omega, ?_, ?_, ?_, by simp, ?_, hb.setCell (Nat.le_refl _) _⟩
  · rw [List.length_cons]
    refine Nat.div_lt_of_lt_mul ?_
    have h9 : 256 * 256 ^ (7 - (l.length + 1)) = 256 ^ (7 - l.length) := by
      rw [Nat.mul_comm, ← Nat.pow_succ]; congr 1; omega
    rw [h9]; exact hm
  · rw [hd, M.dig_step m h0 hm56]; simp
  · rw [List.length_cons]; congr 1; omega
  · rw [e, List.length_cons, show 8 - (l.length + 1) = z by omega, ← cellsOf_set]
    exact hh.set z _

set_option maxHeartbeats 400000 in
theorem num_none (n : Int) (w : World) (h : n < 0 ∨ 72057594037927936 ≤ n) :
    Calls Try.prog 37 #[.int .i64 n] w fun e w' => e = .returned (.string ⟨#[]⟩) ∧ Below w.heap.size w w' := by
  rcases h with h | h
  · go_enter Try.func37, Try.ntmps37
    go_wp2
    go_ret
    exact ⟨rfl, Below.refl _ _⟩
  · have h0 : ¬ n < 0 := by omega
    go_enter Try.func37, Try.ntmps37
    go_wp2
    go_ret
    exact ⟨rfl, Below.refl _ _⟩

set_option maxHeartbeats 400000 in
theorem num_some (n : Int) (w : World) (h0 : 0 ≤ n) (h1 : n < 72057594037927936) :
    Calls Try.prog 37 #[.int .i64 n] w fun e w' => e = .returned (.string (S (M.encL n))) ∧ Below w.heap.size w w' := by
  go_enter Try.func37, Try.ntmps37
  go_wp2
  go_loopw [4, 0] (fun v4 v0 wr => ∃ (m : Nat) (l : List UInt8), l.length ≤ 7 ∧ m < 256 ^ (7 - l.length) ∧ M.dig n.toNat = M.dig m ++ l ∧ v4 = .int .i64 (8 - l.length : Nat) ∧ v0 = .int .i64 m ∧
      Has wr w.heap.size 79 (cellsOf (8 - l.length) l) ∧ Below w.heap.size w wr)
    (fun _ v0 _ => (intOf v0).toNat)
  case atStart =>
    exact ⟨n.toNat, [], by simp, by simp; omega, by simp, rfl, by simp [Int.toNat_of_nonneg h0], Has.made _ _ _, (Below.refl _ _).alloc (Nat.le_refl _) _⟩
  case round =>
    obtain ⟨m, l, hl, hm, hd, rfl, rfl, hh, hb⟩ := hrel
    by_cases h0 : 0 < m
    · have hl6 : l.length ≤ 6 := by
        refine Nat.le_of_not_lt fun hc => ?_
        rw [show 7 - l.length = 0 by omega] at hm
        omega
      obtain ⟨z, hz⟩ : ∃ z, 8 - l.length = z + 1 := ⟨7 - l.length, by omega⟩
      have hz7 : z ≤ 7 := by omega
      rw [hz] at hh ⊢
      have hsz : l.length = 7 - z := by omega
      have hc : wr.cell? ⟨w.heap.size, z, none⟩ = some (.int .u8 0) := by
        rw [hh.cell]; simp [cellsOf, List.getElem?_append]
      have hf := hh.free z
      have HZ := Lib.hid hsz; clear hsz
      have HD := Lib.hid hd; clear hd
      have Hz := Lib.hid hz; clear hz
      have HH := Lib.hid hh; clear hh
      go_wp2
      go_roundw
      case rel => exact num_rel h0 (by omega) HZ.out hz7 hl6 hm HD.out HH.out hb
      case measure => simp [intOf]; omega
    · have hm0 : m = 0 := by omega
      subst hm0
      obtain ⟨z, hz⟩ : ∃ z, 8 - l.length = z + 1 := ⟨7 - l.length, by omega⟩
      have hz7 : z ≤ 7 := by omega
      rw [hz] at hh ⊢
      have hsz : l.length = 7 - z := by omega
      have hc : wr.cell? ⟨w.heap.size, z, none⟩ = some (.int .u8 0) := by
        rw [hh.cell]; simp [cellsOf, List.getElem?_append]
      have hf := hh.free z
      have hsl := fun W : World => arr_from (P := Try.prog) (t := 79) (n := 8) (e := 5) Try.underlying79 (fun w => by kernel_rfl) w.heap.size z (by omega) W
      have hu : (((UInt8.ofNat l.length).toNat : Nat) : Int) = 8 - ((z : Int) + 1) := by
        rw [UInt8.toNat_ofNat']; omega
      have hcv : (convert 66 9 (.slice (some ⟨w.heap.size, z, none⟩) (8 - z) (8 - z))).run Try.prog (wr.setCell ⟨w.heap.size, z, none⟩ (.int .u8 (8 - ((z : Int) + 1)))) = .ok (.string (S (UInt8.ofNat l.length :: l))) (wr.setCell ⟨w.heap.size, z, none⟩ (.int .u8 (8 - ((z : Int) + 1)))) :=
        conv_text Try.underlying66 Try.underlying5 Try.underlying9 (UInt8.ofNat l.length :: l) (by simp; omega) (fun i hi => by
          rw [← hu, (hh.set z _).cell, cellsOf_set, cellsOf_at])
      clear hu
      have HZ := Lib.hid hsz; clear hsz
      have HD := Lib.hid hd; clear hd
      have Hz := Lib.hid hz; clear hz
      have HH := Lib.hid hh; clear hh
      go_wp2
      go_ret
      refine ⟨ret_str ?_, hb.setCell (Nat.le_refl _) _⟩
      have hd' := HD.out
      rw [M.dig_zero, List.nil_append] at hd'
      rw [M.encL, if_pos ⟨by omega, h1⟩, hd']

theorem num_any (n : Int) (w : World) : Calls Try.prog 37 #[.int .i64 n] w fun e w' => e = .returned (.string (S (M.encL n))) ∧ Below w.heap.size w w' := by
  by_cases h : 0 ≤ n ∧ n < 72057594037927936
  · exact num_some n w h.1 h.2
  · have e : S (M.encL n) = ⟨#[]⟩ := by rw [M.encL, if_neg h]; rfl
    rw [e]
    exact num_none n w (by omega)
end Go.Proofs.Ytihhgingdgepcaa
