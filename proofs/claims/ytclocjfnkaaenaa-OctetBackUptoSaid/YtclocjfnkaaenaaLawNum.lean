/-
  The contract of the statements' own num.
-/
import Derived.Test.YtclocjfnkaaenaaNum
namespace Go.Proofs.Ytclocjfnkaaenaa
open Go.RowKit

set_option maxHeartbeats 400000 in
theorem lnum_none (n : Int) (w : World) (h : n < 0 ∨ 72057594037927936 ≤ n) :
    Calls Try.prog 17 #[.int .i64 n] w fun e w' => e = .returned (.string ⟨#[]⟩) ∧ Below w.heap.size w w' := by
  rcases h with h | h
  · go_enter Try.func17, Try.ntmps17
    go_wp2
    go_ret
    exact ⟨rfl, Below.refl _ _⟩
  · have h0 : ¬ n < 0 := by omega
    go_enter Try.func17, Try.ntmps17
    go_wp2
    go_ret
    exact ⟨rfl, Below.refl _ _⟩

set_option maxHeartbeats 400000 in
theorem lnum_some (n : Int) (w : World) (h0 : 0 ≤ n) (h1 : n < 72057594037927936) :
    Calls Try.prog 17 #[.int .i64 n] w fun e w' => e = .returned (.string (S (M.encL n))) ∧ Below w.heap.size w w' := by
  have hcv := fun (W : World) (c : Int) => conv_one (P := Try.prog) Try.underlying48 Try.underlying5 Try.underlying9 W c
  go_enter Try.func17, Try.ntmps17
  go_wp2
  go_loopw [3, 0] (fun v3 v0 wr => ∃ (m : Nat) (l : List UInt8), l.length ≤ 7 ∧ m < 256 ^ (7 - l.length) ∧ M.dig n.toNat = M.dig m ++ l ∧ v3 = .string (S l) ∧ v0 = .int .i64 m ∧ Below w.heap.size w wr)
    (fun _ v0 _ => (intOf v0).toNat)
  case atStart =>
    exact ⟨n.toNat, [], by simp, by simp; omega, by simp, rfl, by simp [Int.toNat_of_nonneg h0], Below.refl _ _⟩
  case round =>
    obtain ⟨m, l, hl, hm, hd, rfl, rfl, hb⟩ := hrel
    have HD := Lib.hid hd; clear hd
    by_cases h0 : 0 < m
    · have hm56 : m < 72057594037927936 := by
        have h7 : 256 ^ (7 - l.length) ≤ 256 ^ 7 := Nat.pow_le_pow_right (by omega) (by omega)
        have h8 : (256 : Nat) ^ 7 = 72057594037927936 := by decide
        omega
      have hlim : ¬ 9223372036854775807 < (0 + 1) + l.length := by omega
      go_wp2
      refine ⟨⟨m / 256, UInt8.ofNat (m % 256) :: l, ?_, ?_, ?_, rfl, by simp, hb.alloc hb.size _⟩, by simp [intOf]; omega⟩
      · have : l.length ≠ 7 := fun e => by rw [e] at hm; omega
        rw [List.length_cons]; omega
      · rw [List.length_cons]
        refine Nat.div_lt_of_lt_mul ?_
        have : l.length ≠ 7 := fun e => by rw [e] at hm; omega
        have h9 : 256 * 256 ^ (7 - (l.length + 1)) = 256 ^ (7 - l.length) := by
          rw [Nat.mul_comm, ← Nat.pow_succ]; congr 1; omega
        rw [h9]; exact hm
      · rw [HD.out, M.dig_step m h0 hm56]; simp
    · have hm0 : m = 0 := by omega
      subst hm0
      have hlim : ¬ 9223372036854775807 < (0 + 1) + l.length := by omega
      go_wp2
      go_ret
      refine ⟨ret_str ?_, hb.alloc hb.size _⟩
      have hd' := HD.out
      rw [M.dig_zero, List.nil_append] at hd'
      rw [M.encL, if_pos ⟨by omega, h1⟩, hd']

theorem lnum_any (n : Int) (w : World) : Calls Try.prog 17 #[.int .i64 n] w fun e w' => e = .returned (.string (S (M.encL n))) ∧ Below w.heap.size w w' := by
  by_cases h : 0 ≤ n ∧ n < 72057594037927936
  · exact lnum_some n w h.1 h.2
  · have e : S (M.encL n) = ⟨#[]⟩ := by rw [M.encL, if_neg h]; rfl
    rw [e]
    exact lnum_none n w (by omega)

set_option maxHeartbeats 400000 in
theorem text_any (l : List UInt8) (w : World) (hl : l.length ≤ 140737488351232) :
    Calls Try.prog 24 #[.string (S l)] w fun e w' => e = .returned (.string (S (M.encL l.length ++ l))) ∧ Below w.heap.size w w' := by
  have hb := M.encL_len l.length
  have hlim : ¬ 9223372036854775807 < (M.encL l.length).length + l.length := by omega
  go_enter Try.func24, Try.ntmps24
  go_wp2_with (go_at_call 23; refine (num_any _ _).mono ?_; rintro e w1 ⟨rfl, hb1⟩)
  go_ret
  exact ⟨rfl, hb1⟩

set_option maxHeartbeats 400000 in
theorem awake_any (w : World) : Calls Try.prog 8 #[] w fun e w' => e = .returned (.bool true) ∧ Below w.heap.size w w' := by
  go_enter Try.func8, Try.ntmps8
  go_wp2_with fail
  refine (num_any _ _).mono ?_
  rintro e w1 ⟨rfl, hb1⟩
  rw [show S (M.encL 0) = ⟨#[0]⟩ by decide +kernel]
  go_wp2_with fail
  refine (num_any _ _).mono ?_
  rintro e w2 ⟨rfl, hb2⟩
  rw [show S (M.encL 258) = ⟨#[2, 1, 2]⟩ by decide +kernel]
  go_wp2_with fail
  refine (text_any [97, 98] _ (by decide)).mono ?_
  rintro e w3 ⟨rfl, hb3⟩
  rw [show S (M.encL ([97, 98] : List UInt8).length ++ [97, 98]) = ⟨#[1, 2, 97, 98]⟩ by decide +kernel]
  go_wp2_with fail
  go_ret
  exact ⟨rfl, hb1.trans ((hb2.mono hb1.size).trans (hb3.mono (Nat.le_trans hb1.size hb2.size)))⟩
end Go.Proofs.Ytclocjfnkaaenaa
