/-
  The contract of the reference's root.
-/
import Derived.Test.YtbfomeifhmkpeaaDoorRefMore
namespace Go.Proofs.YtbfomeifhmkpeaaDoor
open Go.RowKit
set_option linter.unusedVariables false
def NatPost (w : World) (n : Nat) (e : Ending) (w' : World) : Prop := e = .returned (.int .i64 (n : Int)) ∧ Below w.heap.size w w'
theorem rt_small (power p : Nat) : ∀ k x, k ≤ 37 → x + 2 ^ k ≤ 2 ^ 37 → rt power p k x < 2 ^ 37
  | 0, x, _, h => by simp only [rt]; omega
  | k + 1, x, hk, h => by
    rw [Nat.pow_succ] at h
    simp only [rt]
    split
    · exact rt_small power p k x (by omega) (by omega)
    · exact rt_small power p k (x + 2 ^ k) (by omega) (by omega)
set_option maxRecDepth 100000 in
set_option maxHeartbeats 4000000 in
theorem root_any (power p : Nat) (hp1 : 2 ≤ power) (hp2 : power ≤ 3) (hq : p < 65536) (w : World) :
    Calls Tryd.prog 11 #[.int .i64 (p : Int), .int .i64 (power : Int)] w (NatPost w (rt power p 37 0 % 4294967296)) := by
  have hM := fun x hx W => more_any x power p hx hp1 hp2 hq W
  have HM := Lib.hid hM; clear hM
  obtain ⟨R, hR⟩ : ∃ r, rt power p 37 0 = r := ⟨_, rfl⟩
  rw [hR]
  have hRs : R < 2 ^ 37 := by rw [← hR]; exact rt_small power p 37 0 (by omega) (by omega)
  have HR := Lib.hid (And.intro hR hRs); clear hR hRs
  go_enter Tryd.func11, Tryd.ntmps11
  go_wp2_with fail
  go_loopw [5, 6] (fun v5 v6 wr => ∃ n x : Nat, n ≤ 37 ∧ v6 = .int .i64 ((n : Int) - 1) ∧ v5 = .int .i64 (x : Int) ∧ rt power p n x = R ∧ x + 2 ^ n ≤ 2 ^ 37 ∧ Below w.heap.size w wr) (fun _ v6 _ => (intOf v6 + 1).toNat)
  case atStart => exact ⟨37, 0, by decide, rfl, rfl, HR.out.1, by decide, Below.refl _ _⟩
  case round =>
    obtain ⟨n, x, hn, rfl, rfl, hrt, hxs, hb⟩ := hrel
    have hbs := hb.size
    cases n with
    | zero =>
      rw [show (((0 : Nat) : Int) - 1) = -1 from rfl]
      have hxR : x = R := hrt
      have hRs := HR.out.2
      obtain ⟨m, hm⟩ : ∃ m, R % 4294967296 = m := ⟨_, rfl⟩
      rw [hxR]
      have x0 : (0 : Int) ≤ (R : Int) := by omega
      have e1 : (R : Int) % 4294967296 = (m : Int) := by omega
      have e2 : (R : Int).tmod 4294967296 = (m : Int) := by rw [Int.tmod_eq_emod_of_nonneg x0, e1]
      have m1 : (m : Int) < 4294967296 := by omega
      have HMM := Lib.hid hm
      clear hxs hRs hxR hm
      go_wp2_with fail
      go_ret
      exact ⟨by rw [HMM.out]; rfl, hb⟩
    | succ m =>
      rw [show (((m + 1 : Nat) : Int) - 1) = (m : Int) by omega]
      have m0 : (0 : Int) ≤ (m : Int) := by omega
      have m1 : (m : Int) ≤ 36 := by omega
      obtain ⟨t, ht⟩ : ∃ t, 2 ^ m = t := ⟨_, rfl⟩
      have hx2 : x + t + t ≤ 2 ^ 37 := by rw [Nat.pow_succ, ht] at hxs; omega
      have t1 : (2 : Int) ^ m = (t : Int) := by rw [← ht]; simp
      have t2 : (1 : Int) * 2 ^ m = (t : Int) := by rw [t1, Int.one_mul]
      have ht0 : (0 : Int) ≤ (t : Int) := by omega
      have ht1 : (t : Int) ≤ 137438953472 := by omega
      have hx0 : (0 : Int) ≤ (x : Int) := by omega
      have hx1 : (x : Int) ≤ 137438953472 := by omega
      obtain ⟨y, hy⟩ : ∃ y, x + t = y := ⟨_, rfl⟩
      have hyi : (x : Int) + (t : Int) = (y : Int) := by omega
      have y0 : (0 : Int) ≤ (y : Int) := by omega
      have y1 : (y : Int) ≤ 137438953472 := by omega
      have hstep : rt power p (m + 1) x = rt power p m (if over y power p = true then x else y) := by simp only [rt]; rw [ht, hy]
      rw [hrt] at hstep
      have hcall := fun W => HM.out y (by omega) W
      have HS := Lib.hid (And.intro hstep (And.intro hx2 (And.intro ht hy))); clear hstep hx2 hxs hrt ht hy
      have HCALL := Lib.hid hcall; clear hcall
      generalize over y power p = b at HS HCALL
      go_wp2_with fail
      refine (HCALL.out _).mono ?_
      rintro e w1 ⟨rfl, hb1⟩
      have hb2 := hb.trans (hb1.mono hbs)
      cases b with
      | true =>
        go_wp2_with fail
        go_roundw
        case rel =>
          have hh := HS.out
          exact ⟨m, x, by omega, rfl, rfl, hh.1.symm, by rw [hh.2.2.1]; omega, hb2⟩
        case measure => simp [intOf]
      | false =>
        go_wp2_with fail
        go_roundw
        case rel =>
          have hh := HS.out
          exact ⟨m, y, by omega, rfl, rfl, hh.1.symm, by rw [hh.2.2.1]; omega, hb2⟩
        case measure => simp [intOf]
end Go.Proofs.YtbfomeifhmkpeaaDoor
