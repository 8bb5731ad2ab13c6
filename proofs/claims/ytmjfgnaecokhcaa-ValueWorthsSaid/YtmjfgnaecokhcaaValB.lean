/-
  The contracts of value's Right, and of the statements' own nan, clean and right.
-/
import Derived.Test.YtmjfgnaecokhcaaVal
namespace Go.Proofs.Ytmjfgnaecokhcaa
open Go.RowKit
set_option linter.unusedVariables false

theorem shl_one (b : Nat) (hb : b < 18446744073709551616) : decide ((18437736874454810624 : Int) < (b : Int) * 2 % 18446744073709551616) = Val.nan b := by
  unfold Val.nan
  rw [decide_eq_decide]
  omega

theorem nan_any (b : Nat) (hb : b < 18446744073709551616) (w : World) :
    Calls Try.prog 18 #[.int .u64 (b : Int)] w fun r w' => r = .returned (.bool (Val.nan b)) ∧ w = w' := by
  have hA := shl_one b hb
  go_enter Try.func18, Try.ntmps18
  go_wp2
  go_ret
  exact ⟨ret_bool hA, rfl⟩

set_option maxHeartbeats 1000000 in
theorem lclean_any (x : Val) (hx : x.ok) (w : World) :
    Calls Try.prog 11 #[x.v] w fun r w' => r = .returned x.clean.v ∧ Below w.heap.size w w' := by
  obtain ⟨k, f, i, b, t⟩ := x
  obtain ⟨hb, -, -⟩ := hx
  have hN := fun W => nan_any b hb W
  rw [Val.v_eq]
  by_cases h1 : k = 1
  · subst h1
    rw [show (Val.clean ⟨1, f, i, b, t⟩).v = .agg #[.int .i64 1, .bool f, .int .i64 0, .int .u64 0, .string ⟨#[]⟩] from rfl]
    clear hN
    go_enter Try.func11, Try.ntmps11
    go_wp2_with fail
    exact ret_val (p := 2) rfl (w.heap.size + 1) _ rfl rfl (has_new _ _ _ _) rfl ⟨rfl, up2 _ _⟩
  by_cases h2 : k = 2
  · subst h2
    rw [show (Val.clean ⟨2, f, i, b, t⟩).v = .agg #[.int .i64 2, .bool false, .int .i64 i, .int .u64 0, .string ⟨#[]⟩] from rfl]
    clear hN h1
    go_enter Try.func11, Try.ntmps11
    go_wp2_with fail
    exact ret_val (p := 2) rfl (w.heap.size + 1) _ rfl rfl (has_new _ _ _ _) rfl ⟨rfl, up2 _ _⟩
  by_cases h3 : k = 3
  · subst h3
    have hC : (Val.clean ⟨3, f, i, b, t⟩).v = .agg #[.int .i64 3, .bool false, .int .i64 0, .int .u64 ((if Val.nan b = true then 9221120237041090561 else b : Nat) : Int), .string ⟨#[]⟩] := rfl
    rw [hC]
    clear h1 h2 hC
    cases hn : Val.nan b
    all_goals
      rw [hn] at hN
      have HN := Lib.hid hN; clear hN
      go_enter Try.func11, Try.ntmps11
      go_wp2_with fail
      refine (HN.out _).mono ?_
      rintro r w1 ⟨rfl, rfl⟩
      go_wp2_with fail
      exact ret_val (p := 2) rfl (w.heap.size + 1) _ rfl rfl (has_new _ _ _ _) rfl ⟨rfl, up2 _ _⟩
  by_cases h4 : k = 4
  · subst h4
    rw [show (Val.clean ⟨4, f, i, b, t⟩).v = .agg #[.int .i64 4, .bool false, .int .i64 0, .int .u64 0, .string (S t)] from rfl]
    clear hN h1 h2 h3
    go_enter Try.func11, Try.ntmps11
    go_wp2_with fail
    exact ret_val (p := 2) rfl (w.heap.size + 1) _ rfl rfl (has_new _ _ _ _) rfl ⟨rfl, up2 _ _⟩
  · rw [show Val.clean ⟨k, f, i, b, t⟩ = ⟨k, false, 0, 0, []⟩ by simp [Val.clean, h1, h2, h3, h4]]
    rw [show (Val.v ⟨k, false, 0, 0, []⟩) = .agg #[.int .i64 k, .bool false, .int .i64 0, .int .u64 0, .string ⟨#[]⟩] from rfl]
    clear hN
    have g1 : (k == 1) = false := by simpa using h1
    have g2 : (k == 2) = false := by simpa using h2
    have g3 : (k == 3) = false := by simpa using h3
    have g4 : (k == 4) = false := by simpa using h4
    clear h1 h2 h3 h4
    go_enter Try.func11, Try.ntmps11
    go_wp2_with fail
    exact ret_val (p := 2) rfl (w.heap.size + 1) _ rfl rfl (has_new _ _ _ _) rfl ⟨rfl, up2 _ _⟩

end Go.Proofs.Ytmjfgnaecokhcaa
