/-
  The contracts of value's Of and Float; the bits of floats.
-/
import Derived.Test.YtfcmkbeilpclmaaValD
import Derived.Laws.Externs
namespace Go.Proofs.Ytfcmkbeilpclmaa
open Go.RowKit
set_option linter.unusedVariables false

theorem f2b (b : Nat) (W : World) : (callFunc 69 #[.float .f64 b]).run Try.prog W = .ok (.value (.int .u64 (b : Int))) W :=
  run_callFunc_extern (e := Extern.MathFloatBits.float64bits) Try.func69 (by kernel_rfl) (by kernel_rfl) (by kernel_rfl) (by kernel_rfl) _ W
theorem b2f (b : Nat) (W : World) : (callFunc 62 #[.int .u64 (b : Int)]).run Try.prog W = .ok (.value (.float .f64 b)) W :=
  run_callFunc_extern (e := Extern.MathFloatBits.float64frombits) Try.func62 (by kernel_rfl) (by kernel_rfl) (by kernel_rfl) (by kernel_rfl) _ W

/-- A value stored into a value's block. -/
def stored (w : World) (g : Nat) (k : Int) (f : Bool) (i : Int) (b : Nat) (t : List UInt8) : World :=
  ((((w.setCell ⟨g, 0, none⟩ (.int .i64 k)).setCell ⟨g, 1, none⟩ (.bool f)).setCell ⟨g, 2, none⟩ (.int .i64 i)).setCell ⟨g, 3, none⟩ (.int .u64 (b : Int))).setCell ⟨g, 4, none⟩ (.string (S t))
theorem Has.stored {w : World} {g : Nat} {k : Int} {f : Bool} {i : Int} {b : Nat} {t : List UInt8} (h : Has w g 35 (vcs k f i b t)) (k' : Int) (f' : Bool) (i' : Int) (b' : Nat) (t' : List UInt8) :
    Has (stored w g k' f' i' b' t') g 35 (vcs k' f' i' b' t') := by
  have := ((((h.set 0 (.int .i64 k')).set 1 (.bool f')).set 2 (.int .i64 i')).set 3 (.int .u64 (b' : Int))).set 4 (.string (S t'))
  simp at this
  exact this
theorem stored_only (w : World) (g : Nat) (k : Int) (f : Bool) (i : Int) (b : Nat) (t : List UInt8) : Only w (stored w g k f i b t) g :=
  ((((Only.set _ g 0 _).trans (Only.set _ g 1 _)).trans (Only.set _ g 2 _)).trans (Only.set _ g 3 _)).trans (Only.set _ g 4 _)

/-- A float's value. -/
def Val.of (b : Nat) : Val := ⟨3, false, 0, Val.cbits b, []⟩

theorem okw {b : Nat} (hb : b < 18446744073709551616) : (⟨3, false, 0, b, []⟩ : Val).ok := ⟨hb, by simp, by simp⟩

set_option maxHeartbeats 1000000 in
theorem of_any (b : Nat) (hb : b < 18446744073709551616) (w : World) :
    Calls Try.prog 55 #[.float .f64 b] w fun r w' => r = .returned (Val.of b).v ∧ Below w.heap.size w w' := by
  have hN := fun W => clean_any ⟨3, false, 0, b, []⟩ (okw hb) W
  rw [show Val.clean ⟨3, false, 0, b, []⟩ = Val.of b from rfl, Val.v_eq] at hN
  generalize Val.of b = y at hN ⊢
  obtain ⟨k', f', i', b', t'⟩ := y
  rw [Val.v_eq] at hN ⊢
  have hF := fun W => f2b b W
  have HN := Lib.hid hN; clear hN
  go_enter Try.func55, Try.ntmps55
  go_wp2_with fail
  refine (HN.out _).mono ?_
  rintro r w1 ⟨rfl, hb1⟩
  have HB : Has w1 w.heap.size 35 (vcs 0 false 0 0 []) := (Has.made w _ _).below hb1 (by simp)
  have hb0 : Below w.heap.size w w1 := (up1 _).trans (hb1.mono (by simp))
  have hx := lies HB
  have hf0 := HB.free 0
  have hf1 := HB.free 1
  have hf2 := HB.free 2
  have hf3 := HB.free 3
  have hf4 := HB.free 4
  have HS := Lib.hid (HB.stored k' f' i' b' t')
  have HB0 := Lib.hid ((stored_only w1 w.heap.size k' f' i' b' t').below hb0 (Nat.le_of_lt HB.lt) (Nat.le_refl _))
  clear hb0 hb1 HB
  go_wp2_with fail
  exact ret_val (p := 2) rfl w.heap.size _ rfl rfl HS.out rfl ⟨rfl, HB0.out⟩

set_option maxHeartbeats 2000000 in
theorem float_any (x : Val) (hx : x.ok) (w : World) :
    Calls Try.prog 46 #[x.v] w fun r w' => r = .returned (if x.right = true ∧ x.kind = 3 then .tuple #[.float .f64 x.bits, .bool true] else .tuple #[.float .f64 0, .bool false]) ∧ Below w.heap.size w w' := by
  have hN := fun W => right_any x hx W
  obtain ⟨k, f, i, b, t⟩ := x
  generalize Val.right _ = rr at hN ⊢
  rw [Val.v_eq] at hN ⊢
  have HN := Lib.hid hN; clear hN
  have hF := fun W => b2f b W
  by_cases hk : k = 3
  · subst hk
    cases rr
    all_goals
      first | rw [if_pos ⟨rfl, rfl⟩] | rw [if_neg (by simp)]
      go_enter Try.func46, Try.ntmps46
      go_wp2_with fail
      refine (HN.out _).mono ?_
      rintro r w1 ⟨rfl, hb1⟩
      have HB : Has w1 w.heap.size 35 (vcs 3 f i b t) := (Has.made w _ _).below hb1 (by simp)
      have hb0 : Below w.heap.size w w1 := (up1 _).trans (hb1.mono (by simp))
      have hx := lies HB
      clear hb1 HB
      go_wp2_with fail
      go_ret2
      exact ⟨rfl, hb0⟩
  · have hp : (if rr = true ∧ k = 3 then Value.tuple #[.float .f64 b, .bool true] else .tuple #[.float .f64 0, .bool false]) = .tuple #[.float .f64 0, .bool false] := if_neg (fun h => hk h.2)
    simp only [hp]
    have hkb : (k != 3) = true := by simpa using hk
    go_enter Try.func46, Try.ntmps46
    go_wp2_with fail
    go_ret2
    exact ⟨rfl, up1 _⟩
end Go.Proofs.Ytfcmkbeilpclmaa
