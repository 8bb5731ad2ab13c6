/-
  The contracts of value's Clean and Right, and of the statements' own clean and right.
-/
import Derived.Test.YtfcmkbeilpclmaaValSpec
import Derived.Test.YtfcmkbeilpclmaaNum
import Derived.WalkLawsBesides
import Derived.Laws.Rows
namespace Go.Proofs.Ytfcmkbeilpclmaa
open Go.RowKit
set_option linter.unusedVariables false

theorem cbits_any (b : Nat) (hb : b < 18446744073709551616) (w : World) :
    Calls Try.prog 54 #[.int .u64 (b : Int)] w fun r w' => r = .returned (.int .u64 (Val.cbits b : Nat)) ∧ w = w' := by
  have hA := andnot_sign b hb
  have hC : Val.cbits b = if 9218868437227405312 < b % 9223372036854775808 then 9221120237041090561 else b := by simp [Val.cbits, Val.nan]
  generalize Val.cbits b = c at hC
  by_cases h : 9218868437227405312 < b % 9223372036854775808
  · rw [if_pos h] at hC
    subst hC
    have h' : (9218868437227405312 : Int) < ((b % 9223372036854775808 : Nat) : Int) := by omega
    generalize ((b % 9223372036854775808 : Nat) : Int) = m at hA h'
    go_enter Try.func54, Try.ntmps54
    go_wp2
    go_ret
    exact ⟨rfl, rfl⟩
  · rw [if_neg h] at hC
    subst hC
    have h' : ¬ (9218868437227405312 : Int) < ((c % 9223372036854775808 : Nat) : Int) := by omega
    generalize ((c % 9223372036854775808 : Nat) : Int) = m at hA h'
    go_enter Try.func54, Try.ntmps54
    go_wp2
    go_ret
    exact ⟨rfl, rfl⟩

theorem Val.v_eq (k : Int) (f : Bool) (i : Int) (b : Nat) (t : List UInt8) : Val.v ⟨k, f, i, b, t⟩ = .agg #[.int .i64 k, .bool f, .int .i64 i, .int .u64 (b : Int), .string (S t)] := rfl
theorem valSize : (Try.prog.info? 35).map (·.size) = some 5 := by kernel_rfl
/-- A value that lies in a block, handed back. -/
theorem ret_val {fn : Func} {p : Tmp} {R : Ending → World → Prop} {a : Act} {w : World} (h : fn.results = #[.cell p 35]) (g : Nat) (cs : Array Value)
    (hp : a.tmps.getD p undef = .pointer (some ⟨g, 0, none⟩)) (hd : a.defers = []) (hh : Has w g 35 cs) (hcs : cs.size = 5) (hR : R (.returned (.agg cs)) w) : bodyPost Try.prog fn R .ret a w :=
  bodyPost_ret (v := .agg cs) (results_cell_row h _ _ g 35 cs (0, 0) _ hp hh Try.underlying35 rfl (by rw [hcs]; exact valSize)) hd hR
theorem has_mid (w : World) (A B : Obj) (t : TypeId) (cs : Array Value) : Has (((w.alloc A).alloc (.cells cs t)).alloc B) (w.heap.size + 1) t cs := by
  have h := (Has.made (w.alloc A) t cs).of_alloc B
  simpa using h
theorem has_new (w : World) (A : Obj) (t : TypeId) (cs : Array Value) : Has ((w.alloc A).alloc (.cells cs t)) (w.heap.size + 1) t cs := by
  have h := Has.made (w.alloc A) t cs
  simpa using h
/-- Towers of new blocks. -/
theorem up1 {w : World} (A : Obj) : Below w.heap.size w (w.alloc A) := (Below.refl _ w).alloc (Nat.le_refl _) _
theorem up2 {w : World} (A B : Obj) : Below w.heap.size w ((w.alloc A).alloc B) := (up1 A).alloc (up1 A).size _
theorem up3 {w : World} (A B C : Obj) : Below w.heap.size w (((w.alloc A).alloc B).alloc C) := (up2 A B).alloc (up2 A B).size _
theorem S_nil : (⟨#[]⟩ : ByteArray) = S [] := rfl

set_option maxHeartbeats 1000000 in
theorem clean_any (x : Val) (hx : x.ok) (w : World) :
    Calls Try.prog 26 #[x.v] w fun r w' => r = .returned x.clean.v ∧ Below w.heap.size w w' := by
  obtain ⟨k, f, i, b, t⟩ := x
  obtain ⟨hb, -, -⟩ := hx
  have hN := fun W => cbits_any b hb W
  rw [Val.v_eq]
  by_cases h1 : k = 1
  · subst h1
    rw [show (Val.clean ⟨1, f, i, b, t⟩).v = .agg #[.int .i64 1, .bool f, .int .i64 0, .int .u64 0, .string ⟨#[]⟩] from rfl]
    clear hN
    go_enter Try.func26, Try.ntmps26
    go_wp2_with fail
    exact ret_val (p := 2) rfl (w.heap.size + 1) _ rfl rfl (has_mid _ _ _ _ _) rfl ⟨rfl, up3 _ _ _⟩
  by_cases h2 : k = 2
  · subst h2
    rw [show (Val.clean ⟨2, f, i, b, t⟩).v = .agg #[.int .i64 2, .bool false, .int .i64 i, .int .u64 0, .string ⟨#[]⟩] from rfl]
    clear hN h1
    go_enter Try.func26, Try.ntmps26
    go_wp2_with fail
    exact ret_val (p := 2) rfl (w.heap.size + 1) _ rfl rfl (has_mid _ _ _ _ _) rfl ⟨rfl, up3 _ _ _⟩
  by_cases h3 : k = 3
  · subst h3
    rw [show (Val.clean ⟨3, f, i, b, t⟩).v = .agg #[.int .i64 3, .bool false, .int .i64 0, .int .u64 (Val.cbits b : Nat), .string ⟨#[]⟩] from rfl]
    clear h1 h2
    generalize Val.cbits b = c at hN ⊢
    have HN := Lib.hid hN; clear hN
    go_enter Try.func26, Try.ntmps26
    go_wp2_with fail
    refine (HN.out _).mono ?_
    rintro r w1 ⟨rfl, rfl⟩
    go_wp2_with fail
    exact ret_val (p := 2) rfl (w.heap.size + 1) _ rfl rfl (has_mid _ _ _ _ _) rfl ⟨rfl, up3 _ _ _⟩
  by_cases h4 : k = 4
  · subst h4
    rw [show (Val.clean ⟨4, f, i, b, t⟩).v = .agg #[.int .i64 4, .bool false, .int .i64 0, .int .u64 0, .string (S t)] from rfl]
    clear hN h1 h2 h3
    go_enter Try.func26, Try.ntmps26
    go_wp2_with fail
    exact ret_val (p := 2) rfl (w.heap.size + 1) _ rfl rfl (has_mid _ _ _ _ _) rfl ⟨rfl, up3 _ _ _⟩
  · rw [show Val.clean ⟨k, f, i, b, t⟩ = ⟨k, false, 0, 0, []⟩ by simp [Val.clean, h1, h2, h3, h4]]
    rw [show (Val.v ⟨k, false, 0, 0, []⟩) = .agg #[.int .i64 k, .bool false, .int .i64 0, .int .u64 0, .string ⟨#[]⟩] from rfl]
    clear hN
    have g1 : (k == 1) = false := by simpa using h1
    have g2 : (k == 2) = false := by simpa using h2
    have g3 : (k == 3) = false := by simpa using h3
    have g4 : (k == 4) = false := by simpa using h4
    clear h1 h2 h3 h4
    go_enter Try.func26, Try.ntmps26
    go_wp2_with fail
    exact ret_val (p := 2) rfl (w.heap.size + 1) _ rfl rfl (has_mid _ _ _ _ _) rfl ⟨rfl, up3 _ _ _⟩
end Go.Proofs.Ytfcmkbeilpclmaa
