/-
  An event, plain: which may be, clean, its bytes. No program stands here.
-/
import Derived.Test.YtihhgingdgepcaaPapWord
import Derived.Test.YtihhgingdgepcaaRowC
import Derived.Test.YtihhgingdgepcaaReadPure
namespace Go.Proofs.Ytihhgingdgepcaa
open Go.Op (bytesLess)
set_option linter.unusedVariables false

/-- A paper as it is kept. -/
structure Ent where
  id : List UInt8
  cls : Int
  born : Int
  slot : Int
  L : List Slp
  gone : Bool
  H : List (List UInt8)
  deriving DecidableEq
/-- An event. -/
structure Evt where
  kind : Int
  ent : Ent
  seq : Int
  idx : Int
  name : List UInt8
  size : Int
  root : List UInt8
  now : Int
  deriving DecidableEq
def Ent.zero : Ent := ⟨[], 0, 0, 0, [], false, []⟩
def Evt.zero : Evt := ⟨0, Ent.zero, 0, 0, [], 0, [], 0⟩
namespace Ev
abbrev T := List UInt8
/-- Is each one ahead of the next? -/
def rise : List T → Bool
  | [] => true
  | [_] => true
  | a :: b :: r => bytesLess a b && rise (b :: r)
def rng (n m : Int) : Bool := decide (0 ≤ n ∧ n ≤ m)
/-- May a slip be? -/
def slipR (gone : Bool) (s : Slp) : Bool :=
  Pap.word 16 s.n && decide (s.p.length = 32) && (if s.e then decide (s.c.length = 0) else decide (16 ≤ s.c.length ∧ s.c.length ≤ 224) && !gone)
/-- May a paper as it is kept be? -/
def entR (e : Ent) : Bool :=
  Pap.word 24 e.id && rng e.cls 7 && rng e.born 1099511627776 && rng e.slot 63 && decide (1 ≤ e.L.length ∧ e.L.length ≤ 12) && decide (e.H.length ≤ 4) &&
    (e.H.all (Pap.word 16) && rise e.H) && (e.L.all (slipR e.gone) && rise (e.L.map Slp.n))
/-- May an event be? -/
def right (v : Evt) : Bool :=
  if v.kind = 1 then entR v.ent
  else if v.kind = 2 then rng v.seq 63 && rng v.idx 11
  else if v.kind = 3 then rng v.seq 63
  else if v.kind = 4 ∨ v.kind = 5 then rng v.seq 63 && Pap.word 16 v.name
  else if v.kind = 6 then rng v.size 64 && decide (v.root.length = 32)
  else if v.kind = 7 then rng v.now 1099511627776
  else false
/-- An event with just what its kind has. -/
def clean (v : Evt) : Evt :=
  if v.kind = 1 then { Evt.zero with kind := 1, ent := v.ent }
  else if v.kind = 2 then { Evt.zero with kind := 2, seq := v.seq, idx := v.idx }
  else if v.kind = 3 then { Evt.zero with kind := 3, seq := v.seq }
  else if v.kind = 4 ∨ v.kind = 5 then { Evt.zero with kind := v.kind, seq := v.seq, name := v.name }
  else if v.kind = 6 then { Evt.zero with kind := 6, size := v.size, root := v.root }
  else if v.kind = 7 then { Evt.zero with kind := 7, now := v.now }
  else { Evt.zero with kind := v.kind }
/-! bytes -/
def txt (s : T) : T := M.encL s.length ++ s
def flg (b : Bool) : T := [if b then 1 else 0]
def encS (s : Slp) : T := txt s.n ++ txt s.p ++ flg s.e ++ if s.e then [] else txt s.c
def encE (e : Ent) : T := txt e.id ++ M.encL e.cls ++ M.encL e.born ++ M.encL e.slot ++ flg e.gone ++ M.encL e.H.length ++ e.H.flatMap txt ++ M.encL e.L.length ++ e.L.flatMap encS
def enc (v : Evt) : T :=
  M.encL v.kind ++
    (if v.kind = 1 then encE v.ent
    else if v.kind = 2 then M.encL v.seq ++ M.encL v.idx
    else if v.kind = 3 then M.encL v.seq
    else if v.kind = 4 ∨ v.kind = 5 then M.encL v.seq ++ txt v.name
    else if v.kind = 6 then M.encL v.size ++ txt v.root
    else M.encL v.now)
/-- An event's bytes, or nothing. -/
def bytes (v : Evt) : T := if right v = true then enc v else []
/-! what is right -/
theorem rng_iff {n m : Int} : rng n m = true ↔ 0 ≤ n ∧ n ≤ m := by unfold rng; rw [decide_eq_true_iff]
theorem right1 {v : Evt} (h : v.kind = 1) : right v = entR v.ent := by unfold right; rw [if_pos h]
theorem clean1 {v : Evt} (h : v.kind = 1) : clean v = { Evt.zero with kind := 1, ent := v.ent } := by unfold clean; rw [if_pos h]
theorem right2 {v : Evt} (h : v.kind = 2) : right v = (rng v.seq 63 && rng v.idx 11) := by unfold right; rw [if_neg (by omega), if_pos h]
theorem clean2 {v : Evt} (h : v.kind = 2) : clean v = { Evt.zero with kind := 2, seq := v.seq, idx := v.idx } := by unfold clean; rw [if_neg (by omega), if_pos h]
theorem right3 {v : Evt} (h : v.kind = 3) : right v = rng v.seq 63 := by unfold right; rw [if_neg (by omega), if_neg (by omega), if_pos h]
theorem clean3 {v : Evt} (h : v.kind = 3) : clean v = { Evt.zero with kind := 3, seq := v.seq } := by unfold clean; rw [if_neg (by omega), if_neg (by omega), if_pos h]
theorem right4 {v : Evt} (h : v.kind = 4 ∨ v.kind = 5) : right v = (rng v.seq 63 && Pap.word 16 v.name) := by unfold right; rw [if_neg (by omega), if_neg (by omega), if_neg (by omega), if_pos h]
theorem clean4 {v : Evt} (h : v.kind = 4 ∨ v.kind = 5) : clean v = { Evt.zero with kind := v.kind, seq := v.seq, name := v.name } := by unfold clean; rw [if_neg (by omega), if_neg (by omega), if_neg (by omega), if_pos h]
theorem right6 {v : Evt} (h : v.kind = 6) : right v = (rng v.size 64 && decide (v.root.length = 32)) := by unfold right; rw [if_neg (by omega), if_neg (by omega), if_neg (by omega), if_neg (by omega), if_pos h]
theorem clean6 {v : Evt} (h : v.kind = 6) : clean v = { Evt.zero with kind := 6, size := v.size, root := v.root } := by unfold clean; rw [if_neg (by omega), if_neg (by omega), if_neg (by omega), if_neg (by omega), if_pos h]
theorem right7 {v : Evt} (h : v.kind = 7) : right v = rng v.now 1099511627776 := by unfold right; rw [if_neg (by omega), if_neg (by omega), if_neg (by omega), if_neg (by omega), if_neg (by omega), if_pos h]
theorem clean7 {v : Evt} (h : v.kind = 7) : clean v = { Evt.zero with kind := 7, now := v.now } := by unfold clean; rw [if_neg (by omega), if_neg (by omega), if_neg (by omega), if_neg (by omega), if_neg (by omega), if_pos h]
theorem right0 {v : Evt} (h1 : v.kind < 1 ∨ 7 < v.kind) : right v = false := by unfold right; rw [if_neg (by omega), if_neg (by omega), if_neg (by omega), if_neg (by omega), if_neg (by omega), if_neg (by omega)]
theorem clean0 {v : Evt} (h1 : v.kind < 1 ∨ 7 < v.kind) : clean v = { Evt.zero with kind := v.kind } := by unfold clean; rw [if_neg (by omega), if_neg (by omega), if_neg (by omega), if_neg (by omega), if_neg (by omega), if_neg (by omega)]
theorem enc1 {v : Evt} (h : v.kind = 1) : enc v = M.encL v.kind ++ (encE v.ent) := by unfold enc; rw [if_pos h]
theorem enc2 {v : Evt} (h : v.kind = 2) : enc v = M.encL v.kind ++ (M.encL v.seq ++ M.encL v.idx) := by unfold enc; rw [if_neg (by omega), if_pos h]
theorem enc3 {v : Evt} (h : v.kind = 3) : enc v = M.encL v.kind ++ (M.encL v.seq) := by unfold enc; rw [if_neg (by omega), if_neg (by omega), if_pos h]
theorem enc4 {v : Evt} (h : v.kind = 4 ∨ v.kind = 5) : enc v = M.encL v.kind ++ (M.encL v.seq ++ txt v.name) := by unfold enc; rw [if_neg (by omega), if_neg (by omega), if_neg (by omega), if_pos h]
theorem enc6 {v : Evt} (h : v.kind = 6) : enc v = M.encL v.kind ++ (M.encL v.size ++ txt v.root) := by unfold enc; rw [if_neg (by omega), if_neg (by omega), if_neg (by omega), if_neg (by omega), if_pos h]
theorem enc7 {v : Evt} (h : v.kind = 7) : enc v = M.encL v.kind ++ (M.encL v.now) := by unfold enc; rw [if_neg (by omega), if_neg (by omega), if_neg (by omega), if_neg (by omega), if_neg (by omega)]
theorem kinds (v : Evt) : v.kind = 1 ∨ v.kind = 2 ∨ v.kind = 3 ∨ (v.kind = 4 ∨ v.kind = 5) ∨ v.kind = 6 ∨ v.kind = 7 ∨ (v.kind < 1 ∨ 7 < v.kind) := by omega
theorem clean_clean (v : Evt) : clean (clean v) = clean v := by
  rcases kinds v with h | h | h | h | h | h | h
  · rw [clean1 h, clean1 rfl]
  · rw [clean2 h, clean2 rfl]
  · rw [clean3 h, clean3 rfl]
  · rw [clean4 h, clean4 (v := { Evt.zero with kind := v.kind, seq := v.seq, name := v.name }) h]
  · rw [clean6 h, clean6 rfl]
  · rw [clean7 h, clean7 rfl]
  · rw [clean0 h, clean0 (v := { Evt.zero with kind := v.kind }) h]
theorem right_clean (v : Evt) : right (clean v) = right v := by
  rcases kinds v with h | h | h | h | h | h | h
  · rw [clean1 h, right1 rfl, right1 h]
  · rw [clean2 h, right2 rfl, right2 h]
  · rw [clean3 h, right3 rfl, right3 h]
  · rw [clean4 h, right4 (v := { Evt.zero with kind := v.kind, seq := v.seq, name := v.name }) h, right4 h]
  · rw [clean6 h, right6 rfl, right6 h]
  · rw [clean7 h, right7 rfl, right7 h]
  · rw [clean0 h, right0 (v := { Evt.zero with kind := v.kind }) h, right0 h]
theorem enc_clean {v : Evt} (hv : right v = true) : enc (clean v) = enc v := by
  rcases kinds v with h | h | h | h | h | h | h
  · rw [clean1 h, enc1 rfl, enc1 h, h]
  · rw [clean2 h, enc2 rfl, enc2 h, h]
  · rw [clean3 h, enc3 rfl, enc3 h, h]
  · rw [clean4 h, enc4 (v := { Evt.zero with kind := v.kind, seq := v.seq, name := v.name }) h, enc4 h]
  · rw [clean6 h, enc6 rfl, enc6 h, h]
  · rw [clean7 h, enc7 rfl, enc7 h, h]
  · rw [right0 h] at hv; cases hv
theorem right_kind {v : Evt} (h : right v = true) : 1 ≤ v.kind ∧ v.kind ≤ 7 := by
  rcases kinds v with q | q | q | q | q | q | q
  all_goals first | omega | (rw [right0 q] at h; cases h)
/-- What is right of a paper, one by one. -/
theorem entR_iff {e : Ent} : entR e = true ↔ Pap.word 24 e.id = true ∧ (0 ≤ e.cls ∧ e.cls ≤ 7) ∧ (0 ≤ e.born ∧ e.born ≤ 1099511627776) ∧ (0 ≤ e.slot ∧ e.slot ≤ 63) ∧ (1 ≤ e.L.length ∧ e.L.length ≤ 12) ∧ e.H.length ≤ 4 ∧
    (∀ x ∈ e.H, Pap.word 16 x = true) ∧ rise e.H = true ∧ (∀ x ∈ e.L, slipR e.gone x = true) ∧ rise (e.L.map Slp.n) = true := by
  unfold entR
  simp only [Bool.and_eq_true, rng_iff, decide_eq_true_iff, List.all_eq_true]
  constructor
  · rintro ⟨⟨⟨⟨⟨⟨⟨a, b⟩, c⟩, d⟩, e⟩, f⟩, g, h⟩, i, j⟩
    exact ⟨a, b, c, d, e, f, g, h, i, j⟩
  · rintro ⟨a, b, c, d, e, f, g, h, i, j⟩
    exact ⟨⟨⟨⟨⟨⟨⟨a, b⟩, c⟩, d⟩, e⟩, f⟩, g, h⟩, i, j⟩
theorem slipR_iff {g : Bool} {s : Slp} : slipR g s = true ↔ Pap.word 16 s.n = true ∧ s.p.length = 32 ∧ (s.e = true → s.c = []) ∧ (s.e = false → 16 ≤ s.c.length ∧ s.c.length ≤ 224 ∧ g = false) := by
  unfold slipR
  cases he : s.e
  · simp only [Bool.and_eq_true, decide_eq_true_iff, Bool.false_eq_true, if_false, false_implies, true_and, Bool.not_eq_true', forall_const, and_assoc]
  · simp only [Bool.and_eq_true, decide_eq_true_iff, if_true, List.length_eq_zero_iff, forall_const, and_assoc, Bool.true_eq_false, false_implies, and_true]
/-! how long -/
theorem txt_len {s : T} (h : s.length < 256) : (txt s).length ≤ s.length + 2 := by
  have h2 : ∀ n : Fin 256, (M.encL (n.val : Int)).length ≤ 2 := by decide +kernel
  unfold txt
  rw [List.length_append]
  have := h2 ⟨s.length, h⟩
  dsimp only at this
  omega
theorem encL_len {n : Int} (h : 0 ≤ n ∧ n ≤ 1099511627776) : (M.encL n).length ≤ 8 := by
  obtain ⟨k, rfl⟩ := Int.eq_ofNat_of_zero_le h.1
  have hd := M.dig_len k (by omega)
  unfold M.encL
  rw [if_pos ⟨by omega, by omega⟩, List.length_cons, Int.toNat_natCast]
  omega
theorem encS_len {g : Bool} {s : Slp} (h : slipR g s = true) : (encS s).length ≤ 18 + 34 + 1 + 226 := by
  obtain ⟨h1, h2, h3, h4⟩ := slipR_iff.1 h
  have hn := (Pap.word_len h1).2
  have e1 := txt_len (s := s.n) (by omega)
  have e2 := txt_len (s := s.p) (by omega)
  unfold encS
  simp only [List.length_append]
  have e3 : (flg s.e).length = 1 := rfl
  cases he : s.e
  · obtain ⟨q1, q2, _⟩ := h4 he
    have e4 := txt_len (s := s.c) (by omega)
    rw [he] at e3
    simp only [Bool.false_eq_true, if_false]
    omega
  · rw [he] at e3
    simp only [if_true, List.length_nil]
    omega
theorem flat_le {α : Type} (f : α → T) (m : Nat) (L : List α) (h : ∀ x ∈ L, (f x).length ≤ m) : (L.flatMap f).length ≤ L.length * m := by
  induction L with
  | nil => simp
  | cons x L ih =>
    have h1 := h x (List.mem_cons_self ..)
    have h2 := ih (fun y hy => h y (List.mem_cons_of_mem _ hy))
    rw [List.flatMap_cons, List.length_append, List.length_cons, Nat.succ_mul]
    omega
theorem encE_len {e : Ent} (h : entR e = true) : (encE e).length ≤ 3600 := by
  obtain ⟨h1, h2, h3, h4, h5, h6, h7, h8, h9, h10⟩ := entR_iff.1 h
  have hn := (Pap.word_len h1).2
  have e1 := txt_len (s := e.id) (by omega)
  have e2 := encL_len (n := e.cls) (by omega)
  have e3 := encL_len h3
  have e4 := encL_len (n := e.slot) (by omega)
  have e5 : (flg e.gone).length = 1 := rfl
  have e6 := encL_len (n := (e.H.length : Int)) (by omega)
  have e7 := encL_len (n := (e.L.length : Int)) (by omega)
  have e8 := flat_le txt 18 e.H (fun x hx => by
    have q := (Pap.word_len (h7 x hx)).2
    have := txt_len (s := x) (by omega)
    omega)
  have e9 := flat_le encS 279 e.L (fun x hx => encS_len (h9 x hx))
  have e10 : e.H.length * 18 ≤ 4 * 18 := Nat.mul_le_mul_right _ h6
  have e11 : e.L.length * 279 ≤ 12 * 279 := Nat.mul_le_mul_right _ h5.2
  unfold encE
  simp only [List.length_append]
  omega
/-- Every event that may be has room in a record. -/
theorem enc_len {v : Evt} (h : right v = true) : (enc v).length ≤ 3608 := by
  have hk := right_kind h
  have e0 := encL_len (n := v.kind) (by omega)
  rcases kinds v with q | q | q | q | q | q | q
  · rw [right1 q] at h
    rw [enc1 q, List.length_append]
    have := encE_len h
    omega
  · rw [right2 q, Bool.and_eq_true, rng_iff, rng_iff] at h
    have a := encL_len (n := v.seq) (by omega)
    have b := encL_len (n := v.idx) (by omega)
    rw [enc2 q, List.length_append, List.length_append]
    omega
  · rw [right3 q, rng_iff] at h
    have a := encL_len (n := v.seq) (by omega)
    rw [enc3 q, List.length_append]
    omega
  · rw [right4 q, Bool.and_eq_true, rng_iff] at h
    have a := encL_len (n := v.seq) (by omega)
    have w := (Pap.word_len h.2).2
    have b := txt_len (s := v.name) (by omega)
    rw [enc4 q, List.length_append, List.length_append]
    omega
  · rw [right6 q, Bool.and_eq_true, rng_iff, decide_eq_true_iff] at h
    have a := encL_len (n := v.size) (by omega)
    have b := txt_len (s := v.root) (by omega)
    rw [enc6 q, List.length_append, List.length_append]
    omega
  · rw [right7 q, rng_iff] at h
    have a := encL_len (n := v.now) (by omega)
    rw [enc7 q, List.length_append]
    omega
  · rw [right0 q] at h; cases h
theorem bytes_len (v : Evt) : (bytes v).length ≤ 6000 := by
  unfold bytes
  split
  · rename_i h
    have := enc_len h
    omega
  · exact Nat.zero_le _
end Ev
end Go.Proofs.Ytihhgingdgepcaa
