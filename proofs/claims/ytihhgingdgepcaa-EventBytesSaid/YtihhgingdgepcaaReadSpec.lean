/-
  What a reader answers, as plain functions on what is left and the error. No program stands here.
-/
import Derived.Test.YtihhgingdgepcaaMath
namespace Go.Proofs.Ytihhgingdgepcaa
namespace R
abbrev St := List UInt8 × Int
def failE (k e : Int) : Int := if e = 0 then k else e
def fail (k : Int) (st : St) : St := (st.1, failE k st.2)
def next (n : Int) (st : St) : List UInt8 × St :=
  if st.2 ≠ 0 then ([], st) else if n < 0 then ([], (st.1, 1)) else if (st.1.length : Int) < n then ([], (st.1, 2)) else (st.1.take n.toNat, (st.1.drop n.toNat, 0))
def digits (st : St) : Int × St :=
  match next 1 st with
  | ([], st1) => (0, st1)
  | (c :: _, st1) => if 7 < c.toNat then (0, fail 4 st1) else (c.toNat, st1)
def fold (l : List UInt8) : Nat := l.foldl (fun n c => n * 256 + c.toNat) 0
def lead (l : List UInt8) (st : St) : St := if l.head? = some 0 then fail 4 st else st
def num (most : Int) (st : St) : Int × St :=
  let d := digits st
  let b := next d.1 d.2
  let st3 := lead b.1 b.2
  let n : Int := fold b.1
  let st4 := if most < n then fail 3 st3 else st3
  (if st4.2 = 0 then n else 0, st4)
def text (most : Int) (st : St) : List UInt8 × St := next (num most st).1 (num most st).2
def flag (st : St) : Bool × St :=
  match next 1 st with
  | ([], st1) => (false, st1)
  | (c :: _, st1) => (c.toNat == 1, if 1 < c.toNat then fail 4 st1 else st1)
def left (st : St) : Int := if st.2 ≠ 0 then 0 else st.1.length
def fin (st : St) : St := if 0 < left st then fail 4 st else st

theorem fold_snoc (l : List UInt8) (c : UInt8) : fold (l ++ [c]) = fold l * 256 + c.toNat := by simp [fold]
theorem fold_lt : ∀ (k : Nat) (l : List UInt8), l.length = k → fold l < 256 ^ k := by
  intro k
  induction k with
  | zero => intro l h; rw [List.eq_nil_of_length_eq_zero h]; simp [fold]
  | succ k ih =>
    intro l h
    have hne : l ≠ [] := by rintro rfl; simp at h
    rw [← List.dropLast_concat_getLast hne, fold_snoc, Nat.pow_succ]
    have h1 := ih l.dropLast (by simp [h])
    have h2 : (l.getLast hne).toNat < 256 := by have := (l.getLast hne).toNat_lt; omega
    omega
theorem fold_lt56 (l : List UInt8) (h : l.length ≤ 7) : fold l < 72057594037927936 := by
  have h1 := fold_lt _ l rfl
  have h2 : 256 ^ l.length ≤ 256 ^ 7 := Nat.pow_le_pow_right (by omega) h
  have h3 : (256 : Nat) ^ 7 = 72057594037927936 := by decide
  omega
theorem fold_take (l : List UInt8) (k : Nat) (h : k < l.length) : fold (l.take (k + 1)) = fold (l.take k) * 256 + l[k].toNat := by
  rw [List.take_succ_eq_append_getElem h, fold_snoc]
theorem fold_take_lt (l : List UInt8) (k : Nat) (h : l.length ≤ 7) (hk : k < l.length) : fold (l.take k) < 281474976710656 := by
  have h1 := fold_lt _ (l.take k) rfl
  have h2 : 256 ^ (l.take k).length ≤ 256 ^ 6 := Nat.pow_le_pow_right (by omega) (by rw [List.length_take]; omega)
  have h3 : (256 : Nat) ^ 6 = 281474976710656 := by decide
  omega
theorem next_len (n : Int) (st : St) : ((next n st).1.length : Int) = 0 ∨ ((next n st).1.length : Int) = n := by
  unfold next
  split
  · simp
  · split
    · simp
    · split
      · simp
      · simp only [List.length_take]; right; omega
theorem digits_le (st : St) : 0 ≤ (digits st).1 ∧ (digits st).1 ≤ 7 := by
  unfold digits
  split
  · simp
  · split <;> simp <;> omega
theorem next_rest (n : Int) (st : St) : (next n st).2.1.length ≤ st.1.length := by
  unfold next
  split
  · simp
  · split
    · simp
    · split
      · simp
      · simp only [List.length_drop]; omega
theorem fail_rest (k : Int) (st : St) : (fail k st).1 = st.1 := rfl
theorem digits_rest (st : St) : (digits st).2.1.length ≤ st.1.length := by
  have h := next_rest 1 st
  unfold digits
  generalize next 1 st = x at h ⊢
  obtain ⟨l, st1⟩ := x
  cases l with
  | nil => exact h
  | cons c l =>
    show ((if 7 < c.toNat then ((0 : Int), fail 4 st1) else ((c.toNat : Int), st1)).2).1.length ≤ _
    split
    · exact h
    · exact h
end R
end Go.Proofs.Ytihhgingdgepcaa
