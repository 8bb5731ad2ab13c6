/-
  RdPures: the texts ReadSpec, ReadPure, SupSpec in one.
-/
import Derived.Test.YtdgfohffmbnjiaaGreatDoorMath
namespace Go.Proofs.YtdgfohffmbnjiaaGreatDoor
namespace R
abbrev St := List UInt8 × Int
def failE (k e : Int) : Int := if e = 0 then k else e
def fail (k : Int) (st : St) : St := (st.1, failE k st.2)
def next (n : Int) (st : St) : List UInt8 × St :=
  if st.2 ≠ 0 then ([], st) else if n < 0 then ([], (st.1, 1)) else if (st.1.length : Int) < n then ([], (st.1, 2)) else (st.1.take n.toNat, (st.1.drop n.toNat, 0))
def digits (st : St) : Int × St :=
  match next 1 st with
  | ([], st1) => (0, st1)
  | (c :: _, st1) => if 7 < c.toNat then (0, fail 4 st1) else (c.toNat, st1)
def fold (l : List UInt8) : Nat := l.foldl (fun n c => n * 256 + c.toNat) 0
def lead (l : List UInt8) (st : St) : St := if l.head? = some 0 then fail 4 st else st
def num (most : Int) (st : St) : Int × St :=
  let d := digits st
  let b := next d.1 d.2
  let st3 := lead b.1 b.2
  let n : Int := fold b.1
  let st4 := if most < n then fail 3 st3 else st3
  (if st4.2 = 0 then n else 0, st4)
def text (most : Int) (st : St) : List UInt8 × St := next (num most st).1 (num most st).2
def flag (st : St) : Bool × St :=
  match next 1 st with
  | ([], st1) => (false, st1)
  | (c :: _, st1) => (c.toNat == 1, if 1 < c.toNat then fail 4 st1 else st1)
def left (st : St) : Int := if st.2 ≠ 0 then 0 else st.1.length
def fin (st : St) : St := if 0 < left st then fail 4 st else st

theorem fold_snoc (l : List UInt8) (c : UInt8) : fold (l ++ [c]) = fold l * 256 + c.toNat := by simp [fold]
theorem fold_lt : ∀ (k : Nat) (l : List UInt8), l.length = k → fold l < 256 ^ k := by
  intro k
  induction k with
  | zero => intro l h; rw [List.eq_nil_of_length_eq_zero h]; simp [fold]
  | succ k ih =>
    intro l h
    have hne : l ≠ [] := by rintro rfl; simp at h
    rw [← List.dropLast_concat_getLast hne, fold_snoc, Nat.pow_succ]
    have h1 := ih l.dropLast (by simp [h])
    have h2 : (l.getLast hne).toNat < 256 := by have := (l.getLast hne).toNat_lt; omega
    omega
theorem fold_lt56 (l : List UInt8) (h : l.length ≤ 7) : fold l < 72057594037927936 := by
  have h1 := fold_lt _ l rfl
  have h2 : 256 ^ l.length ≤ 256 ^ 7 := Nat.pow_le_pow_right (by omega) h
  have h3 : (256 : Nat) ^ 7 = 72057594037927936 := by decide
  omega
theorem fold_take (l : List UInt8) (k : Nat) (h : k < l.length) : fold (l.take (k + 1)) = fold (l.take k) * 256 + l[k].toNat := by
  rw [List.take_succ_eq_append_getElem h, fold_snoc]
theorem fold_take_lt (l : List UInt8) (k : Nat) (h : l.length ≤ 7) (hk : k < l.length) : fold (l.take k) < 281474976710656 := by
  have h1 := fold_lt _ (l.take k) rfl
  have h2 : 256 ^ (l.take k).length ≤ 256 ^ 6 := Nat.pow_le_pow_right (by omega) (by rw [List.length_take]; omega)
  have h3 : (256 : Nat) ^ 6 = 281474976710656 := by decide
  omega
theorem next_len (n : Int) (st : St) : ((next n st).1.length : Int) = 0 ∨ ((next n st).1.length : Int) = n := by
  unfold next
  split
  · simp
  · split
    · simp
    · split
      · simp
      · simp only [List.length_take]; right; omega
theorem digits_le (st : St) : 0 ≤ (digits st).1 ∧ (digits st).1 ≤ 7 := by
  unfold digits
  split
  · simp
  · split <;> simp <;> omega
theorem next_rest (n : Int) (st : St) : (next n st).2.1.length ≤ st.1.length := by
  unfold next
  split
  · simp
  · split
    · simp
    · split
      · simp
      · simp only [List.length_drop]; omega
theorem fail_rest (k : Int) (st : St) : (fail k st).1 = st.1 := rfl
theorem digits_rest (st : St) : (digits st).2.1.length ≤ st.1.length := by
  have h := next_rest 1 st
  unfold digits
  generalize next 1 st = x at h ⊢
  obtain ⟨l, st1⟩ := x
  cases l with
  | nil => exact h
  | cons c l =>
    show ((if 7 < c.toNat then ((0 : Int), fail 4 st1) else ((c.toNat : Int), st1)).2).1.length ≤ _
    split
    · exact h
    · exact h
end R
end Go.Proofs.YtdgfohffmbnjiaaGreatDoor

namespace Go.Proofs.YtdgfohffmbnjiaaGreatDoor
namespace R
open M

theorem fold_pos : ∀ (l : List UInt8), l ≠ [] → l.head? ≠ some 0 → 0 < fold l := by
  intro l hl hh
  obtain ⟨c, t, rfl⟩ := List.exists_cons_of_ne_nil hl
  have hc : c.toNat ≠ 0 := by
    intro e
    apply hh
    have : c = 0 := by apply UInt8.toNat_inj.1; simpa using e
    simp [this]
  have key : ∀ (t : List UInt8) (n : Nat), 0 < n → 0 < t.foldl (fun n c => n * 256 + c.toNat) n := by
    intro t
    induction t with
    | nil => intro n h; exact h
    | cons d t ih => intro n h; exact ih _ (by show 0 < n * 256 + d.toNat; omega)
  show 0 < (c :: t).foldl (fun n c => n * 256 + c.toNat) 0
  rw [List.foldl_cons]
  exact key t _ (by show 0 < 0 * 256 + c.toNat; omega)

theorem dig_fold : ∀ (k : Nat) (l : List UInt8), l.length = k → k ≤ 7 → l.head? ≠ some 0 → dig (fold l) = l := by
  intro k
  induction k with
  | zero => intro l h _ _; rw [List.eq_nil_of_length_eq_zero h]; exact dig_zero
  | succ k ih =>
    intro l h hk hh
    have hne : l ≠ [] := by rintro rfl; simp at h
    have hp := fold_pos l hne hh
    have hlt := fold_lt56 l (by omega)
    have hs : fold l = fold l.dropLast * 256 + (l.getLast hne).toNat := by
      rw [← fold_snoc, List.dropLast_concat_getLast]
    have hc := (l.getLast hne).toNat_lt
    rw [dig_step _ hp hlt]
    rw [show fold l / 256 = fold l.dropLast by omega, show fold l % 256 = (l.getLast hne).toNat by omega]
    have hd : dig (fold l.dropLast) = l.dropLast := by
      by_cases he : l.dropLast = []
      · rw [he]; exact dig_zero
      · refine ih _ (by simp [h]) (by omega) ?_
        intro e
        apply hh
        rw [← List.dropLast_concat_getLast hne, List.head?_append, e]
        rfl
    rw [hd]
    simp [List.dropLast_concat_getLast]

theorem digF_head : ∀ (k n : Nat), n < 256 ^ k → (digF k n).head? ≠ some 0 := by
  intro k
  induction k with
  | zero => intro n _; simp [digF]
  | succ k ih =>
    intro n hlt
    unfold digF
    split
    · simp
    · rename_i hn
      have hlt' : n / 256 < 256 ^ k := by rw [Nat.pow_succ] at hlt; exact Nat.div_lt_of_lt_mul (by omega)
      by_cases he : digF k (n / 256) = []
      · rw [he]
        simp only [List.nil_append, List.head?_cons, ne_eq, Option.some.injEq]
        intro e
        have e2 : (UInt8.ofNat (n % 256)).toNat = 0 := by rw [e]; rfl
        rw [UInt8.toNat_ofNat'] at e2
        cases k with
        | zero => simp at hlt'; omega
        | succ k =>
          unfold digF at he
          split at he
          · omega
          · simp at he
      · rw [List.head?_append]
        cases hx : (digF k (n / 256)).head? with
        | none => exact absurd (List.head?_eq_none_iff.1 hx) he
        | some x => intro e; exact ih (n / 256) hlt' (by rw [hx]; simpa using e)
theorem dig_head (n : Nat) (h : n < 72057594037927936) : (dig n).head? ≠ some 0 :=
  digF_head 8 n (by have : (256 : Nat) ^ 8 = 18446744073709551616 := by decide
                    omega)
theorem fold_dig : ∀ (k n : Nat), n < 256 ^ k → fold (digF k n) = n := by
  intro k
  induction k with
  | zero => intro n h; simp at h; subst h; rfl
  | succ k ih =>
    intro n hlt
    unfold digF
    split
    · rename_i h; rw [h]; rfl
    · have hlt' : n / 256 < 256 ^ k := by rw [Nat.pow_succ] at hlt; exact Nat.div_lt_of_lt_mul (by omega)
      rw [fold_snoc, ih _ hlt', UInt8.toNat_ofNat']
      omega
theorem fold_dig8 (n : Nat) (h : n < 72057594037927936) : fold (dig n) = n :=
  fold_dig 8 n (by have : (256 : Nat) ^ 8 = 18446744073709551616 := by decide
                   omega)

/-! How a number is read. -/
theorem next_bad (n : Int) (l : List UInt8) (e : Int) (h : e ≠ 0) : next n (l, e) = ([], (l, e)) := by simp [next, h]
theorem next_ok (n : Nat) (l : List UInt8) (h : n ≤ l.length) : next n (l, 0) = (l.take n, (l.drop n, 0)) := by
  have : ¬ l.length < n := by omega
  simp [next, this]
theorem next_short (n : Nat) (l : List UInt8) (h : l.length < n) : next n (l, 0) = ([], (l, 2)) := by
  simp [next, h]
theorem digits_bad (l : List UInt8) (e : Int) (h : e ≠ 0) : digits (l, e) = (0, (l, e)) := by
  unfold digits; rw [next_bad _ _ _ h]
theorem digits_nil : digits ([], 0) = (0, ([], 2)) := rfl
theorem digits_cons (c : UInt8) (l : List UInt8) : digits (c :: l, 0) = if 7 < c.toNat then ((0 : Int), ((l, 4) : St)) else ((c.toNat : Int), ((l, 0) : St)) := by
  have h := next_ok 1 (c :: l) (by simp)
  unfold digits
  rw [show (1 : Int) = ((1 : Nat) : Int) from rfl, h]
  rfl

/-- A number that was read without an error: its encoding stood there. -/
theorem num_back (m : Int) (l : List UInt8) (h : (num m (l, 0)).2.2 = 0) :
    0 ≤ (num m (l, 0)).1 ∧ (num m (l, 0)).1 ≤ m ∧ (num m (l, 0)).1 < 72057594037927936 ∧ l = M.encL (num m (l, 0)).1 ++ (num m (l, 0)).2.1 := by
  have bad : ∀ (st1 : St) (d : Int), st1.2 ≠ 0 → digits (l, 0) = (d, st1) → (num m (l, 0)).2.2 ≠ 0 := by
    intro st1 d he hd
    obtain ⟨l1, e1⟩ := st1
    have hnb := next_bad d l1 e1 he
    unfold num
    rw [hd]
    simp only [hnb]
    have e2 : lead [] (l1, e1) = (l1, e1) := by simp [lead]
    rw [e2]
    split
    · simp only [fail, failE]; split <;> simp_all
    · exact he
  cases l with
  | nil => exact absurd h (bad _ _ (by simp) digits_nil)
  | cons c t =>
    have hd := digits_cons c t
    by_cases h7 : 7 < c.toNat
    · rw [if_pos h7] at hd
      exact absurd h (bad (t, 4) 0 (by simp) hd)
    · rw [if_neg h7] at hd
      by_cases hs : t.length < c.toNat
      · exfalso
        have hn := next_short c.toNat t hs
        unfold num at h
        rw [hd] at h
        simp only [hn] at h
        have e2 : lead [] (t, 2) = (t, 2) := by simp [lead]
        rw [e2] at h
        split at h <;> simp [fail, failE] at h
      · have hn := next_ok c.toNat t (by omega)
        have hnum : num m (c :: t, 0) = (fun st4 : St => (if st4.2 = 0 then (fold (t.take c.toNat) : Int) else 0, st4)) (if m < (fold (t.take c.toNat) : Int) then fail 3 (lead (t.take c.toNat) (t.drop c.toNat, 0)) else lead (t.take c.toNat) (t.drop c.toNat, 0)) := by
          unfold num
          rw [hd]
          simp only [hn]
        have hl : (t.take c.toNat).length = c.toNat := by rw [List.length_take]; omega
        by_cases hz : (t.take c.toNat).head? = some 0
        · exfalso
          rw [hnum, lead, if_pos hz] at h
          simp only [fail, failE] at h
          split at h <;> simp at h
        · rw [hnum, lead, if_neg hz] at h ⊢
          by_cases hm : m < (fold (t.take c.toNat) : Int)
          · exfalso
            rw [if_pos hm] at h
            simp [fail, failE] at h
          · rw [if_neg hm]
            have hlt := fold_lt56 (t.take c.toNat) (by omega)
            simp only [if_true]
            refine ⟨by omega, by omega, by omega, ?_⟩
            rw [M.encL, if_pos ⟨by omega, by omega⟩, Int.toNat_natCast, dig_fold _ _ hl (by omega) hz, hl]
            simp [List.take_append_drop]

/-- A number that was written is read. -/
theorem num_fwd (m n : Int) (r : List UInt8) (h0 : 0 ≤ n) (h1 : n < 72057594037927936) (hm : n ≤ m) : num m (M.encL n ++ r, 0) = (n, (r, 0)) := by
  obtain ⟨k, rfl⟩ := Int.eq_ofNat_of_zero_le h0
  have hk : k < 72057594037927936 := by omega
  have hlen := M.dig_len k hk
  have he : M.encL (k : Int) = UInt8.ofNat (M.dig k).length :: M.dig k := by rw [M.encL, if_pos ⟨by omega, by omega⟩]; simp
  have hc : (UInt8.ofNat (M.dig k).length).toNat = (M.dig k).length := by rw [UInt8.toNat_ofNat']; omega
  have hd := digits_cons (UInt8.ofNat (M.dig k).length) (M.dig k ++ r)
  rw [hc, if_neg (by omega)] at hd
  have hn := next_ok (M.dig k).length (M.dig k ++ r) (by simp)
  unfold num
  rw [he, List.cons_append, hd]
  simp only [hn]
  rw [List.take_left, List.drop_left, fold_dig8 k hk, lead, if_neg (dig_head k hk)]
  have hmk : ¬ m < (k : Int) := by omega
  simp only [if_neg hmk]
  simp

/-- A text that was written is read. -/
theorem text_fwd (m : Int) (t r : List UInt8) (h1 : (t.length : Int) < 72057594037927936) (hm : (t.length : Int) ≤ m) : text m (M.encL t.length ++ t ++ r, 0) = (t, (r, 0)) := by
  unfold text
  rw [List.append_assoc, num_fwd m t.length (t ++ r) (by omega) h1 hm]
  rw [next_ok _ _ (by simp)]
  simp
/-- A text that was read without an error: its encoding stood there. -/
theorem text_back (m : Int) (l : List UInt8) (h : (text m (l, 0)).2.2 = 0) :
    l = M.encL (text m (l, 0)).1.length ++ (text m (l, 0)).1 ++ (text m (l, 0)).2.1 ∧ ((text m (l, 0)).1.length : Int) ≤ m := by
  unfold text at h ⊢
  have hb := num_back m l
  generalize num m (l, 0) = x at h hb ⊢
  obtain ⟨n, ⟨l1, e⟩⟩ := x
  simp only at h hb ⊢
  by_cases he : e = 0
  · subst he
    obtain ⟨h0, hm, hlt, hl⟩ := hb rfl
    obtain ⟨k, rfl⟩ := Int.eq_ofNat_of_zero_le h0
    by_cases hs : l1.length < k
    · rw [next_short k l1 hs] at h; simp at h
    · rw [next_ok k l1 (by omega)]
      simp only
      have e1 : (l1.take k).length = k := by rw [List.length_take]; omega
      rw [e1, List.append_assoc, List.take_append_drop]
      exact ⟨hl, hm⟩
  · rw [next_bad _ _ _ he] at h
    exact absurd h he
theorem fin_ok (st : St) (h : (fin st).2 = 0) : st.2 = 0 ∧ st.1 = [] := by
  obtain ⟨l, e⟩ := st
  unfold fin left at h
  by_cases he : e = 0
  · subst he
    simp only [ne_eq, not_true_eq_false, if_false] at h
    cases l with
    | nil => exact ⟨rfl, rfl⟩
    | cons c t => rw [if_pos (by simp)] at h; simp [fail, failE] at h
  · simp only [ne_eq, he, not_false_eq_true, if_true] at h
    rw [if_neg (by simp)] at h
    exact absurd h he

theorem next_cons_ok (n : Int) (st st1 : St) (c : UInt8) (t : List UInt8) (h : next n st = (c :: t, st1)) : st1.2 = 0 := by
  obtain ⟨l, e⟩ := st
  unfold next at h
  split at h
  · injection h with h _; cases h
  · split at h
    · injection h with h _; cases h
    · split at h
      · injection h with h _; cases h
      · injection h with _ h; rw [← h]
theorem next_nil_err (st st1 : St) (h : next 1 st = ([], st1)) : st1.2 ≠ 0 := by
  obtain ⟨l, e⟩ := st
  by_cases he : e = 0
  · subst he
    cases l with
    | nil => rw [show next 1 ([], 0) = ([], ([], 2)) from rfl] at h; injection h with _ h; rw [← h]; simp
    | cons c t => rw [show (1 : Int) = ((1 : Nat) : Int) from rfl, next_ok 1 (c :: t) (by simp)] at h; injection h with h _; cases h
  · rw [next_bad _ _ _ he] at h; injection h with _ h; rw [← h]; exact he
theorem num_bad (m d : Int) (st st1 : St) (he : st1.2 ≠ 0) (hd : digits st = (d, st1)) : num m st = (0, st1) := by
  obtain ⟨l1, e1⟩ := st1
  have hnb := next_bad d l1 e1 he
  have e2 : lead [] (l1, e1) = (l1, e1) := by simp [lead]
  have e3 : fail 3 (l1, e1) = (l1, e1) := by unfold fail failE; rw [if_neg he]
  unfold num
  rw [hd]
  simp only [hnb, e2, e3, ite_self]
  rw [if_neg he]
theorem num_nil (m : Int) (st st1 : St) (h : next 1 st = ([], st1)) : num m st = (0, st1) :=
  num_bad m 0 st st1 (next_nil_err st st1 h) (by unfold digits; rw [h])
theorem num_big (m : Int) (st st1 : St) (c : UInt8) (t : List UInt8) (h : next 1 st = (c :: t, st1)) (hc : 7 < c.toNat) : num m st = (0, fail 4 st1) :=
  num_bad m 0 st (fail 4 st1) (by have := next_cons_ok 1 st st1 c t h; unfold fail failE; rw [if_pos this]; simp) (by unfold digits; rw [h]; simp only; rw [if_pos hc])
def numEnd (m : Int) (ds : List UInt8) (st3 : St) : Int × St := (fun st4 : St => (if st4.2 = 0 then (fold ds : Int) else 0, st4)) (if m < (fold ds : Int) then fail 3 st3 else st3)
theorem num_go (m : Int) (st st1 st2 : St) (c : UInt8) (t ds : List UInt8) (h : next 1 st = (c :: t, st1)) (hc : ¬ 7 < c.toNat) (h2 : next c.toNat st1 = (ds, st2)) : num m st = numEnd m ds (lead ds st2) := by
  have hd : digits st = ((c.toNat : Int), st1) := by unfold digits; rw [h]; simp only; rw [if_neg hc]
  unfold num numEnd
  rw [hd]
  simp only [h2]
theorem numEnd_err (m : Int) (ds : List UInt8) (st3 : St) (h : st3.2 ≠ 0) : numEnd m ds st3 = (0, st3) := by
  obtain ⟨l, e⟩ := st3
  have e3 : fail 3 (l, e) = (l, e) := by unfold fail failE; rw [if_neg h]
  unfold numEnd
  simp only [e3, ite_self]
  rw [if_neg h]
theorem numEnd_long (m : Int) (ds : List UInt8) (st3 : St) (h : st3.2 = 0) (hm : m < (fold ds : Int)) : numEnd m ds st3 = (0, (st3.1, 3)) := by
  obtain ⟨l, e⟩ := st3
  unfold numEnd
  rw [if_pos hm]
  have h' : e = 0 := h
  simp [fail, failE, h']
theorem numEnd_ok (m : Int) (ds : List UInt8) (st3 : St) (h : st3.2 = 0) (hm : ¬ m < (fold ds : Int)) : numEnd m ds st3 = ((fold ds : Int), st3) := by
  unfold numEnd
  rw [if_neg hm]
  simp [h]
end R
end Go.Proofs.YtdgfohffmbnjiaaGreatDoor

namespace Go.Proofs.YtdgfohffmbnjiaaGreatDoor
set_option linter.unusedVariables false

/-- A superblock. -/
structure Sup where
  gen : Int
  boot : Int
  side : Int
  seed : Int
deriving DecidableEq
namespace Sup
abbrev T := List UInt8
def right (s : Sup) : Bool := decide (0 < s.gen) && decide (s.gen < 2147483648) && decide (0 < s.boot) && decide (s.boot < 2147483648) && (decide (s.side = 0) || decide (s.side = 1)) && decide (0 < s.seed) && decide (s.seed ≤ s.gen)
theorem right_iff {s : Sup} : right s = true ↔ 0 < s.gen ∧ s.gen < 2147483648 ∧ 0 < s.boot ∧ s.boot < 2147483648 ∧ (s.side = 0 ∨ s.side = 1) ∧ 0 < s.seed ∧ s.seed ≤ s.gen := by
  unfold right
  simp only [Bool.and_eq_true, Bool.or_eq_true, decide_eq_true_eq, and_assoc]
def sign : T := [67, 72, 65, 82, 84, 49]
def enc (s : Sup) : T := M.encL 6 ++ sign ++ (M.encL s.gen ++ (M.encL s.boot ++ (M.encL s.side ++ (M.encL s.seed ++ []))))
def zero : Sup := ⟨0, 0, 0, 0⟩
def next (s : Sup) (turn : Bool) : Sup := if turn = true then ⟨s.gen + 1, s.boot, 1 - s.side, s.gen + 1⟩ else ⟨s.gen + 1, s.boot, s.side, s.seed⟩
/-- What a reader makes of bytes: the sign, the numbers, what is left. -/
def dec (b : T) : T × Sup × R.St :=
  let t := R.text 100 (b, 0)
  let g := R.num 2147483647 t.2
  let o := R.num 2147483647 g.2
  let i := R.num 1 o.2
  let e := R.num 2147483647 i.2
  (t.1, ⟨g.1, o.1, i.1, e.1⟩, e.2)
theorem dec_enc {s : Sup} (h : right s = true) : dec (enc s) = (sign, s, ([], 0)) := by
  obtain ⟨h1, h2, h3, h4, h5, h6, h7⟩ := right_iff.1 h
  have e1 : R.text 100 (enc s, 0) = (sign, (M.encL s.gen ++ (M.encL s.boot ++ (M.encL s.side ++ (M.encL s.seed ++ []))), 0)) := R.text_fwd 100 sign _ (by decide) (by decide)
  have e2 := R.num_fwd 2147483647 s.gen (M.encL s.boot ++ (M.encL s.side ++ (M.encL s.seed ++ []))) (by omega) (by omega) (by omega)
  have e3 := R.num_fwd 2147483647 s.boot (M.encL s.side ++ (M.encL s.seed ++ [])) (by omega) (by omega) (by omega)
  have e4 := R.num_fwd 1 s.side (M.encL s.seed ++ []) (by omega) (by omega) (by omega)
  have e5 := R.num_fwd 2147483647 s.seed [] (by omega) (by omega) (by omega)
  unfold dec
  simp only [e1, e2, e3, e4, e5]
theorem enc_inj {s t : Sup} (hs : right s = true) (ht : right t = true) (h : enc s = enc t) : s = t := by
  have h1 := dec_enc hs
  rw [h, dec_enc ht] at h1
  injection h1 with _ h1
  injection h1 with h1 _
  exact h1.symm
theorem encL_5 {n : Int} (h0 : 0 ≤ n) (h : n < 2147483648) : (M.encL n).length ≤ 5 := by
  unfold M.encL
  rw [if_pos ⟨h0, by omega⟩, List.length_cons]
  have e : M.dig n.toNat = M.digF 4 n.toNat := by
    unfold M.dig
    exact M.digF_more 4 4 n.toNat (by omega)
  rw [e]
  have := M.digF_len 4 n.toNat
  omega
theorem enc_len {s : Sup} (h : right s = true) : (enc s).length ≤ 47 := by
  obtain ⟨h1, h2, h3, h4, h5, h6, h7⟩ := right_iff.1 h
  have a1 := encL_5 (n := s.gen) (by omega) (by omega)
  have a2 := encL_5 (n := s.boot) (by omega) (by omega)
  have a3 := encL_5 (n := s.side) (by omega) (by omega)
  have a4 := encL_5 (n := s.seed) (by omega) (by omega)
  have a5 : (M.encL 6).length ≤ 5 := encL_5 (by decide) (by decide)
  have a6 : sign.length = 6 := rfl
  unfold enc
  simp only [List.length_append, List.length_nil]
  omega
/-- The superblock that just these bytes are, in the sector i. -/
def find (i : Nat) (b : T) : Option Sup := if right (dec b).2.1 = true ∧ (dec b).2.1.gen % 2 = (i : Int) ∧ enc (dec b).2.1 = b then some (dec b).2.1 else none
theorem find_iff {i : Nat} {b : T} {s : Sup} : find i b = some s ↔ right s = true ∧ s.gen % 2 = (i : Int) ∧ enc s = b := by
  constructor
  · intro h
    unfold find at h
    split at h
    · rename_i hc
      injection h with h
      rw [h] at hc
      exact hc
    · cases h
  · rintro ⟨h1, h2, rfl⟩
    unfold find
    rw [dec_enc h1]
    rw [if_pos ⟨h1, h2, rfl⟩]
/-- Of two, the one of the greater number. -/
def pick : Option Sup → Option Sup → Option Sup
  | none, b => b
  | some a, none => some a
  | some a, some b => if a.gen < b.gen then some b else some a
end Sup
end Go.Proofs.YtdgfohffmbnjiaaGreatDoor
