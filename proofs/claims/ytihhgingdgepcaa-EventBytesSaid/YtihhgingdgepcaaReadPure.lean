/-
  What is read is what was written: plain facts on numbers as bytes. No program stands here.
-/
import Derived.Test.YtihhgingdgepcaaReadSpec
namespace Go.Proofs.Ytihhgingdgepcaa
namespace R
open M

theorem fold_pos : ∀ (l : List UInt8), l ≠ [] → l.head? ≠ some 0 → 0 < fold l := by
  intro l hl hh
  obtain ⟨c, t, rfl⟩ := List.exists_cons_of_ne_nil hl
  have hc : c.toNat ≠ 0 := by
    intro e
    apply hh
    have : c = 0 := by apply UInt8.toNat_inj.1; simpa using e
    simp [this]
  have key : ∀ (t : List UInt8) (n : Nat), 0 < n → 0 < t.foldl (fun n c => n * 256 + c.toNat) n := by
    intro t
    induction t with
    | nil => intro n h; exact h
    | cons d t ih => intro n h; exact ih _ (by show 0 < n * 256 + d.toNat; omega)
  show 0 < (c :: t).foldl (fun n c => n * 256 + c.toNat) 0
  rw [List.foldl_cons]
  exact key t _ (by show 0 < 0 * 256 + c.toNat; omega)

theorem dig_fold : ∀ (k : Nat) (l : List UInt8), l.length = k → k ≤ 7 → l.head? ≠ some 0 → dig (fold l) = l := by
  intro k
  induction k with
  | zero => intro l h _ _; rw [List.eq_nil_of_length_eq_zero h]; exact dig_zero
  | succ k ih =>
    intro l h hk hh
    have hne : l ≠ [] := by rintro rfl; simp at h
    have hp := fold_pos l hne hh
    have hlt := fold_lt56 l (by omega)
    have hs : fold l = fold l.dropLast * 256 + (l.getLast hne).toNat := by
      rw [← fold_snoc, List.dropLast_concat_getLast]
    have hc := (l.getLast hne).toNat_lt
    rw [dig_step _ hp hlt]
    rw [show fold l / 256 = fold l.dropLast by omega, show fold l % 256 = (l.getLast hne).toNat by omega]
    have hd : dig (fold l.dropLast) = l.dropLast := by
      by_cases he : l.dropLast = []
      · rw [he]; exact dig_zero
      · refine ih _ (by simp [h]) (by omega) ?_
        intro e
        apply hh
        rw [← List.dropLast_concat_getLast hne, List.head?_append, e]
        rfl
    rw [hd]
    simp [List.dropLast_concat_getLast]

theorem digF_head : ∀ (k n : Nat), n < 256 ^ k → (digF k n).head? ≠ some 0 := by
  intro k
  induction k with
  | zero => intro n _; simp [digF]
  | succ k ih =>
    intro n hlt
    unfold digF
    split
    · simp
    · rename_i hn
      have hlt' : n / 256 < 256 ^ k := by rw [Nat.pow_succ] at hlt; exact Nat.div_lt_of_lt_mul (by omega)
      by_cases he : digF k (n / 256) = []
      · rw [he]
        simp only [List.nil_append, List.head?_cons, ne_eq, Option.some.injEq]
        intro e
        have e2 : (UInt8.ofNat (n % 256)).toNat = 0 := by rw [e]; rfl
        rw [UInt8.toNat_ofNat'] at e2
        cases k with
        | zero => simp at hlt'; omega
        | succ k =>
          unfold digF at he
          split at he
          · omega
          · simp at he
      · rw [List.head?_append]
        cases hx : (digF k (n / 256)).head? with
        | none => exact absurd (List.head?_eq_none_iff.1 hx) he
        | some x => intro e; exact ih (n / 256) hlt' (by rw [hx]; simpa using e)
theorem dig_head (n : Nat) (h : n < 72057594037927936) : (dig n).head? ≠ some 0 :=
  digF_head 8 n (by have : (256 : Nat) ^ 8 = 18446744073709551616 := by decide
                    omega)
theorem fold_dig : ∀ (k n : Nat), n < 256 ^ k → fold (digF k n) = n := by
  intro k
  induction k with
  | zero => intro n h; simp at h; subst h; rfl
  | succ k ih =>
    intro n hlt
    unfold digF
    split
    · rename_i h; rw [h]; rfl
    · have hlt' : n / 256 < 256 ^ k := by rw [Nat.pow_succ] at hlt; exact Nat.div_lt_of_lt_mul (by omega)
      rw [fold_snoc, ih _ hlt', UInt8.toNat_ofNat']
      omega
theorem fold_dig8 (n : Nat) (h : n < 72057594037927936) : fold (dig n) = n :=
  fold_dig 8 n (by have : (256 : Nat) ^ 8 = 18446744073709551616 := by decide
                   omega)

/-! How a number is read. -/
theorem next_bad (n : Int) (l : List UInt8) (e : Int) (h : e ≠ 0) : next n (l, e) = ([], (l, e)) := by simp [next, h]
theorem next_ok (n : Nat) (l : List UInt8) (h : n ≤ l.length) : next n (l, 0) = (l.take n, (l.drop n, 0)) := by
  have : ¬ l.length < n := by omega
  simp [next, this]
theorem next_short (n : Nat) (l : List UInt8) (h : l.length < n) : next n (l, 0) = ([], (l, 2)) := by
  simp [next, h]
theorem digits_bad (l : List UInt8) (e : Int) (h : e ≠ 0) : digits (l, e) = (0, (l, e)) := by
  unfold digits; rw [next_bad _ _ _ h]
theorem digits_nil : digits ([], 0) = (0, ([], 2)) := rfl
theorem digits_cons (c : UInt8) (l : List UInt8) : digits (c :: l, 0) = if 7 < c.toNat then ((0 : Int), ((l, 4) : St)) else ((c.toNat : Int), ((l, 0) : St)) := by
  have h := next_ok 1 (c :: l) (by simp)
  unfold digits
  rw [show (1 : Int) = ((1 : Nat) : Int) from rfl, h]
  rfl

/-- A number that was read without an error: its encoding stood there. -/
theorem num_back (m : Int) (l : List UInt8) (h : (num m (l, 0)).2.2 = 0) :
    0 ≤ (num m (l, 0)).1 ∧ (num m (l, 0)).1 ≤ m ∧ (num m (l, 0)).1 < 72057594037927936 ∧ l = M.encL (num m (l, 0)).1 ++ (num m (l, 0)).2.1 := by
  have bad : ∀ (st1 : St) (d : Int), st1.2 ≠ 0 → digits (l, 0) = (d, st1) → (num m (l, 0)).2.2 ≠ 0 := by
    intro st1 d he hd
    obtain ⟨l1, e1⟩ := st1
    have hnb := next_bad d l1 e1 he
    unfold num
    rw [hd]
    simp only [hnb]
    have e2 : lead [] (l1, e1) = (l1, e1) := by simp [lead]
    rw [e2]
    split
    · simp only [fail, failE]; split <;> simp_all
    · exact he
  cases l with
  | nil => exact absurd h (bad _ _ (by simp) digits_nil)
  | cons c t =>
    have hd := digits_cons c t
    by_cases h7 : 7 < c.toNat
    · rw [if_pos h7] at hd
      exact absurd h (bad (t, 4) 0 (by simp) hd)
    · rw [if_neg h7] at hd
      by_cases hs : t.length < c.toNat
      · exfalso
        have hn := next_short c.toNat t hs
        unfold num at h
        rw [hd] at h
        simp only [hn] at h
        have e2 : lead [] (t, 2) = (t, 2) := by simp [lead]
        rw [e2] at h
        split at h <;> simp [fail, failE] at h
      · have hn := next_ok c.toNat t (by omega)
        have hnum : num m (c :: t, 0) = (fun st4 : St => (if st4.2 = 0 then (fold (t.take c.toNat) : Int) else 0, st4)) (if m < (fold (t.take c.toNat) : Int) then fail 3 (lead (t.take c.toNat) (t.drop c.toNat, 0)) else lead (t.take c.toNat) (t.drop c.toNat, 0)) := by
          unfold num
          rw [hd]
          simp only [hn]
        have hl : (t.take c.toNat).length = c.toNat := by rw [List.length_take]; omega
        by_cases hz : (t.take c.toNat).head? = some 0
        · exfalso
          rw [hnum, lead, if_pos hz] at h
          simp only [fail, failE] at h
          split at h <;> simp at h
        · rw [hnum, lead, if_neg hz] at h ⊢
          by_cases hm : m < (fold (t.take c.toNat) : Int)
          · exfalso
            rw [if_pos hm] at h
            simp [fail, failE] at h
          · rw [if_neg hm]
            have hlt := fold_lt56 (t.take c.toNat) (by omega)
            simp only [if_true]
            refine ⟨by omega, by omega, by omega, ?_⟩
            rw [M.encL, if_pos ⟨by omega, by omega⟩, Int.toNat_natCast, dig_fold _ _ hl (by omega) hz, hl]
            simp [List.take_append_drop]

/-- A number that was written is read. -/
theorem num_fwd (m n : Int) (r : List UInt8) (h0 : 0 ≤ n) (h1 : n < 72057594037927936) (hm : n ≤ m) : num m (M.encL n ++ r, 0) = (n, (r, 0)) := by
  obtain ⟨k, rfl⟩ := Int.eq_ofNat_of_zero_le h0
  have hk : k < 72057594037927936 := by omega
  have hlen := M.dig_len k hk
  have he : M.encL (k : Int) = UInt8.ofNat (M.dig k).length :: M.dig k := by rw [M.encL, if_pos ⟨by omega, by omega⟩]; simp
  have hc : (UInt8.ofNat (M.dig k).length).toNat = (M.dig k).length := by rw [UInt8.toNat_ofNat']; omega
  have hd := digits_cons (UInt8.ofNat (M.dig k).length) (M.dig k ++ r)
  rw [hc, if_neg (by omega)] at hd
  have hn := next_ok (M.dig k).length (M.dig k ++ r) (by simp)
  unfold num
  rw [he, List.cons_append, hd]
  simp only [hn]
  rw [List.take_left, List.drop_left, fold_dig8 k hk, lead, if_neg (dig_head k hk)]
  have hmk : ¬ m < (k : Int) := by omega
  simp only [if_neg hmk]
  simp

/-- A text that was written is read. -/
theorem text_fwd (m : Int) (t r : List UInt8) (h1 : (t.length : Int) < 72057594037927936) (hm : (t.length : Int) ≤ m) : text m (M.encL t.length ++ t ++ r, 0) = (t, (r, 0)) := by
  unfold text
  rw [List.append_assoc, num_fwd m t.length (t ++ r) (by omega) h1 hm]
  rw [next_ok _ _ (by simp)]
  simp
/-- A text that was read without an error: its encoding stood there. -/
theorem text_back (m : Int) (l : List UInt8) (h : (text m (l, 0)).2.2 = 0) :
    l = M.encL (text m (l, 0)).1.length ++ (text m (l, 0)).1 ++ (text m (l, 0)).2.1 ∧ ((text m (l, 0)).1.length : Int) ≤ m := by
  unfold text at h ⊢
  have hb := num_back m l
  generalize num m (l, 0) = x at h hb ⊢
  obtain ⟨n, ⟨l1, e⟩⟩ := x
  simp only at h hb ⊢
  by_cases he : e = 0
  · subst he
    obtain ⟨h0, hm, hlt, hl⟩ := hb rfl
    obtain ⟨k, rfl⟩ := Int.eq_ofNat_of_zero_le h0
    by_cases hs : l1.length < k
    · rw [next_short k l1 hs] at h; simp at h
    · rw [next_ok k l1 (by omega)]
      simp only
      have e1 : (l1.take k).length = k := by rw [List.length_take]; omega
      rw [e1, List.append_assoc, List.take_append_drop]
      exact ⟨hl, hm⟩
  · rw [next_bad _ _ _ he] at h
    exact absurd h he
theorem fin_ok (st : St) (h : (fin st).2 = 0) : st.2 = 0 ∧ st.1 = [] := by
  obtain ⟨l, e⟩ := st
  unfold fin left at h
  by_cases he : e = 0
  · subst he
    simp only [ne_eq, not_true_eq_false, if_false] at h
    cases l with
    | nil => exact ⟨rfl, rfl⟩
    | cons c t => rw [if_pos (by simp)] at h; simp [fail, failE] at h
  · simp only [ne_eq, he, not_false_eq_true, if_true] at h
    rw [if_neg (by simp)] at h
    exact absurd h he

theorem next_cons_ok (n : Int) (st st1 : St) (c : UInt8) (t : List UInt8) (h : next n st = (c :: t, st1)) : st1.2 = 0 := by
  obtain ⟨l, e⟩ := st
  unfold next at h
  split at h
  · injection h with h _; cases h
  · split at h
    · injection h with h _; cases h
    · split at h
      · injection h with h _; cases h
      · injection h with _ h; rw [← h]
theorem next_nil_err (st st1 : St) (h : next 1 st = ([], st1)) : st1.2 ≠ 0 := by
  obtain ⟨l, e⟩ := st
  by_cases he : e = 0
  · subst he
    cases l with
    | nil => rw [show next 1 ([], 0) = ([], ([], 2)) from rfl] at h; injection h with _ h; rw [← h]; simp
    | cons c t => rw [show (1 : Int) = ((1 : Nat) : Int) from rfl, next_ok 1 (c :: t) (by simp)] at h; injection h with h _; cases h
  · rw [next_bad _ _ _ he] at h; injection h with _ h; rw [← h]; exact he
theorem num_bad (m d : Int) (st st1 : St) (he : st1.2 ≠ 0) (hd : digits st = (d, st1)) : num m st = (0, st1) := by
  obtain ⟨l1, e1⟩ := st1
  have hnb := next_bad d l1 e1 he
  have e2 : lead [] (l1, e1) = (l1, e1) := by simp [lead]
  have e3 : fail 3 (l1, e1) = (l1, e1) := by unfold fail failE; rw [if_neg he]
  unfold num
  rw [hd]
  simp only [hnb, e2, e3, ite_self]
  rw [if_neg he]
theorem num_nil (m : Int) (st st1 : St) (h : next 1 st = ([], st1)) : num m st = (0, st1) :=
  num_bad m 0 st st1 (next_nil_err st st1 h) (by unfold digits; rw [h])
theorem num_big (m : Int) (st st1 : St) (c : UInt8) (t : List UInt8) (h : next 1 st = (c :: t, st1)) (hc : 7 < c.toNat) : num m st = (0, fail 4 st1) :=
  num_bad m 0 st (fail 4 st1) (by have := next_cons_ok 1 st st1 c t h; unfold fail failE; rw [if_pos this]; simp) (by unfold digits; rw [h]; simp only; rw [if_pos hc])
def numEnd (m : Int) (ds : List UInt8) (st3 : St) : Int × St := (fun st4 : St => (if st4.2 = 0 then (fold ds : Int) else 0, st4)) (if m < (fold ds : Int) then fail 3 st3 else st3)
theorem num_go (m : Int) (st st1 st2 : St) (c : UInt8) (t ds : List UInt8) (h : next 1 st = (c :: t, st1)) (hc : ¬ 7 < c.toNat) (h2 : next c.toNat st1 = (ds, st2)) : num m st = numEnd m ds (lead ds st2) := by
  have hd : digits st = ((c.toNat : Int), st1) := by unfold digits; rw [h]; simp only; rw [if_neg hc]
  unfold num numEnd
  rw [hd]
  simp only [h2]
theorem numEnd_err (m : Int) (ds : List UInt8) (st3 : St) (h : st3.2 ≠ 0) : numEnd m ds st3 = (0, st3) := by
  obtain ⟨l, e⟩ := st3
  have e3 : fail 3 (l, e) = (l, e) := by unfold fail failE; rw [if_neg h]
  unfold numEnd
  simp only [e3, ite_self]
  rw [if_neg h]
theorem numEnd_long (m : Int) (ds : List UInt8) (st3 : St) (h : st3.2 = 0) (hm : m < (fold ds : Int)) : numEnd m ds st3 = (0, (st3.1, 3)) := by
  obtain ⟨l, e⟩ := st3
  unfold numEnd
  rw [if_pos hm]
  have h' : e = 0 := h
  simp [fail, failE, h']
theorem numEnd_ok (m : Int) (ds : List UInt8) (st3 : St) (h : st3.2 = 0) (hm : ¬ m < (fold ds : Int)) : numEnd m ds st3 = ((fold ds : Int), st3) := by
  unfold numEnd
  rw [if_neg hm]
  simp [h]
end R
end Go.Proofs.Ytihhgingdgepcaa
