/-
  What was laid is read as it was: plain; and the kept items as values. No program stands here.
-/
import Derived.Test.YtclocjfnkaaenaaItemSpec
import Derived.Test.YtclocjfnkaaenaaTextsSpec
namespace Go.Proofs.Ytclocjfnkaaenaa
open Go.RowKit
set_option linter.unusedVariables false

def longest (l : List (List UInt8)) : Nat := l.foldl (fun n s => if n < s.length then s.length else n) 0
theorem fold_ge : ∀ (l : List (List UInt8)) (n : Nat), n ≤ l.foldl (fun n s => if n < s.length then s.length else n) n
  | [], n => Nat.le_refl _
  | s :: l, n => by
    rw [List.foldl_cons]
    have := fold_ge l (if n < s.length then s.length else n)
    split at this <;> split <;> omega
theorem fold_mem : ∀ (l : List (List UInt8)) (n : Nat), ∀ s ∈ l, s.length ≤ l.foldl (fun n s => if n < s.length then s.length else n) n
  | s :: l, n, t, ht => by
    rw [List.foldl_cons]
    rcases List.mem_cons.1 ht with rfl | ht
    · have := fold_ge l (if n < t.length then t.length else n)
      split at this <;> split <;> omega
    · exact fold_mem l _ t ht
theorem longest_mem (l : List (List UInt8)) : ∀ s ∈ l, s.length ≤ longest l := fold_mem l 0
theorem longest_snoc (l : List (List UInt8)) (s : List UInt8) : longest (l ++ [s]) = if longest l < s.length then s.length else longest l := by unfold longest; rw [List.foldl_append]; rfl
theorem longest_le (l : List (List UInt8)) (B : Nat) (h : ∀ s ∈ l, s.length ≤ B) : longest l ≤ B := by
  have key : ∀ (l : List (List UInt8)) (n : Nat), n ≤ B → (∀ s ∈ l, s.length ≤ B) → l.foldl (fun n s => if n < s.length then s.length else n) n ≤ B := by
    intro l
    induction l with
    | nil => intro n hn _; exact hn
    | cons a l ih =>
      intro n hn hl
      rw [List.foldl_cons]
      refine ih _ ?_ (fun s hs => hl s (by simp [hs]))
      split
      · exact hl a (by simp)
      · exact hn
  exact key l 0 (Nat.zero_le _) h

namespace R
theorem flag_fwd (b : Bool) (r : List UInt8) : flag ([if b then 1 else 0] ++ r, 0) = (b, (r, 0)) := by
  have h := next_ok 1 ([if b then 1 else 0] ++ r) (by simp)
  have h' : next 1 ([if b then 1 else 0] ++ r, 0) = ([if b then 1 else 0], (r, 0)) := by
    rw [show (1 : Int) = ((1 : Nat) : Int) from rfl, h]; rfl
  unfold flag
  rw [h']
  cases b <;> rfl
theorem raw_fwd (t r : List UInt8) : next t.length (t ++ r, 0) = (t, (r, 0)) := by
  rw [next_ok _ _ (by simp)]; simp
theorem textsK_fwd (m : Int) (r : List UInt8) : ∀ (l acc : List (List UInt8)), (∀ s ∈ l, (s.length : Int) < 72057594037927936 ∧ (s.length : Int) ≤ m) →
    textsK l.length m (Item.texts l ++ r, 0) acc = (acc ++ l, (r, 0))
  | [], acc, _ => by simp [textsK, Item.texts]
  | s :: l, acc, h => by
    have e : Item.texts (s :: l) ++ r = M.encL s.length ++ s ++ (Item.texts l ++ r) := by simp [Item.texts]
    have hs := h s (by simp)
    rw [List.length_cons, textsK, e, text_fwd m s (Item.texts l ++ r) hs.1 hs.2, if_pos rfl, textsK_fwd m r l _ (fun t ht => h t (by simp [ht]))]
    simp
theorem texts_fwd (m : Int) (l : List (List UInt8)) (r : List UInt8) (hl : (l.length : Int) < 72057594037927936) (h : ∀ s ∈ l, (s.length : Int) < 72057594037927936 ∧ (s.length : Int) ≤ m) :
    texts l.length m (M.encL l.length ++ Item.texts l ++ r, 0) = (l, (r, 0)) := by
  unfold texts
  rw [List.append_assoc, num_fwd l.length l.length (Item.texts l ++ r) (by omega) hl (Int.le_refl _)]
  simp only [Int.toNat_natCast]
  rw [textsK_fwd m r l [] h, List.nil_append]
theorem fin_fwd : fin ([], 0) = ([], 0) := rfl
end R

/-- An item that was kept, with the slice that it came with. -/
structure KI where
  x : Item
  A : Option Addr
  cap : Nat
def KI.cells (q : KI) : List Value := [.int .i64 q.x.K, .int .i64 q.x.N, .string (S q.x.T), .bool q.x.F, .slice q.A q.x.L.length q.cap]
def kcells (ks : List KI) : List Value := (ks.map KI.cells).flatten
theorem kcells_len : ∀ ks : List KI, (kcells ks).length = ks.length * 5
  | [] => rfl
  | q :: ks => by
    have := kcells_len ks
    rw [kcells] at this ⊢
    rw [List.map_cons, List.flatten_cons, List.length_append, this, List.length_cons]
    simp [KI.cells]; omega
theorem kcells_snoc (ks : List KI) (q : KI) : kcells (ks ++ [q]) = kcells ks ++ q.cells := by simp [kcells]
theorem kcells_get : ∀ (ks : List KI) (i j : Nat) (h : i < ks.length), j < 5 → (kcells ks)[i * 5 + j]? = (ks[i]'h).cells[j]?
  | q :: ks, 0, j, _, hj => by
    rw [kcells, List.map_cons, List.flatten_cons, List.getElem?_append_left (by simp [KI.cells]; omega)]
    simp
  | q :: ks, i + 1, j, h, hj => by
    rw [kcells, List.map_cons, List.flatten_cons, List.getElem?_append_right (by simp [KI.cells]; omega)]
    have h5 : q.cells.length = 5 := rfl
    rw [h5, show (i + 1) * 5 + j - 5 = i * 5 + j by omega]
    exact kcells_get ks i j (by simpa using h) hj
theorem kcells_one (q : KI) : ∀ u ∈ q.cells, u.oneCell' = true := by
  intro u hu
  simp only [KI.cells, List.mem_cons, List.not_mem_nil, or_false] at hu
  rcases hu with rfl | rfl | rfl | rfl | rfl <;> rfl

/-- What is laid of the kept items, and what they are as bytes. -/
def klay (ks : List KI) : Wt.St := ks.foldl (fun st q => q.x.lay st) ([], false)
def kbytes (ks : List KI) : List UInt8 := (ks.map fun q => q.x.bytes).flatten
theorem klay_snoc (ks : List KI) (q : KI) : klay (ks ++ [q]) = q.x.lay (klay ks) := by simp [klay]
theorem klay_flat (ks : List KI) : Wt.flat (klay ks) = kbytes ks := by
  have key : ∀ (ks : List KI) (st : Wt.St), Wt.flat (ks.foldl (fun st q => q.x.lay st) st) = Wt.flat st ++ kbytes ks := by
    intro ks
    induction ks with
    | nil => intro st; simp [kbytes]
    | cons q ks ih => intro st; rw [List.foldl_cons, ih, Item.lay_flat]; simp [kbytes]
  rw [klay, key]; rfl
theorem klay_good (ks : List KI) (h : ∀ q ∈ ks, q.x.ok = true ∧ q.x.bulk ≤ 1048576) : (klay ks).2 = false := by
  have key : ∀ (ks : List KI) (st : Wt.St), st.2 = false → (∀ q ∈ ks, q.x.ok = true ∧ q.x.bulk ≤ 1048576) → (ks.foldl (fun st q => q.x.lay st) st).2 = false := by
    intro ks
    induction ks with
    | nil => intro st hs _; exact hs
    | cons q ks ih =>
      intro st hs hq
      rw [List.foldl_cons]
      have h1 := hq q (by simp)
      exact ih _ (by rw [Item.lay_bad _ _ h1.2, hs, h1.1]; rfl) (fun p hp => hq p (by simp [hp]))
  exact key ks _ rfl h
theorem kbytes_len (ks : List KI) (h : ∀ q ∈ ks, q.x.bulk ≤ 1048576) : (kbytes ks).length ≤ ks.length * 16777216 := by
  induction ks with
  | nil => simp [kbytes]
  | cons q ks ih =>
    have h1 := ih (fun p hp => h p (by simp [hp]))
    have h2 := q.x.bytes_len (h q (by simp))
    rw [kbytes] at h1 ⊢
    rw [List.map_cons, List.flatten_cons, List.length_append, List.length_cons]
    omega
theorem kbytes_drop (ks : List KI) (j : Nat) (h : j < ks.length) : kbytes (ks.drop j) = (ks[j]'h).x.bytes ++ kbytes (ks.drop (j + 1)) := by
  rw [kbytes, kbytes, List.drop_eq_getElem_cons h, List.map_cons, List.flatten_cons]
end Go.Proofs.Ytclocjfnkaaenaa
