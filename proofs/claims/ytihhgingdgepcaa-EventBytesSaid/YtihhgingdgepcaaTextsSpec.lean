/-
  How a list of texts is read: plain. No program stands here.
-/
import Derived.Test.YtihhgingdgepcaaReadPure
import Derived.Test.YtihhgingdgepcaaBytes
namespace Go.Proofs.Ytihhgingdgepcaa
open Go.RowKit
namespace R
def textsK : Nat → Int → St → List (List UInt8) → List (List UInt8) × St
  | 0, _, st, acc => (acc, st)
  | k + 1, m, st, acc => if (text m st).2.2 = 0 then textsK k m (text m st).2 (acc ++ [(text m st).1]) else ([], (text m st).2)
def texts (many m : Int) (st : St) : List (List UInt8) × St := textsK (num many st).1.toNat m (num many st).2 []

theorem num_err (m : Int) (st : St) (h : st.2 ≠ 0) : num m st = (0, st) := by
  obtain ⟨l, e⟩ := st
  exact num_bad m 0 (l, e) (l, e) h (digits_bad l e h)
theorem text_err (m : Int) (st : St) (h : st.2 ≠ 0) : text m st = ([], st) := by
  unfold text
  rw [num_err m st h]
  obtain ⟨l, e⟩ := st
  exact next_bad 0 l e h
theorem text_less (m : Int) (st : St) (h : (text m st).2.2 = 0) : (text m st).2.1.length + 1 ≤ st.1.length := by
  obtain ⟨l, e⟩ := st
  by_cases he : e = 0
  · subst he
    have hb := (text_back m l h).1
    have hn : 0 < (M.encL (text m (l, 0)).1.length ++ (text m (l, 0)).1).length := by
      rw [List.length_append]
      have : 0 < (M.encL ((text m (l, 0)).1.length : Int)).length ∨ (M.encL ((text m (l, 0)).1.length : Int)).length = 0 := by omega
      rcases this with h1 | h1
      · omega
      · unfold M.encL at h1
        split at h1
        · simp at h1
        · rename_i h2; omega
    have := congrArg List.length hb
    rw [List.length_append] at this
    show _ ≤ l.length
    omega
  · rw [text_err m _ (by exact he)] at h
    exact absurd h he
theorem num_nat (m : Int) (st : St) : 0 ≤ (num m st).1 := by
  unfold num
  simp only
  split <;> omega
theorem num_zero (m : Int) (st : St) (h : (num m st).2.2 ≠ 0) : (num m st).1 = 0 := by
  unfold num at h ⊢
  simp only at h ⊢
  rw [if_neg h]
end R

/-- Texts as values. -/
def strs (l : List (List UInt8)) : List Value := l.map fun x => .string (S x)
theorem strs_len (l : List (List UInt8)) : (strs l).length = l.length := by simp [strs]
theorem strs_snoc (l : List (List UInt8)) (x : List UInt8) : strs l ++ [.string (S x)] = strs (l ++ [x]) := by simp [strs]
theorem strs_one (l : List (List UInt8)) : ∀ u ∈ strs l, u.oneCell' = true := by
  intro u hu
  obtain ⟨x, _, rfl⟩ := List.mem_map.1 hu
  rfl
/-- A row of the call's own that no old block is. -/
theorem own_below {w w' : World} {B e s n : Nat} {v : Value} {xs : List Value} (h : w.ownsRow B e s v n xs) {g : Nat} (ho : Only w w' g) (hg : g < B) : w'.ownsRow B e s v n xs :=
  h.kept ho (by
    cases hv : v.ownBlock with
    | none => exact Or.inl rfl
    | some k => right; intro e; injection e with e; have := (h.lt k hv).1; omega)
/-- Behind a step that turned one row of the call's own. -/
theorem Only.own {w w2 w3 : World} {g : Nat} {row : Option Nat} (h : Only w w2 g) (hg : w2.grownBy w3 row) (hr : ∀ k, row = some k → w.heap.size ≤ k) : Only w w3 g :=
  ⟨hg.os.trans h.os, hg.tape.trans h.tape, hg.output.trans h.output, Nat.le_trans h.size hg.size, fun i hi hn => (hg.block i (Nat.lt_of_lt_of_le hi h.size) (fun e => by have := hr i e.symm; omega)).trans (h.block i hi hn)⟩
theorem grown_alloc {w w' : World} {row : Option Nat} (o : Obj) (h : (w.alloc o).grownBy w' row) : w.grownBy w' row :=
  ⟨h.os, h.tape, h.output, Nat.le_trans (by simp) h.size, fun i hi hn => (h.block i (by simp; omega) hn).trans (Below.heap_alloc w o i hi)⟩
end Go.Proofs.Ytihhgingdgepcaa
