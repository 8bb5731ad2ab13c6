/-
  Merkle trees, purely: roots, paths, growth proofs, and to what they come. No program stands here.
-/
import Derived.Test.YtphhaiccpllnpaaDoorMillSumsSpec
namespace Go.Proofs.YtphhaiccpllnpaaDoor
set_option linter.unusedVariables false

namespace Mk
abbrev T := List UInt8
def node (l : List Mill.En) (a b : T) : T := Mill.hash l ((1 :: a) ++ b)
def nil (l : List Mill.En) : T := Mill.hash l []
/-- The greatest power of two below n (n from 2 on). -/
def below (n : Nat) : Nat := 2 ^ Nat.log2 (n - 1)
theorem below_pos (n : Nat) : 0 < below n := Nat.two_pow_pos _
theorem below_lt {n : Nat} (h : 2 ≤ n) : below n < n := by
  have := Nat.log2_self_le (n := n - 1) (by omega)
  unfold below; omega
theorem below_half {n : Nat} (h : 2 ≤ n) : n ≤ 2 * below n := by
  have h1 : n - 1 < 2 ^ (Nat.log2 (n - 1) + 1) := Nat.lt_log2_self
  rw [Nat.pow_succ] at h1
  unfold below; omega
theorem below_eq {n e : Nat} (h1 : 2 ^ e < n) (h2 : n ≤ 2 * 2 ^ e) : below n = 2 ^ e := by
  unfold below
  have hp := Nat.two_pow_pos e
  have hn : n - 1 ≠ 0 := by omega
  have : Nat.log2 (n - 1) = e := by
    rw [Nat.log2_eq_iff hn, Nat.pow_succ]
    omega
  rw [this]
/-- What has one greatest power of two below it with a greater number. -/
theorem below_two {a n : Nat} (hn : 2 ≤ n) (h1 : below n < a) (h2 : a ≤ n) : below a = below n := by
  have := below_half hn
  exact below_eq h1 (by unfold below at this; omega)

/-- The root of leaves. -/
def root (l : List Mill.En) (L : List T) : T :=
  if h : 2 ≤ L.length then node l (root l (L.take (below L.length))) (root l (L.drop (below L.length)))
  else match L with
    | [] => nil l
    | a :: _ => a
termination_by L.length
decreasing_by
  · rw [List.length_take]; have := below_lt h; omega
  · rw [List.length_drop]; have := below_pos L.length; omega
theorem root_nil (l : List Mill.En) : root l [] = nil l := by rw [root]; rfl
theorem root_one (l : List Mill.En) (a : T) : root l [a] = a := by rw [root]; rfl
theorem root_more (l : List Mill.En) (L : List T) (h : 2 ≤ L.length) : root l L = node l (root l (L.take (below L.length))) (root l (L.drop (below L.length))) := by
  rw [root, dif_pos h]
/-- The texts that are summed for a root. -/
def rootAsks (l : List Mill.En) (L : List T) : List T :=
  if h : 2 ≤ L.length then rootAsks l (L.take (below L.length)) ++ rootAsks l (L.drop (below L.length)) ++ [(1 :: root l (L.take (below L.length))) ++ root l (L.drop (below L.length))]
  else if L.length = 0 then [[]] else []
termination_by L.length
decreasing_by
  · rw [List.length_take]; have := below_lt h; omega
  · rw [List.length_drop]; have := below_pos L.length; omega
theorem rootAsks_more (l : List Mill.En) (L : List T) (h : 2 ≤ L.length) : rootAsks l L = rootAsks l (L.take (below L.length)) ++ rootAsks l (L.drop (below L.length)) ++ [(1 :: root l (L.take (below L.length))) ++ root l (L.drop (below L.length))] := by
  rw [rootAsks, dif_pos h]

/-- A leaf's path. -/
def path (l : List Mill.En) (L : List T) (i : Nat) : List T :=
  if h : 2 ≤ L.length then
    if i < below L.length then path l (L.take (below L.length)) i ++ [root l (L.drop (below L.length))]
    else path l (L.drop (below L.length)) (i - below L.length) ++ [root l (L.take (below L.length))]
  else []
termination_by L.length
decreasing_by
  · rw [List.length_take]; have := below_lt h; omega
  · rw [List.length_drop]; have := below_pos L.length; omega
/-- How long a path is. -/
def depth (i n : Nat) : Nat :=
  if h : 2 ≤ n then (if i < below n then depth i (below n) else depth (i - below n) (n - below n)) + 1 else 0
termination_by n
decreasing_by
  · exact below_lt h
  · have := below_pos n; omega
/-- The root to which a leaf and a path come. -/
def climb (l : List Mill.En) (leaf : T) (i n : Nat) (p : List T) : T :=
  if h : n = 1 ∨ p = [] then leaf
  else if i < below n then node l (climb l leaf i (below n) p.dropLast) (p.getLastD [])
  else node l (p.getLastD []) (climb l leaf (i - below n) (n - below n) p.dropLast)
termination_by p.length
decreasing_by
  all_goals
    have h1 : p ≠ [] := fun e => h (Or.inr e)
    have h2 : 0 < p.length := List.length_pos_iff.mpr h1
    rw [List.length_dropLast]; omega
def climbAsks (l : List Mill.En) (leaf : T) (i n : Nat) (p : List T) : List T :=
  if h : n = 1 ∨ p = [] then []
  else if i < below n then climbAsks l leaf i (below n) p.dropLast ++ [(1 :: climb l leaf i (below n) p.dropLast) ++ p.getLastD []]
  else climbAsks l leaf (i - below n) (n - below n) p.dropLast ++ [(1 :: p.getLastD []) ++ climb l leaf (i - below n) (n - below n) p.dropLast]
termination_by p.length
decreasing_by
  all_goals
    have h1 : p ≠ [] := fun e => h (Or.inr e)
    have h2 : 0 < p.length := List.length_pos_iff.mpr h1
    rw [List.length_dropLast]; omega

/-- The proof of (a, len(L), whole). -/
def prf (l : List Mill.En) (L : List T) (a : Nat) (whole : Bool) : List T :=
  if a = L.length then (if whole then [] else [root l L])
  else if h : 2 ≤ L.length then
    if a ≤ below L.length then prf l (L.take (below L.length)) a whole ++ [root l (L.drop (below L.length))]
    else prf l (L.drop (below L.length)) (a - below L.length) false ++ [root l (L.take (below L.length))]
  else []
termination_by L.length
decreasing_by
  · rw [List.length_take]; have := below_lt h; omega
  · rw [List.length_drop]; have := below_pos L.length; omega
def growth (l : List Mill.En) (L : List T) (a : Nat) : List T := if a = 0 then [] else prf l L a true
/-- How long the proof of (a, n, whole) is. -/
def long (a n : Nat) (whole : Bool) : Nat :=
  if a = n then (if whole then 0 else 1)
  else if h : 2 ≤ n then (if a ≤ below n then long a (below n) whole else long (a - below n) (n - below n) false) + 1
  else 1
termination_by n
decreasing_by
  · exact below_lt h
  · have := below_pos n; omega
/-- The roots of the first a, and of all n, to which a proof comes. -/
def both (l : List Mill.En) (a n : Nat) (whole : Bool) (old : T) (p : List T) : T × T :=
  if h : (a = n ∧ whole = true) ∨ p = [] then (old, old)
  else if a = n ∨ n < 2 then (p.getLastD [], p.getLastD [])
  else if a ≤ below n then
    ((both l a (below n) whole old p.dropLast).1, node l (both l a (below n) whole old p.dropLast).2 (p.getLastD []))
  else (node l (p.getLastD []) (both l (a - below n) (n - below n) false [] p.dropLast).1, node l (p.getLastD []) (both l (a - below n) (n - below n) false [] p.dropLast).2)
termination_by p.length
decreasing_by
  all_goals
    have h1 : p ≠ [] := fun e => h (Or.inr e)
    have h2 : 0 < p.length := List.length_pos_iff.mpr h1
    rw [List.length_dropLast]; omega
def bothAsks (l : List Mill.En) (a n : Nat) (whole : Bool) (old : T) (p : List T) : List T :=
  if h : (a = n ∧ whole = true) ∨ p = [] then []
  else if a = n ∨ n < 2 then []
  else if a ≤ below n then
    bothAsks l a (below n) whole old p.dropLast ++ [(1 :: (both l a (below n) whole old p.dropLast).2) ++ p.getLastD []]
  else bothAsks l (a - below n) (n - below n) false [] p.dropLast ++ [(1 :: p.getLastD []) ++ (both l (a - below n) (n - below n) false [] p.dropLast).1, (1 :: p.getLastD []) ++ (both l (a - below n) (n - below n) false [] p.dropLast).2]
termination_by p.length
decreasing_by
  all_goals
    have h1 : p ≠ [] := fun e => h (Or.inr e)
    have h2 : 0 < p.length := List.length_pos_iff.mpr h1
    rw [List.length_dropLast]; omega

theorem path_none (l : List Mill.En) (L : List T) (i : Nat) (h : ¬ 2 ≤ L.length) : path l L i = [] := by rw [path, dif_neg h]
theorem path_left (l : List Mill.En) (L : List T) (i : Nat) (h : 2 ≤ L.length) (hi : i < below L.length) : path l L i = path l (L.take (below L.length)) i ++ [root l (L.drop (below L.length))] := by rw [path, dif_pos h, if_pos hi]
theorem path_right (l : List Mill.En) (L : List T) (i : Nat) (h : 2 ≤ L.length) (hi : ¬ i < below L.length) : path l L i = path l (L.drop (below L.length)) (i - below L.length) ++ [root l (L.take (below L.length))] := by rw [path, dif_pos h, if_neg hi]
theorem depth_none {i n : Nat} (h : ¬ 2 ≤ n) : depth i n = 0 := by rw [depth, dif_neg h]
theorem depth_left {i n : Nat} (h : 2 ≤ n) (hi : i < below n) : depth i n = depth i (below n) + 1 := by rw [depth, dif_pos h, if_pos hi]
theorem depth_right {i n : Nat} (h : 2 ≤ n) (hi : ¬ i < below n) : depth i n = depth (i - below n) (n - below n) + 1 := by rw [depth, dif_pos h, if_neg hi]
theorem climb_end (l : List Mill.En) (leaf : T) (i n : Nat) (p : List T) (h : n = 1 ∨ p = []) : climb l leaf i n p = leaf := by rw [climb, dif_pos h]
theorem last_snoc (p : List T) (x : T) : (p ++ [x]).getLastD [] = x := by simp
theorem climb_left (l : List Mill.En) (leaf : T) (i n : Nat) (p : List T) (x : T) (h : 2 ≤ n) (hi : i < below n) : climb l leaf i n (p ++ [x]) = node l (climb l leaf i (below n) p) x := by
  rw [climb, dif_neg (by simp; omega), if_pos hi, List.dropLast_concat, last_snoc]
theorem climb_right (l : List Mill.En) (leaf : T) (i n : Nat) (p : List T) (x : T) (h : 2 ≤ n) (hi : ¬ i < below n) : climb l leaf i n (p ++ [x]) = node l x (climb l leaf (i - below n) (n - below n) p) := by
  rw [climb, dif_neg (by simp; omega), if_neg hi, List.dropLast_concat, last_snoc]
theorem climbAsks_left (l : List Mill.En) (leaf : T) (i n : Nat) (p : List T) (x : T) (h : 2 ≤ n) (hi : i < below n) : climbAsks l leaf i n (p ++ [x]) = climbAsks l leaf i (below n) p ++ [(1 :: climb l leaf i (below n) p) ++ x] := by
  rw [climbAsks, dif_neg (by simp; omega), if_pos hi, List.dropLast_concat, last_snoc]
theorem climbAsks_right (l : List Mill.En) (leaf : T) (i n : Nat) (p : List T) (x : T) (h : 2 ≤ n) (hi : ¬ i < below n) : climbAsks l leaf i n (p ++ [x]) = climbAsks l leaf (i - below n) (n - below n) p ++ [(1 :: x) ++ climb l leaf (i - below n) (n - below n) p] := by
  rw [climbAsks, dif_neg (by simp; omega), if_neg hi, List.dropLast_concat, last_snoc]
theorem prf_all (l : List Mill.En) (L : List T) (a : Nat) (w : Bool) (h : a = L.length) : prf l L a w = if w then [] else [root l L] := by rw [prf, if_pos h]
theorem prf_left (l : List Mill.En) (L : List T) (a : Nat) (w : Bool) (h0 : a ≠ L.length) (h : 2 ≤ L.length) (ha : a ≤ below L.length) : prf l L a w = prf l (L.take (below L.length)) a w ++ [root l (L.drop (below L.length))] := by rw [prf, if_neg h0, dif_pos h, if_pos ha]
theorem prf_right (l : List Mill.En) (L : List T) (a : Nat) (w : Bool) (h0 : a ≠ L.length) (h : 2 ≤ L.length) (ha : ¬ a ≤ below L.length) : prf l L a w = prf l (L.drop (below L.length)) (a - below L.length) false ++ [root l (L.take (below L.length))] := by rw [prf, if_neg h0, dif_pos h, if_neg ha]
theorem long_all {a n : Nat} (w : Bool) (h : a = n) : long a n w = if w then 0 else 1 := by rw [long, if_pos h]
theorem long_left {a n : Nat} (w : Bool) (h0 : a ≠ n) (h : 2 ≤ n) (ha : a ≤ below n) : long a n w = long a (below n) w + 1 := by rw [long, if_neg h0, dif_pos h, if_pos ha]
theorem long_right {a n : Nat} (w : Bool) (h0 : a ≠ n) (h : 2 ≤ n) (ha : ¬ a ≤ below n) : long a n w = long (a - below n) (n - below n) false + 1 := by rw [long, if_neg h0, dif_pos h, if_neg ha]
theorem both_old (l : List Mill.En) (a n : Nat) (w : Bool) (old : T) (p : List T) (h : (a = n ∧ w = true) ∨ p = []) : both l a n w old p = (old, old) := by rw [both, dif_pos h]
theorem both_last (l : List Mill.En) (n : Nat) (old x : T) (p : List T) : both l n n false old (p ++ [x]) = (x, x) := by
  rw [both, dif_neg (by simp), if_pos (Or.inl rfl), last_snoc]
theorem both_left (l : List Mill.En) (a n : Nat) (w : Bool) (old : T) (p : List T) (x : T) (h0 : a ≠ n) (h : 2 ≤ n) (ha : a ≤ below n) : both l a n w old (p ++ [x]) = ((both l a (below n) w old p).1, node l (both l a (below n) w old p).2 x) := by
  rw [both, dif_neg (by simp [h0]), if_neg (by omega), if_pos ha, List.dropLast_concat, last_snoc]
theorem both_right (l : List Mill.En) (a n : Nat) (w : Bool) (old : T) (p : List T) (x : T) (h0 : a ≠ n) (h : 2 ≤ n) (ha : ¬ a ≤ below n) : both l a n w old (p ++ [x]) = (node l x (both l (a - below n) (n - below n) false [] p).1, node l x (both l (a - below n) (n - below n) false [] p).2) := by
  rw [both, dif_neg (by simp [h0]), if_neg (by omega), if_neg ha, List.dropLast_concat, last_snoc]
theorem bothAsks_left (l : List Mill.En) (a n : Nat) (w : Bool) (old : T) (p : List T) (x : T) (h0 : a ≠ n) (h : 2 ≤ n) (ha : a ≤ below n) : bothAsks l a n w old (p ++ [x]) = bothAsks l a (below n) w old p ++ [(1 :: (both l a (below n) w old p).2) ++ x] := by
  rw [bothAsks, dif_neg (by simp [h0]), if_neg (by omega), if_pos ha, List.dropLast_concat, last_snoc]
theorem bothAsks_right (l : List Mill.En) (a n : Nat) (w : Bool) (old : T) (p : List T) (x : T) (h0 : a ≠ n) (h : 2 ≤ n) (ha : ¬ a ≤ below n) : bothAsks l a n w old (p ++ [x]) = bothAsks l (a - below n) (n - below n) false [] p ++ [(1 :: x) ++ (both l (a - below n) (n - below n) false [] p).1, (1 :: x) ++ (both l (a - below n) (n - below n) false [] p).2] := by
  rw [bothAsks, dif_neg (by simp [h0]), if_neg (by omega), if_neg ha, List.dropLast_concat, last_snoc]
end Mk
end Go.Proofs.YtphhaiccpllnpaaDoor
