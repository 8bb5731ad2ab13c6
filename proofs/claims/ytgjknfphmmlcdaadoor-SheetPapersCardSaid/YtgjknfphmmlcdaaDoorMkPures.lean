/-
  MkPures: the texts MillSumsSpec, MkSpec, MkPure, MkMill, MkFront in one.
-/
import Derived.Test.YtgjknfphmmlcdaaDoorMillSpec
namespace Go.Proofs.YtgjknfphmmlcdaaDoor
set_option linter.unusedVariables false
namespace Mill
/-- What is noted of the texts ds. -/
def NI (h : List UInt8 → List UInt8) (ds : List (List UInt8)) (st : St) : Prop := (∀ y, st.notes.lookup y = ds.find? (fun t => h t = y)) ∧ st.notes.length ≤ ds.length ∧ st.full = false ∧ st.sums = ds.length
theorem ni_fresh (h : List UInt8 → List UInt8) : NI h [] fresh := ⟨fun _ => rfl, Nat.le_refl _, rfl, rfl⟩
theorem find_snoc (h : List UInt8 → List UInt8) (ds : List (List UInt8)) (x y : List UInt8) : (ds ++ [x]).find? (fun t => h t = y) = (ds.find? (fun t => h t = y)).or (if h x = y then some x else none) := by
  rw [List.find?_append]
  congr 1
  by_cases e : h x = y <;> simp [e]
theorem lookup_app (ns : List (List UInt8 × List UInt8)) (k t k' : List UInt8) : (ns ++ [(k, t)]).lookup k' = (ns.lookup k').or (if k = k' then some t else none) := by
  rw [List.lookup_append]
  congr 1
  by_cases hk : k' = k
  · subst hk; simp
  · have h1 : (k' == k) = false := by simpa using hk
    have h2 : ¬ k = k' := fun e => hk e.symm
    simp [List.lookup, h1, h2]
theorem ni_step (m : List En) (ds : List (List UInt8)) (x : List UInt8) (st : St) (hn : NI (hash m) ds st) (hl : ds.length < 20000) : NI (hash m) (ds ++ [x]) (step m x st) := by
  obtain ⟨h1, h2, h3, h4⟩ := hn
  unfold step note
  have hk := h1 (hash m x)
  cases hf : ds.find? (fun t => hash m t = hash m x) with
  | some t =>
    rw [hf] at hk
    have hk' : ({ st with sums := st.sums + 1 } : St).notes.lookup (hash m x) = some t := hk
    rw [hk']
    have hall : ∀ y, st.notes.lookup y = (ds ++ [x]).find? (fun t => hash m t = y) := fun y => by
      rw [find_snoc, h1 y]
      by_cases e : hash m x = y
      · subst e; rw [hf]; rfl
      · rw [if_neg e]; simp
    simp only
    split
    · exact ⟨hall, by simp; omega, h3, by simp [h4]⟩
    · exact ⟨hall, by simp; omega, h3, by simp [h4]⟩
  | none =>
    rw [hf] at hk
    have hk' : ({ st with sums := st.sums + 1 } : St).notes.lookup (hash m x) = none := hk
    rw [hk']
    have hlt : ({ st with sums := st.sums + 1 } : St).notes.length < 20000 := by show st.notes.length < 20000; omega
    simp only [hlt, if_true]
    refine ⟨fun y => ?_, by simp; omega, h3, by simp [h4]⟩
    show (st.notes ++ [(hash m x, x)]).lookup y = _
    rw [lookup_app, find_snoc, h1 y]
/-- What becomes of the twins. -/
theorem twins_step (m : List En) (ds : List (List UInt8)) (x : List UInt8) (st : St) (hn : NI (hash m) ds st) :
    (st.met = true → (step m x st).a = st.a ∧ (step m x st).b = st.b ∧ (step m x st).met = true) ∧
    (ds.find? (fun t => hash m t = hash m x) = none → (step m x st).a = st.a ∧ (step m x st).b = st.b ∧ (step m x st).met = st.met) ∧
    (∀ t, ds.find? (fun t => hash m t = hash m x) = some t → t = x → (step m x st).a = st.a ∧ (step m x st).b = st.b ∧ (step m x st).met = st.met) ∧
    (∀ t, ds.find? (fun t => hash m t = hash m x) = some t → t ≠ x → st.met = false → (step m x st).a = t ∧ (step m x st).b = x ∧ (step m x st).met = true) := by
  have hk : ({ st with sums := st.sums + 1 } : St).notes.lookup (hash m x) = ds.find? (fun t => hash m t = hash m x) := hn.1 (hash m x)
  refine ⟨fun hm => ?_, fun hf => ?_, fun t hf e => ?_, fun t hf e hm => ?_⟩
  · unfold step note
    split
    · rw [if_neg (by simp [hm])]; exact ⟨rfl, rfl, hm⟩
    · split <;> exact ⟨rfl, rfl, hm⟩
  · unfold step note
    rw [hk, hf]
    simp only
    split <;> exact ⟨rfl, rfl, rfl⟩
  · unfold step note
    rw [hk, hf]
    simp only [e]
    simp
  · unfold step note
    rw [hk, hf]
    simp [e, hm]
theorem find_at (h : List UInt8 → List UInt8) (T : List (List UInt8)) (i k : Nat) (hk : k < i) (hi : i ≤ T.length) (y : List UInt8) (hn : (T.take k).find? (fun t => h t = y) = none) (he : h (T[k]'(by omega)) = y) :
    (T.take i).find? (fun t => h t = y) = some (T[k]'(by omega)) := by
  have e : T.take i = T.take k ++ (T[k]'(by omega) :: (T.take i).drop (k + 1)) := by
    have h1 : T.take i = (T.take i).take k ++ (T.take i).drop k := (List.take_append_drop k _).symm
    rw [List.take_take, Nat.min_eq_left (by omega)] at h1
    have h2 : (T.take i).drop k = (T.take i)[k]'(by simp; omega) :: (T.take i).drop (k + 1) := List.drop_eq_getElem_cons _
    rw [h2, List.getElem_take] at h1
    exact h1
  rw [e, List.find?_append, hn]
  simp [he]
theorem find_more (h : List UInt8 → List UInt8) (T : List (List UInt8)) (k : Nat) (hk : k < T.length) (y : List UInt8) (hn : (T.take k).find? (fun t => h t = y) = none) (he : h (T[k]'hk) ≠ y) : (T.take (k + 1)).find? (fun t => h t = y) = none := by
  rw [List.take_succ_eq_append_getElem hk, find_snoc, hn]
  simp [he]
end Mill
end Go.Proofs.YtgjknfphmmlcdaaDoor

namespace Go.Proofs.YtgjknfphmmlcdaaDoor
set_option linter.unusedVariables false

namespace Mk
abbrev T := List UInt8
def node (l : List Mill.En) (a b : T) : T := Mill.hash l ((1 :: a) ++ b)
def nil (l : List Mill.En) : T := Mill.hash l []
/-- The greatest power of two below n (n from 2 on). -/
def below (n : Nat) : Nat := 2 ^ Nat.log2 (n - 1)
theorem below_pos (n : Nat) : 0 < below n := Nat.two_pow_pos _
theorem below_lt {n : Nat} (h : 2 ≤ n) : below n < n := by
  have := Nat.log2_self_le (n := n - 1) (by omega)
  unfold below; omega
theorem below_half {n : Nat} (h : 2 ≤ n) : n ≤ 2 * below n := by
  have h1 : n - 1 < 2 ^ (Nat.log2 (n - 1) + 1) := Nat.lt_log2_self
  rw [Nat.pow_succ] at h1
  unfold below; omega
theorem below_eq {n e : Nat} (h1 : 2 ^ e < n) (h2 : n ≤ 2 * 2 ^ e) : below n = 2 ^ e := by
  unfold below
  have hp := Nat.two_pow_pos e
  have hn : n - 1 ≠ 0 := by omega
  have : Nat.log2 (n - 1) = e := by
    rw [Nat.log2_eq_iff hn, Nat.pow_succ]
    omega
  rw [this]
/-- What has one greatest power of two below it with a greater number. -/
theorem below_two {a n : Nat} (hn : 2 ≤ n) (h1 : below n < a) (h2 : a ≤ n) : below a = below n := by
  have := below_half hn
  exact below_eq h1 (by unfold below at this; omega)

/-- The root of leaves. -/
def root (l : List Mill.En) (L : List T) : T :=
  if h : 2 ≤ L.length then node l (root l (L.take (below L.length))) (root l (L.drop (below L.length)))
  else match L with
    | [] => nil l
    | a :: _ => a
termination_by L.length
decreasing_by
  · rw [List.length_take]; have := below_lt h; omega
  · rw [List.length_drop]; have := below_pos L.length; omega
theorem root_nil (l : List Mill.En) : root l [] = nil l := by rw [root]; rfl
theorem root_one (l : List Mill.En) (a : T) : root l [a] = a := by rw [root]; rfl
theorem root_more (l : List Mill.En) (L : List T) (h : 2 ≤ L.length) : root l L = node l (root l (L.take (below L.length))) (root l (L.drop (below L.length))) := by
  rw [root, dif_pos h]
/-- The texts that are summed for a root. -/
def rootAsks (l : List Mill.En) (L : List T) : List T :=
  if h : 2 ≤ L.length then rootAsks l (L.take (below L.length)) ++ rootAsks l (L.drop (below L.length)) ++ [(1 :: root l (L.take (below L.length))) ++ root l (L.drop (below L.length))]
  else if L.length = 0 then [[]] else []
termination_by L.length
decreasing_by
  · rw [List.length_take]; have := below_lt h; omega
  · rw [List.length_drop]; have := below_pos L.length; omega
theorem rootAsks_more (l : List Mill.En) (L : List T) (h : 2 ≤ L.length) : rootAsks l L = rootAsks l (L.take (below L.length)) ++ rootAsks l (L.drop (below L.length)) ++ [(1 :: root l (L.take (below L.length))) ++ root l (L.drop (below L.length))] := by
  rw [rootAsks, dif_pos h]

/-- A leaf's path. -/
def path (l : List Mill.En) (L : List T) (i : Nat) : List T :=
  if h : 2 ≤ L.length then
    if i < below L.length then path l (L.take (below L.length)) i ++ [root l (L.drop (below L.length))]
    else path l (L.drop (below L.length)) (i - below L.length) ++ [root l (L.take (below L.length))]
  else []
termination_by L.length
decreasing_by
  · rw [List.length_take]; have := below_lt h; omega
  · rw [List.length_drop]; have := below_pos L.length; omega
/-- How long a path is. -/
def depth (i n : Nat) : Nat :=
  if h : 2 ≤ n then (if i < below n then depth i (below n) else depth (i - below n) (n - below n)) + 1 else 0
termination_by n
decreasing_by
  · exact below_lt h
  · have := below_pos n; omega
/-- The root to which a leaf and a path come. -/
def climb (l : List Mill.En) (leaf : T) (i n : Nat) (p : List T) : T :=
  if h : n = 1 ∨ p = [] then leaf
  else if i < below n then node l (climb l leaf i (below n) p.dropLast) (p.getLastD [])
  else node l (p.getLastD []) (climb l leaf (i - below n) (n - below n) p.dropLast)
termination_by p.length
decreasing_by
  all_goals
    have h1 : p ≠ [] := fun e => h (Or.inr e)
    have h2 : 0 < p.length := List.length_pos_iff.mpr h1
    rw [List.length_dropLast]; omega
def climbAsks (l : List Mill.En) (leaf : T) (i n : Nat) (p : List T) : List T :=
  if h : n = 1 ∨ p = [] then []
  else if i < below n then climbAsks l leaf i (below n) p.dropLast ++ [(1 :: climb l leaf i (below n) p.dropLast) ++ p.getLastD []]
  else climbAsks l leaf (i - below n) (n - below n) p.dropLast ++ [(1 :: p.getLastD []) ++ climb l leaf (i - below n) (n - below n) p.dropLast]
termination_by p.length
decreasing_by
  all_goals
    have h1 : p ≠ [] := fun e => h (Or.inr e)
    have h2 : 0 < p.length := List.length_pos_iff.mpr h1
    rw [List.length_dropLast]; omega

/-- The proof of (a, len(L), whole). -/
def prf (l : List Mill.En) (L : List T) (a : Nat) (whole : Bool) : List T :=
  if a = L.length then (if whole then [] else [root l L])
  else if h : 2 ≤ L.length then
    if a ≤ below L.length then prf l (L.take (below L.length)) a whole ++ [root l (L.drop (below L.length))]
    else prf l (L.drop (below L.length)) (a - below L.length) false ++ [root l (L.take (below L.length))]
  else []
termination_by L.length
decreasing_by
  · rw [List.length_take]; have := below_lt h; omega
  · rw [List.length_drop]; have := below_pos L.length; omega
def growth (l : List Mill.En) (L : List T) (a : Nat) : List T := if a = 0 then [] else prf l L a true
/-- How long the proof of (a, n, whole) is. -/
def long (a n : Nat) (whole : Bool) : Nat :=
  if a = n then (if whole then 0 else 1)
  else if h : 2 ≤ n then (if a ≤ below n then long a (below n) whole else long (a - below n) (n - below n) false) + 1
  else 1
termination_by n
decreasing_by
  · exact below_lt h
  · have := below_pos n; omega
/-- The roots of the first a, and of all n, to which a proof comes. -/
def both (l : List Mill.En) (a n : Nat) (whole : Bool) (old : T) (p : List T) : T × T :=
  if h : (a = n ∧ whole = true) ∨ p = [] then (old, old)
  else if a = n ∨ n < 2 then (p.getLastD [], p.getLastD [])
  else if a ≤ below n then
    ((both l a (below n) whole old p.dropLast).1, node l (both l a (below n) whole old p.dropLast).2 (p.getLastD []))
  else (node l (p.getLastD []) (both l (a - below n) (n - below n) false [] p.dropLast).1, node l (p.getLastD []) (both l (a - below n) (n - below n) false [] p.dropLast).2)
termination_by p.length
decreasing_by
  all_goals
    have h1 : p ≠ [] := fun e => h (Or.inr e)
    have h2 : 0 < p.length := List.length_pos_iff.mpr h1
    rw [List.length_dropLast]; omega
def bothAsks (l : List Mill.En) (a n : Nat) (whole : Bool) (old : T) (p : List T) : List T :=
  if h : (a = n ∧ whole = true) ∨ p = [] then []
  else if a = n ∨ n < 2 then []
  else if a ≤ below n then
    bothAsks l a (below n) whole old p.dropLast ++ [(1 :: (both l a (below n) whole old p.dropLast).2) ++ p.getLastD []]
  else bothAsks l (a - below n) (n - below n) false [] p.dropLast ++ [(1 :: p.getLastD []) ++ (both l (a - below n) (n - below n) false [] p.dropLast).1, (1 :: p.getLastD []) ++ (both l (a - below n) (n - below n) false [] p.dropLast).2]
termination_by p.length
decreasing_by
  all_goals
    have h1 : p ≠ [] := fun e => h (Or.inr e)
    have h2 : 0 < p.length := List.length_pos_iff.mpr h1
    rw [List.length_dropLast]; omega

theorem path_none (l : List Mill.En) (L : List T) (i : Nat) (h : ¬ 2 ≤ L.length) : path l L i = [] := by rw [path, dif_neg h]
theorem path_left (l : List Mill.En) (L : List T) (i : Nat) (h : 2 ≤ L.length) (hi : i < below L.length) : path l L i = path l (L.take (below L.length)) i ++ [root l (L.drop (below L.length))] := by rw [path, dif_pos h, if_pos hi]
theorem path_right (l : List Mill.En) (L : List T) (i : Nat) (h : 2 ≤ L.length) (hi : ¬ i < below L.length) : path l L i = path l (L.drop (below L.length)) (i - below L.length) ++ [root l (L.take (below L.length))] := by rw [path, dif_pos h, if_neg hi]
theorem depth_none {i n : Nat} (h : ¬ 2 ≤ n) : depth i n = 0 := by rw [depth, dif_neg h]
theorem depth_left {i n : Nat} (h : 2 ≤ n) (hi : i < below n) : depth i n = depth i (below n) + 1 := by rw [depth, dif_pos h, if_pos hi]
theorem depth_right {i n : Nat} (h : 2 ≤ n) (hi : ¬ i < below n) : depth i n = depth (i - below n) (n - below n) + 1 := by rw [depth, dif_pos h, if_neg hi]
theorem climb_end (l : List Mill.En) (leaf : T) (i n : Nat) (p : List T) (h : n = 1 ∨ p = []) : climb l leaf i n p = leaf := by rw [climb, dif_pos h]
theorem last_snoc (p : List T) (x : T) : (p ++ [x]).getLastD [] = x := by simp
theorem climb_left (l : List Mill.En) (leaf : T) (i n : Nat) (p : List T) (x : T) (h : 2 ≤ n) (hi : i < below n) : climb l leaf i n (p ++ [x]) = node l (climb l leaf i (below n) p) x := by
  rw [climb, dif_neg (by simp; omega), if_pos hi, List.dropLast_concat, last_snoc]
theorem climb_right (l : List Mill.En) (leaf : T) (i n : Nat) (p : List T) (x : T) (h : 2 ≤ n) (hi : ¬ i < below n) : climb l leaf i n (p ++ [x]) = node l x (climb l leaf (i - below n) (n - below n) p) := by
  rw [climb, dif_neg (by simp; omega), if_neg hi, List.dropLast_concat, last_snoc]
theorem climbAsks_left (l : List Mill.En) (leaf : T) (i n : Nat) (p : List T) (x : T) (h : 2 ≤ n) (hi : i < below n) : climbAsks l leaf i n (p ++ [x]) = climbAsks l leaf i (below n) p ++ [(1 :: climb l leaf i (below n) p) ++ x] := by
  rw [climbAsks, dif_neg (by simp; omega), if_pos hi, List.dropLast_concat, last_snoc]
theorem climbAsks_right (l : List Mill.En) (leaf : T) (i n : Nat) (p : List T) (x : T) (h : 2 ≤ n) (hi : ¬ i < below n) : climbAsks l leaf i n (p ++ [x]) = climbAsks l leaf (i - below n) (n - below n) p ++ [(1 :: x) ++ climb l leaf (i - below n) (n - below n) p] := by
  rw [climbAsks, dif_neg (by simp; omega), if_neg hi, List.dropLast_concat, last_snoc]
theorem prf_all (l : List Mill.En) (L : List T) (a : Nat) (w : Bool) (h : a = L.length) : prf l L a w = if w then [] else [root l L] := by rw [prf, if_pos h]
theorem prf_left (l : List Mill.En) (L : List T) (a : Nat) (w : Bool) (h0 : a ≠ L.length) (h : 2 ≤ L.length) (ha : a ≤ below L.length) : prf l L a w = prf l (L.take (below L.length)) a w ++ [root l (L.drop (below L.length))] := by rw [prf, if_neg h0, dif_pos h, if_pos ha]
theorem prf_right (l : List Mill.En) (L : List T) (a : Nat) (w : Bool) (h0 : a ≠ L.length) (h : 2 ≤ L.length) (ha : ¬ a ≤ below L.length) : prf l L a w = prf l (L.drop (below L.length)) (a - below L.length) false ++ [root l (L.take (below L.length))] := by rw [prf, if_neg h0, dif_pos h, if_neg ha]
theorem long_all {a n : Nat} (w : Bool) (h : a = n) : long a n w = if w then 0 else 1 := by rw [long, if_pos h]
theorem long_left {a n : Nat} (w : Bool) (h0 : a ≠ n) (h : 2 ≤ n) (ha : a ≤ below n) : long a n w = long a (below n) w + 1 := by rw [long, if_neg h0, dif_pos h, if_pos ha]
theorem long_right {a n : Nat} (w : Bool) (h0 : a ≠ n) (h : 2 ≤ n) (ha : ¬ a ≤ below n) : long a n w = long (a - below n) (n - below n) false + 1 := by rw [long, if_neg h0, dif_pos h, if_neg ha]
theorem both_old (l : List Mill.En) (a n : Nat) (w : Bool) (old : T) (p : List T) (h : (a = n ∧ w = true) ∨ p = []) : both l a n w old p = (old, old) := by rw [both, dif_pos h]
theorem both_last (l : List Mill.En) (n : Nat) (old x : T) (p : List T) : both l n n false old (p ++ [x]) = (x, x) := by
  rw [both, dif_neg (by simp), if_pos (Or.inl rfl), last_snoc]
theorem both_left (l : List Mill.En) (a n : Nat) (w : Bool) (old : T) (p : List T) (x : T) (h0 : a ≠ n) (h : 2 ≤ n) (ha : a ≤ below n) : both l a n w old (p ++ [x]) = ((both l a (below n) w old p).1, node l (both l a (below n) w old p).2 x) := by
  rw [both, dif_neg (by simp [h0]), if_neg (by omega), if_pos ha, List.dropLast_concat, last_snoc]
theorem both_right (l : List Mill.En) (a n : Nat) (w : Bool) (old : T) (p : List T) (x : T) (h0 : a ≠ n) (h : 2 ≤ n) (ha : ¬ a ≤ below n) : both l a n w old (p ++ [x]) = (node l x (both l (a - below n) (n - below n) false [] p).1, node l x (both l (a - below n) (n - below n) false [] p).2) := by
  rw [both, dif_neg (by simp [h0]), if_neg (by omega), if_neg ha, List.dropLast_concat, last_snoc]
theorem bothAsks_left (l : List Mill.En) (a n : Nat) (w : Bool) (old : T) (p : List T) (x : T) (h0 : a ≠ n) (h : 2 ≤ n) (ha : a ≤ below n) : bothAsks l a n w old (p ++ [x]) = bothAsks l a (below n) w old p ++ [(1 :: (both l a (below n) w old p).2) ++ x] := by
  rw [bothAsks, dif_neg (by simp [h0]), if_neg (by omega), if_pos ha, List.dropLast_concat, last_snoc]
theorem bothAsks_right (l : List Mill.En) (a n : Nat) (w : Bool) (old : T) (p : List T) (x : T) (h0 : a ≠ n) (h : 2 ≤ n) (ha : ¬ a ≤ below n) : bothAsks l a n w old (p ++ [x]) = bothAsks l (a - below n) (n - below n) false [] p ++ [(1 :: x) ++ (both l (a - below n) (n - below n) false [] p).1, (1 :: x) ++ (both l (a - below n) (n - below n) false [] p).2] := by
  rw [bothAsks, dif_neg (by simp [h0]), if_neg (by omega), if_neg ha, List.dropLast_concat, last_snoc]
end Mk
end Go.Proofs.YtgjknfphmmlcdaaDoor

namespace Go.Proofs.YtgjknfphmmlcdaaDoor
set_option linter.unusedVariables false

namespace Mk
/-- All are 32 bytes. -/
def Sums (L : List T) : Prop := ∀ x, x ∈ L → x.length = 32
theorem sums_take {L : List T} (h : Sums L) (k : Nat) : Sums (L.take k) := fun x hx => h x (List.mem_of_mem_take hx)
theorem sums_drop {L : List T} (h : Sums L) (k : Nat) : Sums (L.drop k) := fun x hx => h x (List.mem_of_mem_drop hx)
theorem sums_snoc {L : List T} {x : T} (h : Sums (L ++ [x])) : Sums L ∧ x.length = 32 := ⟨fun y hy => h y (List.mem_append_left _ hy), h x (by simp)⟩
theorem node_len (l : List Mill.En) (hr : Mill.right l = true) (a b : T) : (node l a b).length = 32 := Mill.hash_len l hr _
theorem root_len (l : List Mill.En) (hr : Mill.right l = true) (L : List T) (h : Sums L) : (root l L).length = 32 := by
  by_cases h2 : 2 ≤ L.length
  · rw [root_more l L h2]; exact node_len l hr _ _
  · match L, h2 with
    | [], _ => rw [root_nil]; exact Mill.hash_len l hr _
    | [a], _ => rw [root_one]; exact h a (by simp)
    | _ :: _ :: _, h2 => exact absurd (by simp) h2
theorem path_len (l : List Mill.En) : ∀ (n : Nat) (L : List T) (i : Nat), L.length = n → (path l L i).length = depth i n := by
  intro n
  induction n using Nat.strongRecOn with
  | ind n ih =>
    intro L i hn
    by_cases h2 : 2 ≤ n
    · have hb := below_lt h2
      have hp := below_pos n
      by_cases hi : i < below n
      · rw [path_left l L i (by omega) (by rw [hn]; exact hi), depth_left h2 hi, List.length_append, hn, ih (below n) hb _ i (by rw [List.length_take]; omega)]
        rfl
      · rw [path_right l L i (by omega) (by rw [hn]; exact hi), depth_right h2 hi, List.length_append, hn, ih (n - below n) (by omega) _ (i - below n) (by rw [List.length_drop]; omega)]
        rfl
    · rw [path_none l L i (by omega), depth_none h2]; rfl
theorem path_sums (l : List Mill.En) (hr : Mill.right l = true) : ∀ (n : Nat) (L : List T) (i : Nat), L.length = n → Sums L → Sums (path l L i) := by
  intro n
  induction n using Nat.strongRecOn with
  | ind n ih =>
    intro L i hn hs
    by_cases h2 : 2 ≤ n
    · have hb := below_lt h2
      have hp := below_pos n
      by_cases hi : i < below n
      · rw [path_left l L i (by omega) (by rw [hn]; exact hi), hn]
        intro x hx
        rcases List.mem_append.mp hx with hx | hx
        · exact ih (below n) hb _ i (by rw [List.length_take]; omega) (sums_take hs _) x hx
        · rw [List.mem_singleton.mp hx]; exact root_len l hr _ (sums_drop hs _)
      · rw [path_right l L i (by omega) (by rw [hn]; exact hi), hn]
        intro x hx
        rcases List.mem_append.mp hx with hx | hx
        · exact ih (n - below n) (by omega) _ (i - below n) (by rw [List.length_drop]; omega) (sums_drop hs _) x hx
        · rw [List.mem_singleton.mp hx]; exact root_len l hr _ (sums_take hs _)
    · rw [path_none l L i (by omega)]; intro x hx; cases hx
/-- A leaf's path leads to the root. -/
theorem climb_path (l : List Mill.En) : ∀ (n : Nat) (L : List T) (i : Nat) (x : T), L.length = n → L[i]? = some x → climb l x i n (path l L i) = root l L := by
  intro n
  induction n using Nat.strongRecOn with
  | ind n ih =>
    intro L i x hn hx
    have hi : i < n := by
      rcases Nat.lt_or_ge i L.length with h | h
      · omega
      · rw [List.getElem?_eq_none h] at hx; cases hx
    by_cases h2 : 2 ≤ n
    · have hb := below_lt h2
      have hp := below_pos n
      by_cases hk : i < below n
      · have h := ih (below n) hb (L.take (below n)) i x (by rw [List.length_take]; omega) (by rw [List.getElem?_take, if_pos hk]; exact hx)
        rw [path_left l L i (by omega) (by rw [hn]; exact hk), hn, climb_left l _ i n _ _ h2 hk, h, root_more l L (by omega), hn]
      · have h := ih (n - below n) (by omega) (L.drop (below n)) (i - below n) x (by rw [List.length_drop]; omega) (by rw [List.getElem?_drop]; rw [show below n + (i - below n) = i from by omega]; exact hx)
        rw [path_right l L i (by omega) (by rw [hn]; exact hk), hn, climb_right l _ i n _ _ h2 hk, h, root_more l L (by omega), hn]
    · have h1 : n = 1 := by omega
      rw [climb_end l _ _ _ _ (Or.inl h1)]
      have h0 : i = 0 := by omega
      match L, (hn.trans h1) with
      | [a], _ =>
        rw [h0] at hx
        injection hx with hx
        rw [root_one, hx]
theorem take_take_le (L : List T) {a k : Nat} (h : a ≤ k) : (L.take k).take a = L.take a := by rw [List.take_take, Nat.min_eq_left h]
/-- A growth proof leads to both roots. -/
theorem both_prf (l : List Mill.En) : ∀ (n : Nat) (L : List T) (a : Nat) (w : Bool) (old : T), L.length = n → 1 ≤ a → a ≤ n → (w = true → old = root l (L.take a)) →
    both l a n w old (prf l L a w) = (root l (L.take a), root l L) := by
  intro n
  induction n using Nat.strongRecOn with
  | ind n ih =>
    intro L a w old hn h1 ha hold
    by_cases he : a = n
    · rw [prf_all l L a w (by omega)]
      have ht : L.take a = L := List.take_of_length_le (by omega)
      cases w with
      | true =>
        rw [if_pos rfl, both_old l a n true old _ (Or.inl ⟨he, rfl⟩), hold rfl, ht]
      | false =>
        rw [if_neg (by simp), he]
        have := both_last l n old (root l L) []
        rw [List.nil_append] at this
        rw [this, ← he, ht]
    · have h2 : 2 ≤ n := by omega
      have hb := below_lt h2
      have hp := below_pos n
      by_cases hk : a ≤ below n
      · have h := ih (below n) hb (L.take (below n)) a w old (by rw [List.length_take]; omega) h1 hk (by rw [take_take_le L hk]; exact hold)
        rw [take_take_le L hk] at h
        rw [prf_left l L a w (by omega) (by omega) (by rw [hn]; exact hk), hn, both_left l a n w old _ _ he h2 hk, h, root_more l L (by omega), hn]
      · have h := ih (n - below n) (by omega) (L.drop (below n)) (a - below n) false [] (by rw [List.length_drop]; omega) (by omega) (by omega) (by simp)
        have hlen : (L.take a).length = a := by rw [List.length_take]; omega
        have hba : below a = below n := below_two h2 (by omega) (by omega)
        rw [prf_right l L a w (by omega) (by omega) (by rw [hn]; exact hk), hn, both_right l a n w old _ _ he h2 hk, h, root_more l L (by omega), hn, root_more l (L.take a) (by omega), hlen, hba, take_take_le L (by omega), List.drop_take]
theorem prf_len (l : List Mill.En) : ∀ (n : Nat) (L : List T) (a : Nat) (w : Bool), L.length = n → 1 ≤ a → a ≤ n → (prf l L a w).length = long a n w := by
  intro n
  induction n using Nat.strongRecOn with
  | ind n ih =>
    intro L a w hn h1 ha
    by_cases he : a = n
    · rw [prf_all l L a w (by omega), long_all w he]
      cases w <;> rfl
    · have h2 : 2 ≤ n := by omega
      have hb := below_lt h2
      have hp := below_pos n
      by_cases hk : a ≤ below n
      · rw [prf_left l L a w (by omega) (by omega) (by rw [hn]; exact hk), long_left w he h2 hk, List.length_append, hn, ih (below n) hb _ a w (by rw [List.length_take]; omega) h1 hk]
        rfl
      · rw [prf_right l L a w (by omega) (by omega) (by rw [hn]; exact hk), long_right w he h2 hk, List.length_append, hn, ih (n - below n) (by omega) _ (a - below n) false (by rw [List.length_drop]; omega) (by omega) (by omega)]
        rfl
theorem prf_sums (l : List Mill.En) (hr : Mill.right l = true) : ∀ (n : Nat) (L : List T) (a : Nat) (w : Bool), L.length = n → Sums L → Sums (prf l L a w) := by
  intro n
  induction n using Nat.strongRecOn with
  | ind n ih =>
    intro L a w hn hs
    by_cases he : a = n
    · rw [prf_all l L a w (by omega)]
      intro x hx
      cases w with
      | true => cases hx
      | false => rw [if_neg (by simp)] at hx; rw [List.mem_singleton.mp hx]; exact root_len l hr _ hs
    · by_cases h2 : 2 ≤ n
      · have hb := below_lt h2
        have hp := below_pos n
        by_cases hk : a ≤ below n
        · rw [prf_left l L a w (by omega) (by omega) (by rw [hn]; exact hk), hn]
          intro x hx
          rcases List.mem_append.mp hx with hx | hx
          · exact ih (below n) hb _ a w (by rw [List.length_take]; omega) (sums_take hs _) x hx
          · rw [List.mem_singleton.mp hx]; exact root_len l hr _ (sums_drop hs _)
        · rw [prf_right l L a w (by omega) (by omega) (by rw [hn]; exact hk), hn]
          intro x hx
          rcases List.mem_append.mp hx with hx | hx
          · exact ih (n - below n) (by omega) _ (a - below n) false (by rw [List.length_drop]; omega) (sums_drop hs _) x hx
          · rw [List.mem_singleton.mp hx]; exact root_len l hr _ (sums_take hs _)
      · rw [prf, if_neg (by omega), dif_neg (by omega)]; intro x hx; cases hx

/-- Two unlike ones of these texts have one sum. -/
def Coll (l : List Mill.En) (S : List T) : Prop := ∃ s t, s ∈ S ∧ t ∈ S ∧ s ≠ t ∧ Mill.hash l s = Mill.hash l t
theorem Coll.sub {l : List Mill.En} {S S' : List T} (h : Coll l S) (hs : ∀ x, x ∈ S → x ∈ S') : Coll l S' := by
  obtain ⟨s, t, h1, h2, h3, h4⟩ := h
  exact ⟨s, t, hs s h1, hs t h2, h3, h4⟩
theorem node_inj {l : List Mill.En} {a b c d : T} {S : List T} (ha : a.length = 32) (hc : c.length = 32) (h1 : (1 :: a) ++ b ∈ S) (h2 : (1 :: c) ++ d ∈ S) (h : node l a b = node l c d) : (a = c ∧ b = d) ∨ Coll l S := by
  by_cases e : (1 :: a) ++ b = (1 :: c) ++ d
  · left
    rw [List.cons_append, List.cons_append] at e
    injection e with _ e
    exact List.append_inj e (by rw [ha, hc])
  · exact Or.inr ⟨_, _, h1, h2, e, h⟩
/-- Roots of as many leaves are one where the leaves are. -/
theorem root_inj (l : List Mill.En) (hr : Mill.right l = true) (S : List T) : ∀ (n : Nat) (A B : List T), A.length = n → B.length = n → Sums A → Sums B → (∀ x, x ∈ rootAsks l A → x ∈ S) → (∀ x, x ∈ rootAsks l B → x ∈ S) → root l A = root l B → A = B ∨ Coll l S := by
  intro n
  induction n using Nat.strongRecOn with
  | ind n ih =>
    intro A B hA hB sA sB qA qB h
    by_cases h2 : 2 ≤ n
    · have hb := below_lt h2
      have hp := below_pos n
      rw [rootAsks_more l A (by omega), hA] at qA
      rw [rootAsks_more l B (by omega), hB] at qB
      rw [root_more l A (by omega), root_more l B (by omega), hA, hB] at h
      rcases node_inj (root_len l hr _ (sums_take sA _)) (root_len l hr _ (sums_take sB _)) (qA _ (by simp)) (qB _ (by simp)) h with ⟨e1, e2⟩ | hc
      · rcases ih (below n) hb (A.take (below n)) (B.take (below n)) (by rw [List.length_take]; omega) (by rw [List.length_take]; omega) (sums_take sA _) (sums_take sB _) (fun x hx => qA x (by simp [hx])) (fun x hx => qB x (by simp [hx])) e1 with e1 | hc
        · rcases ih (n - below n) (by omega) (A.drop (below n)) (B.drop (below n)) (by rw [List.length_drop]; omega) (by rw [List.length_drop]; omega) (sums_drop sA _) (sums_drop sB _) (fun x hx => qA x (by simp [hx])) (fun x hx => qB x (by simp [hx])) e2 with e2 | hc
          · left
            rw [← List.take_append_drop (below n) A, ← List.take_append_drop (below n) B, e1, e2]
          · exact Or.inr hc
        · exact Or.inr hc
      · exact Or.inr hc
    · left
      match A, B, hA, hB with
      | [], [], _, _ => rfl
      | [a], [b], _, _ => rw [root_one, root_one] at h; rw [h]
      | [], _ :: _, hA, hB => simp at hA hB; omega
      | _ :: _, [], hA, hB => simp at hA hB; omega
      | _ :: _ :: _, _, hA, _ => simp at hA; omega
      | _, _ :: _ :: _, _, hB => simp at hB; omega
theorem snoc_of {p : List T} {k : Nat} (h : p.length = k + 1) : ∃ q x, p = q ++ [x] ∧ q.length = k := by
  have h0 : p ≠ [] := by intro e; rw [e] at h; simp at h
  refine ⟨p.dropLast, p.getLast h0, (List.dropLast_concat_getLast h0).symm, ?_⟩
  rw [List.length_dropLast]; omega
theorem climb_len (l : List Mill.En) (hr : Mill.right l = true) (a : T) (i n : Nat) (p : List T) (ha : a.length = 32) : (climb l a i n p).length = 32 := by
  rw [climb]
  split
  · exact ha
  · split <;> exact node_len l hr _ _
/-- Two leaves of one place that are believed of one root are one. -/
theorem climb_inj (l : List Mill.En) (hr : Mill.right l = true) (S : List T) : ∀ (n i : Nat) (a b : T) (p q : List T), i < n → a.length = 32 → b.length = 32 → Sums p → Sums q → p.length = depth i n → q.length = depth i n →
    (∀ x, x ∈ climbAsks l a i n p → x ∈ S) → (∀ x, x ∈ climbAsks l b i n q → x ∈ S) → climb l a i n p = climb l b i n q → a = b ∨ Coll l S := by
  intro n
  induction n using Nat.strongRecOn with
  | ind n ih =>
    intro i a b p q hi ha hb sp sq hp hq qa qb h
    by_cases h2 : 2 ≤ n
    · have hbl := below_lt h2
      have hpos := below_pos n
      by_cases hk : i < below n
      · rw [depth_left h2 hk] at hp hq
        obtain ⟨p, x, rfl, hphp⟩ := snoc_of hp
        have hp := hphp
        obtain ⟨q, y, rfl, hqhq⟩ := snoc_of hq
        have hq := hqhq
        rw [climb_left l _ _ _ _ _ h2 hk, climb_left l _ _ _ _ _ h2 hk] at h
        rw [climbAsks_left l _ _ _ _ _ h2 hk] at qa qb
        rcases node_inj (climb_len l hr _ _ _ _ ha) (climb_len l hr _ _ _ _ hb) (qa _ (by simp)) (qb _ (by simp)) h with ⟨e, _⟩ | hc
        · exact ih (below n) hbl i a b p q hk ha hb (sums_snoc sp).1 (sums_snoc sq).1 hp hq (fun x hx => qa x (by simp [hx])) (fun x hx => qb x (by simp [hx])) e
        · exact Or.inr hc
      · rw [depth_right h2 hk] at hp hq
        obtain ⟨p, x, rfl, hphp⟩ := snoc_of hp
        have hp := hphp
        obtain ⟨q, y, rfl, hqhq⟩ := snoc_of hq
        have hq := hqhq
        rw [climb_right l _ _ _ _ _ h2 hk, climb_right l _ _ _ _ _ h2 hk] at h
        rw [climbAsks_right l _ _ _ _ _ h2 hk] at qa qb
        rcases node_inj (sums_snoc sp).2 (sums_snoc sq).2 (qa _ (by simp)) (qb _ (by simp)) h with ⟨_, e⟩ | hc
        · exact ih (n - below n) (by omega) (i - below n) a b p q (by omega) ha hb (sums_snoc sp).1 (sums_snoc sq).1 hp hq (fun x hx => qa x (by simp [hx])) (fun x hx => qb x (by simp [hx])) e
        · exact Or.inr hc
    · left
      have h1 : n = 1 := by omega
      rw [climb_end l _ _ _ _ (Or.inl h1), climb_end l _ _ _ _ (Or.inl h1)] at h
      exact h
theorem both_len (l : List Mill.En) (hr : Mill.right l = true) : ∀ (n a : Nat) (w : Bool) (old : T) (p : List T), 1 ≤ a → a ≤ n → Sums p → p.length = long a n w → (w = true → old.length = 32) → (both l a n w old p).1.length = 32 ∧ (both l a n w old p).2.length = 32 := by
  intro n
  induction n using Nat.strongRecOn with
  | ind n ih =>
    intro a w old p h1 ha sp hp ho
    by_cases he : a = n
    · rw [long_all w he] at hp
      cases w with
      | true => rw [both_old l a n true old p (Or.inl ⟨he, rfl⟩)]; exact ⟨ho rfl, ho rfl⟩
      | false =>
        obtain ⟨p, x, rfl, hphp⟩ := snoc_of hp
        have hp := hphp
        rw [he, both_last]
        exact ⟨(sums_snoc sp).2, (sums_snoc sp).2⟩
    · have h2 : 2 ≤ n := by omega
      have hbl := below_lt h2
      have hpos := below_pos n
      by_cases hk : a ≤ below n
      · rw [long_left w he h2 hk] at hp
        obtain ⟨p, x, rfl, hphp⟩ := snoc_of hp
        have hp := hphp
        rw [both_left l a n w old p x he h2 hk]
        exact ⟨(ih (below n) hbl a w old p h1 hk (sums_snoc sp).1 hp ho).1, node_len l hr _ _⟩
      · rw [long_right w he h2 hk] at hp
        obtain ⟨p, x, rfl, hphp⟩ := snoc_of hp
        have hp := hphp
        rw [both_right l a n w old p x he h2 hk]
        exact ⟨node_len l hr _ _, node_len l hr _ _⟩
/-- What is believed to have grown out of others begins with them. -/
theorem both_begins (l : List Mill.En) (hr : Mill.right l = true) (S : List T) : ∀ (n a : Nat) (w : Bool) (old : T) (p A B : List T), 1 ≤ a → a ≤ n → A.length = a → B.length = n → Sums A → Sums B → Sums p → p.length = long a n w → (w = true → old.length = 32) →
    (∀ x, x ∈ rootAsks l A → x ∈ S) → (∀ x, x ∈ rootAsks l B → x ∈ S) → (∀ x, x ∈ bothAsks l a n w old p → x ∈ S) →
    (both l a n w old p).1 = root l A → (both l a n w old p).2 = root l B → A = B.take a ∨ Coll l S := by
  intro n
  induction n using Nat.strongRecOn with
  | ind n ih =>
    intro a w old p A B h1 ha hA hB sA sB sp hp ho qA qB qp e1 e2
    by_cases he : a = n
    · have hs : root l A = root l B := by
        rw [long_all w he] at hp
        cases w with
        | true => rw [both_old l a n true old p (Or.inl ⟨he, rfl⟩)] at e1 e2; rw [← e1, ← e2]
        | false =>
          obtain ⟨p, x, rfl, hphp⟩ := snoc_of hp
          have hp := hphp
          rw [he, both_last] at e1 e2
          rw [← e1, ← e2]
      rcases root_inj l hr S n A B (by omega) hB sA sB qA qB hs with e | hc
      · left; rw [e, List.take_of_length_le (by omega)]
      · exact Or.inr hc
    · have h2 : 2 ≤ n := by omega
      have hbl := below_lt h2
      have hpos := below_pos n
      have qB' := qB
      rw [rootAsks_more l B (by omega), hB] at qB
      rw [root_more l B (by omega), hB] at e2
      by_cases hk : a ≤ below n
      · rw [long_left w he h2 hk] at hp
        obtain ⟨p, x, rfl, hphp⟩ := snoc_of hp
        have hp := hphp
        rw [both_left l a n w old p x he h2 hk] at e1 e2
        rw [bothAsks_left l a n w old p x he h2 hk] at qp
        have hl := both_len l hr (below n) a w old p h1 hk (sums_snoc sp).1 hp ho
        rcases node_inj hl.2 (root_len l hr _ (sums_take sB _)) (qp _ (by simp)) (qB _ (by simp)) e2 with ⟨e3, _⟩ | hc
        · rcases ih (below n) hbl a w old p A (B.take (below n)) h1 hk hA (by rw [List.length_take]; omega) sA (sums_take sB _) (sums_snoc sp).1 hp ho qA (fun x hx => qB x (by simp [hx])) (fun x hx => qp x (by simp [hx])) e1 e3 with e | hc
          · left; rw [e, take_take_le B hk]
          · exact Or.inr hc
        · exact Or.inr hc
      · rw [long_right w he h2 hk] at hp
        obtain ⟨p, x, rfl, hphp⟩ := snoc_of hp
        have hp := hphp
        rw [both_right l a n w old p x he h2 hk] at e1 e2
        rw [bothAsks_right l a n w old p x he h2 hk] at qp
        have hba : below a = below n := below_two h2 (by omega) (by omega)
        rw [rootAsks_more l A (by omega), hA, hba] at qA
        rw [root_more l A (by omega), hA, hba] at e1
        have hx := (sums_snoc sp).2
        rcases node_inj hx (root_len l hr _ (sums_take sA _)) (qp _ (by simp)) (qA _ (by simp)) e1 with ⟨e3, e4⟩ | hc
        · rcases node_inj hx (root_len l hr _ (sums_take sB _)) (qp _ (by simp)) (qB _ (by simp)) e2 with ⟨e5, e6⟩ | hc
          · rcases root_inj l hr S (below n) (A.take (below n)) (B.take (below n)) (by rw [List.length_take]; omega) (by rw [List.length_take]; omega) (sums_take sA _) (sums_take sB _) (fun x hx => qA x (by simp [hx])) (fun x hx => qB x (by simp [hx])) (e3.symm.trans e5) with e7 | hc
            · rcases ih (n - below n) (by omega) (a - below n) false [] p (A.drop (below n)) (B.drop (below n)) (by omega) (by omega) (by rw [List.length_drop]; omega) (by rw [List.length_drop]; omega) (sums_drop sA _) (sums_drop sB _) (sums_snoc sp).1 hp (by simp) (fun x hx => qA x (by simp [hx])) (fun x hx => qB x (by simp [hx])) (fun x hx => qp x (by simp [hx])) e4 e6 with e8 | hc
              · left
                rw [← List.take_append_drop (below n) A, e7, e8, ← List.drop_take, ← take_take_le B (show below n ≤ a by omega), List.take_append_drop]
              · exact Or.inr hc
            · exact Or.inr hc
          · exact Or.inr hc
        · exact Or.inr hc
end Mk
end Go.Proofs.YtgjknfphmmlcdaaDoor

namespace Go.Proofs.YtgjknfphmmlcdaaDoor
set_option linter.unusedVariables false

namespace Mill
/-- Texts are summed one behind another. -/
def steps (l : List En) (ts : List (List UInt8)) (st : St) : St := ts.foldl (fun s t => step l t s) st
theorem steps_nil (l : List En) (st : St) : steps l [] st = st := rfl
theorem steps_one (l : List En) (t : List UInt8) (st : St) : steps l [t] st = step l t st := rfl
theorem steps_app (l : List En) (a b : List (List UInt8)) (st : St) : steps l (a ++ b) st = steps l b (steps l a st) := List.foldl_append
theorem steps_snoc (l : List En) (a : List (List UInt8)) (t : List UInt8) (st : St) : step l t (steps l a st) = steps l (a ++ [t]) st := by rw [steps_app]; rfl
theorem steps_sums (l : List En) (ts : List (List UInt8)) : ∀ st : St, (steps l ts st).sums = st.sums + ts.length := by
  induction ts with
  | nil => intro st; rfl
  | cons t ts ih =>
    intro st
    show (steps l ts (step l t st)).sums = _
    rw [ih, step_sums, List.length_cons]; omega
/-- What a mill knows behind the texts ds. -/
def Knows (l : List En) (ds : List (List UInt8)) (st : St) : Prop :=
  NI (hash l) ds st ∧ (st.met = true → st.a ≠ st.b) ∧ (st.met = false → ∀ s t, s ∈ ds → t ∈ ds → hash l s = hash l t → s = t)
theorem knows_fresh (l : List En) : Knows l [] fresh := ⟨ni_fresh _, (fun h => by cases h), (fun _ s t hs => by cases hs)⟩
theorem knows_step (l : List En) (ds : List (List UInt8)) (x : List UInt8) (st : St) (h : Knows l ds st) (hl : ds.length < 20000) : Knows l (ds ++ [x]) (step l x st) := by
  obtain ⟨hn, hm, hi⟩ := h
  obtain ⟨t1, t2, t3, t4⟩ := twins_step l ds x st hn
  refine ⟨ni_step l ds x st hn hl, ?_, ?_⟩
  · cases hst : st.met with
    | true =>
      obtain ⟨e1, e2, e3⟩ := t1 hst
      intro _
      rw [e1, e2]
      exact hm hst
    | false =>
      cases hf : ds.find? (fun t => hash l t = hash l x) with
      | none =>
        obtain ⟨e1, e2, e3⟩ := t2 hf
        intro h
        rw [e3, hst] at h
        cases h
      | some t =>
        by_cases e : t = x
        · obtain ⟨e1, e2, e3⟩ := t3 t hf e
          intro h
          rw [e3, hst] at h
          cases h
        · obtain ⟨e1, e2, e3⟩ := t4 t hf e hst
          intro _
          rw [e1, e2]
          exact e
  · intro hno
    have hst : st.met = false := by
      cases h : st.met with
      | false => rfl
      | true => rw [(t1 h).2.2] at hno; cases hno
    have hx : ∀ s, s ∈ ds → hash l s = hash l x → s = x := by
      intro s hs he
      cases hf : ds.find? (fun t => hash l t = hash l x) with
      | none =>
        have := List.find?_eq_none.mp hf s hs
        exact absurd (by simpa using he) this
      | some t =>
        have ht : t ∈ ds := List.mem_of_find?_eq_some hf
        have hht : hash l t = hash l x := by simpa using List.find?_some hf
        by_cases e : t = x
        · exact (hi hst s t hs ht (he.trans hht.symm)).trans e
        · rw [(t4 t hf e hst).2.2] at hno; cases hno
    intro s t hs ht he
    rcases List.mem_append.mp hs with hs | hs
    · rcases List.mem_append.mp ht with ht | ht
      · exact hi hst s t hs ht he
      · rw [List.mem_singleton.mp ht] at he ⊢; exact hx s hs he
    · rw [List.mem_singleton.mp hs] at he ⊢
      rcases List.mem_append.mp ht with ht | ht
      · exact (hx t ht he.symm).symm
      · exact (List.mem_singleton.mp ht).symm
theorem knows_steps (l : List En) (ts : List (List UInt8)) : ∀ (ds : List (List UInt8)) (st : St), Knows l ds st → ds.length + ts.length ≤ 20000 → Knows l (ds ++ ts) (steps l ts st) := by
  induction ts with
  | nil => intro ds st h _; rw [List.append_nil]; exact h
  | cons t ts ih =>
    intro ds st h hl
    rw [List.length_cons] at hl
    have := ih (ds ++ [t]) (step l t st) (knows_step l ds t st h (by omega)) (by rw [List.length_append, List.length_singleton]; omega)
    rw [List.append_assoc] at this
    exact this
/-- Where two unlike texts of one sum were summed, twins were met. -/
theorem twins_coll (l : List En) (ts : List (List UInt8)) (hl : ts.length ≤ 20000) (h : Mk.Coll l ts) : (steps l ts fresh).met = true ∧ (steps l ts fresh).a ≠ (steps l ts fresh).b := by
  have hk := knows_steps l ts [] fresh (knows_fresh l) (by rw [List.length_nil]; omega)
  rw [List.nil_append] at hk
  obtain ⟨_, hm, hi⟩ := hk
  obtain ⟨s, t, hs, ht, hne, he⟩ := h
  have : (steps l ts fresh).met = true := by
    cases hc : (steps l ts fresh).met with
    | true => rfl
    | false => exact absurd (hi hc s t hs ht he) hne
  exact ⟨this, hm this⟩
end Mill
namespace Mk
/-- How many texts are summed, at most. -/
theorem rootAsks_len (l : List Mill.En) : ∀ (n : Nat) (L : List T), L.length = n → (rootAsks l L).length ≤ n + 1 ∧ (1 ≤ n → (rootAsks l L).length ≤ n - 1) := by
  intro n
  induction n using Nat.strongRecOn with
  | ind n ih =>
    intro L hn
    by_cases h2 : 2 ≤ n
    · have hb := below_lt h2
      have hp := below_pos n
      rw [rootAsks_more l L (by omega), hn]
      have h1 := (ih (below n) hb (L.take (below n)) (by rw [List.length_take]; omega)).2 (by omega)
      have h3 := (ih (n - below n) (by omega) (L.drop (below n)) (by rw [List.length_drop]; omega)).2 (by omega)
      rw [List.length_append, List.length_append, List.length_singleton]
      omega
    · rw [rootAsks, dif_neg (by omega)]
      split
      · rw [List.length_singleton]; omega
      · simp
theorem depth_le : ∀ (e n i : Nat), n ≤ 2 ^ e → i < n → depth i n ≤ e := by
  intro e
  induction e with
  | zero => intro n i hn hi; rw [depth_none (by omega)]; exact Nat.le_refl _
  | succ e ih =>
    intro n i hn hi
    by_cases h2 : 2 ≤ n
    · have hb := below_lt h2
      have hh := below_half h2
      rw [Nat.pow_succ] at hn
      have hbe : below n ≤ 2 ^ e := by
        unfold below
        apply Nat.pow_le_pow_right (by omega)
        have : Nat.log2 (n - 1) < e + 1 := by
          rw [Nat.log2_lt (by omega), Nat.pow_succ]; omega
        omega
      by_cases hk : i < below n
      · rw [depth_left h2 hk]
        have := ih (below n) i hbe hk
        omega
      · rw [depth_right h2 hk]
        have := ih (n - below n) (i - below n) (by omega) (by omega)
        omega
    · rw [depth_none h2]; omega
theorem long_le : ∀ (e n a : Nat) (w : Bool), n ≤ 2 ^ e → 1 ≤ a → a ≤ n → long a n w ≤ e + 1 := by
  intro e
  induction e with
  | zero => 
    intro n a w hn h1 ha
    have : 2 ^ 0 = 1 := rfl
    rw [long_all w (by omega)]
    cases w <;> simp
  | succ e ih =>
    intro n a w hn h1 ha
    by_cases he : a = n
    · rw [long_all w he]; cases w <;> simp
    · have h2 : 2 ≤ n := by omega
      have hb := below_lt h2
      have hh := below_half h2
      rw [Nat.pow_succ] at hn
      have hbe : below n ≤ 2 ^ e := by
        unfold below
        apply Nat.pow_le_pow_right (by omega)
        have : Nat.log2 (n - 1) < e + 1 := by
          rw [Nat.log2_lt (by omega), Nat.pow_succ]; omega
        omega
      by_cases hk : a ≤ below n
      · rw [long_left w he h2 hk]
        have := ih (below n) a w hbe h1 hk
        omega
      · rw [long_right w he h2 hk]
        have := ih (n - below n) (a - below n) false (by omega) (by omega) (by omega)
        omega
end Mk
end Go.Proofs.YtgjknfphmmlcdaaDoor

namespace Go.Proofs.YtgjknfphmmlcdaaDoor
set_option linter.unusedVariables false

namespace Mk
/-- The greatest power of two that is at most n (n from 1 on). -/
def most (n : Nat) : Nat := 2 ^ Nat.log2 n
theorem most_pos (n : Nat) : 0 < most n := Nat.two_pow_pos _
theorem most_le {n : Nat} (h : 1 ≤ n) : most n ≤ n := Nat.log2_self_le (by omega)
theorem most_lt {n : Nat} (h : 1 ≤ n) : n < 2 * most n := by
  have h1 : n < 2 ^ (Nat.log2 n + 1) := Nat.lt_log2_self
  rw [Nat.pow_succ] at h1
  unfold most; omega
theorem most_eq {n e : Nat} (h1 : 2 ^ e ≤ n) (h2 : n < 2 * 2 ^ e) : most n = 2 ^ e := by
  have hp := Nat.two_pow_pos e
  unfold most
  have : Nat.log2 n = e := by
    rw [Nat.log2_eq_iff (by omega), Nat.pow_succ]; omega
  rw [this]
theorem below_most {n : Nat} (h : 2 ≤ n) (hne : most n ≠ n) : below n = most n := by
  have h1 := most_le (n := n) (by omega)
  have h2 := most_lt (n := n) (by omega)
  unfold most at *
  exact below_eq (by omega) (by omega)
theorem below_pow (e : Nat) : below (2 ^ (e + 1)) = 2 ^ e := by
  have := Nat.two_pow_pos e
  exact below_eq (by rw [Nat.pow_succ]; omega) (by rw [Nat.pow_succ]; omega)
/-- The roots of the complete trees, the greatest first. -/
def peaks (l : List Mill.En) (L : List T) : List T :=
  if h : 1 ≤ L.length then root l (L.take (most L.length)) :: peaks l (L.drop (most L.length)) else []
termination_by L.length
decreasing_by rw [List.length_drop]; have := most_pos L.length; omega
theorem peaks_nil (l : List Mill.En) : peaks l [] = [] := by rw [peaks]; rfl
theorem peaks_more (l : List Mill.En) (L : List T) (h : 1 ≤ L.length) : peaks l L = root l (L.take (most L.length)) :: peaks l (L.drop (most L.length)) := by rw [peaks, dif_pos h]
/-- The root of all, of the complete trees' roots. -/
def fold (l : List Mill.En) : List T → T
  | [] => nil l
  | [x] => x
  | x :: y :: r => node l x (fold l (y :: r))
theorem fold_more (l : List Mill.En) (x : T) (P : List T) (h : P ≠ []) : fold l (x :: P) = node l x (fold l P) := by
  match P, h with
  | y :: r, _ => rfl
theorem peaks_ne (l : List Mill.En) (L : List T) (h : 1 ≤ L.length) : peaks l L ≠ [] := by rw [peaks_more l L h]; exact List.cons_ne_nil _ _
theorem root_peaks (l : List Mill.En) : ∀ (n : Nat) (L : List T), L.length = n → fold l (peaks l L) = root l L := by
  intro n
  induction n using Nat.strongRecOn with
  | ind n ih =>
    intro L hn
    by_cases h1 : 1 ≤ n
    · have hp := most_pos n
      have hl := most_le h1
      rw [peaks_more l L (by omega), hn]
      by_cases he : most n = n
      · rw [he, List.drop_of_length_le (by omega), peaks_nil, List.take_of_length_le (by omega)]
        rfl
      · have h2 : 2 ≤ n := by
          rcases Nat.lt_or_ge n 2 with h | h
          · exact absurd (by have : n = 1 := by omega
                             subst this; rfl) he
          · exact h
        rw [fold_more l _ _ (peaks_ne l _ (by rw [List.length_drop]; omega)), ih (n - most n) (by omega) _ (by rw [List.length_drop]; omega), root_more l L (by omega), hn, below_most h2 he]
    · have h0 : L = [] := List.length_eq_zero_iff.mp (by omega)
      rw [h0, peaks_nil, root_nil]; rfl
/-- A tree's root is carried through the complete trees of as many leaves. -/
def carry (l : List Mill.En) (m : Nat) (P : List T) (x : T) : List T :=
  if h : m % 2 = 1 then carry l (m / 2) P.dropLast (node l (P.getLastD []) x) else P ++ [x]
termination_by m
decreasing_by omega
theorem carry_even (l : List Mill.En) (m : Nat) (P : List T) (x : T) (h : ¬ m % 2 = 1) : carry l m P x = P ++ [x] := by rw [carry, dif_neg h]
theorem carry_odd (l : List Mill.En) (m : Nat) (P : List T) (x y : T) (h : m % 2 = 1) : carry l m (P ++ [y]) x = carry l (m / 2) P (node l y x) := by
  rw [carry, dif_pos h, List.dropLast_concat, last_snoc]
theorem peaks_full (l : List Mill.En) (X : List T) (j : Nat) (h : X.length = 2 ^ j) : peaks l X = [root l X] := by
  have hp := Nat.two_pow_pos j
  have hm : most X.length = X.length := by rw [h]; exact most_eq (Nat.le_refl _) (by omega)
  rw [peaks_more l X (by omega), hm, List.drop_of_length_le (Nat.le_refl _), peaks_nil, List.take_of_length_le (Nat.le_refl _)]
/-- A power of two that a number below its double is a multiple of half of leaves room. -/
theorem room {e j n : Nat} (c : Nat) (hc : n = c * 2 ^ (j + 1)) (h1 : 2 ^ e ≤ n) (h2 : n < 2 * 2 ^ e) : n + 2 ^ j < 2 * 2 ^ e := by
  have hj := Nat.two_pow_pos j
  have hs : 2 ^ (j + 1) = 2 * 2 ^ j := by rw [Nat.pow_succ]; omega
  rcases Nat.lt_or_ge e j with h | h
  · have h3 : 2 ^ (e + 1) ≤ 2 ^ j := Nat.pow_le_pow_right (by omega) (by omega)
    rw [Nat.pow_succ] at h3
    rcases Nat.eq_zero_or_pos c with h4 | h4
    · rw [h4, Nat.zero_mul] at hc; have := Nat.two_pow_pos e; omega
    · have h5 : 1 * 2 ^ (j + 1) ≤ c * 2 ^ (j + 1) := Nat.mul_le_mul_right _ h4
      omega
  · obtain ⟨d, rfl⟩ := Nat.exists_eq_add_of_le h
    have h3 : 2 * 2 ^ (j + d) = 2 ^ d * 2 ^ (j + 1) := by rw [Nat.pow_add, hs]; rw [Nat.mul_comm (2 ^ d), Nat.mul_assoc]
    rw [h3, hc] at h2
    have h4 : c < 2 ^ d := Nat.lt_of_mul_lt_mul_right h2
    have h5 : (c + 1) * 2 ^ (j + 1) ≤ 2 ^ d * 2 ^ (j + 1) := Nat.mul_le_mul_right _ h4
    rw [Nat.add_mul] at h5
    omega
theorem peaks_even (l : List Mill.En) (X : List T) (j : Nat) (hX : X.length = 2 ^ j) : ∀ (n : Nat) (L : List T) (c : Nat), L.length = n → n = c * 2 ^ (j + 1) → peaks l (L ++ X) = peaks l L ++ [root l X] := by
  intro n
  induction n using Nat.strongRecOn with
  | ind n ih =>
    intro L c hn hc
    have hj := Nat.two_pow_pos j
    by_cases h1 : 1 ≤ n
    · have hm := most_le h1
      have hl := most_lt h1
      have hp := most_pos n
      have hr : n + 2 ^ j < 2 * most n := room c hc hm hl
      have hmm : most (n + 2 ^ j) = most n := by
        unfold most at hm hl hr ⊢
        exact most_eq (by omega) hr
      -- what is left is a multiple, too
      have hd : ∃ d, n - most n = d * 2 ^ (j + 1) := by
        have hje : j + 1 ≤ Nat.log2 n := by
          rcases Nat.lt_or_ge (Nat.log2 n) (j + 1) with h | h
          · have h3 : 2 ^ (Nat.log2 n + 1) ≤ 2 ^ (j + 1) := Nat.pow_le_pow_right (by omega) (by omega)
            rw [Nat.pow_succ] at h3
            rcases Nat.eq_zero_or_pos c with h4 | h4
            · rw [h4, Nat.zero_mul] at hc; omega
            · have h5 : 1 * 2 ^ (j + 1) ≤ c * 2 ^ (j + 1) := Nat.mul_le_mul_right _ h4
              unfold most at hl; omega
          · exact h
        obtain ⟨d, hd⟩ := Nat.exists_eq_add_of_le hje
        refine ⟨c - 2 ^ d, ?_⟩
        rw [Nat.sub_mul, ← hc]
        congr 1
        unfold most
        rw [hd, Nat.pow_add, Nat.mul_comm]
      obtain ⟨d, hd⟩ := hd
      rw [peaks_more l (L ++ X) (by rw [List.length_append]; omega), peaks_more l L (by omega), List.length_append, hn, hX, hmm, List.take_append_of_le_length (by omega), List.drop_append_of_le_length (by omega), ih (n - most n) (by omega) (L.drop (most n)) d (by rw [List.length_drop]; omega) hd]
      rfl
    · have h0 : L = [] := List.length_eq_zero_iff.mp (by omega)
      rw [h0, List.nil_append, peaks_nil, List.nil_append]
      exact peaks_full l X j hX
/-- A leaf more: its root is carried. -/
theorem peaks_carry (l : List Mill.En) : ∀ (m j : Nat) (L X : List T), L.length = m * 2 ^ j → X.length = 2 ^ j → peaks l (L ++ X) = carry l m (peaks l L) (root l X) := by
  intro m
  induction m using Nat.strongRecOn with
  | ind m ih =>
    intro j L X hL hX
    have hj := Nat.two_pow_pos j
    have hs : 2 ^ (j + 1) = 2 * 2 ^ j := by rw [Nat.pow_succ]; omega
    by_cases h : m % 2 = 1
    · have hc : (m - 1) * 2 ^ j = m / 2 * 2 ^ (j + 1) := by
        rw [hs, ← Nat.mul_assoc]; congr 1; omega
      have hm : m * 2 ^ j = (m - 1) * 2 ^ j + 2 ^ j := by
        have : m = (m - 1) + 1 := by omega
        rw [this, Nat.add_mul, Nat.one_mul]; rfl
      have hL1 : (L.take ((m - 1) * 2 ^ j)).length = (m - 1) * 2 ^ j := by rw [List.length_take]; omega
      have hL2 : (L.drop ((m - 1) * 2 ^ j)).length = 2 ^ j := by rw [List.length_drop]; omega
      have hsplit : L.take ((m - 1) * 2 ^ j) ++ L.drop ((m - 1) * 2 ^ j) = L := List.take_append_drop _ _
      generalize L.take ((m - 1) * 2 ^ j) = A at hL1 hsplit
      generalize L.drop ((m - 1) * 2 ^ j) = Y at hL2 hsplit
      subst hsplit
      have hroot : node l (root l Y) (root l X) = root l (Y ++ X) := by
        rw [root_more l (Y ++ X) (by rw [List.length_append]; omega), List.length_append, hL2, hX, show 2 ^ j + 2 ^ j = 2 ^ (j + 1) from by omega, below_pow, List.take_append_of_le_length (by omega), List.take_of_length_le (by omega), List.drop_append_of_le_length (by omega), List.drop_of_length_le (by omega), List.nil_append]
      rw [peaks_even l Y j hL2 _ A (m / 2) hL1 hc, carry_odd l m _ _ _ h, hroot, List.append_assoc]
      exact ih (m / 2) (by omega) (j + 1) A (Y ++ X) (by rw [hL1, hc]) (by rw [List.length_append]; omega)
    · rw [carry_even l m _ _ h]
      exact peaks_even l X j hX _ L (m / 2) rfl (by rw [hL, hs, ← Nat.mul_assoc]; congr 1; omega)
theorem peaks_add (l : List Mill.En) (L : List T) (x : T) : peaks l (L ++ [x]) = carry l L.length (peaks l L) x := by
  have := peaks_carry l L.length 0 L [x] (by simp) rfl
  rw [root_one] at this
  exact this
/-- A proof walked from its leaf: what is beside the way is to the left where the place's bit says so, or where the way is the last one. -/
theorem root_fold (l : List Mill.En) (L : List T) : root l L = fold l (peaks l L) := (root_peaks l L.length L rfl).symm
end Mk
end Go.Proofs.YtgjknfphmmlcdaaDoor
