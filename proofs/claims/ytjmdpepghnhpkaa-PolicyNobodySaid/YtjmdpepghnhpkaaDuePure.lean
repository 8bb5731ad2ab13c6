/-
  Dues, lists in order, heaps: plain. No program stands here.
-/
namespace Go.Proofs.Ytjmdpepghnhpkaa
set_option linter.unusedVariables false

/-- A due: a paper's number, and its deadline. -/
structure Du where
  seq : Int
  due : Int
  deriving DecidableEq
namespace Du
/-- Is one ahead of another in order? -/
def lt (a b : Du) : Bool := decide (a.due < b.due ∨ (a.due = b.due ∧ a.seq < b.seq))
theorem lt_iff {a b : Du} : lt a b = true ↔ a.due < b.due ∨ (a.due = b.due ∧ a.seq < b.seq) := by unfold lt; rw [decide_eq_true_iff]
theorem nlt_iff {a b : Du} : lt a b = false ↔ b.due < a.due ∨ (b.due = a.due ∧ b.seq ≤ a.seq) := by
  unfold lt
  rw [decide_eq_false_iff_not]
  omega
/-- Not behind. -/
def le (a b : Du) : Prop := lt b a = false
theorem le_iff {a b : Du} : le a b ↔ a.due < b.due ∨ (a.due = b.due ∧ a.seq ≤ b.seq) := nlt_iff
theorem le_refl (a : Du) : le a a := by rw [le_iff]; omega
theorem le_trans {a b c : Du} (h : le a b) (k : le b c) : le a c := by rw [le_iff] at *; omega
theorem le_antisymm {a b : Du} (h : le a b) (k : le b a) : a = b := by
  rw [le_iff] at *
  cases a; cases b
  simp only [Du.mk.injEq]
  dsimp only at *
  omega
theorem le_of_lt {a b : Du} (h : lt a b = true) : le a b := by rw [lt_iff] at h; rw [le_iff]; omega
theorem le_total (a b : Du) : le a b ∨ le b a := by rw [le_iff, le_iff]; omega
def zero : Du := ⟨0, 0⟩
/-! lists in order -/
def Sorted (l : List Du) : Prop := l.Pairwise le
/-- One more in a list in order: behind those that it is not ahead of. -/
def put : List Du → Du → List Du
  | [], d => [d]
  | x :: r, d => if lt d x = true then d :: x :: r else x :: put r d
theorem put_perm (d : Du) : ∀ l : List Du, (put l d).Perm (d :: l)
  | [] => List.Perm.refl _
  | x :: r => by
    unfold put
    split
    · exact List.Perm.refl _
    · exact ((put_perm d r).cons x).trans (List.Perm.swap d x r)
theorem put_sorted {d : Du} : ∀ {l : List Du}, Sorted l → Sorted (put l d)
  | [], _ => List.pairwise_singleton _ _
  | x :: r, h => by
    have hp := List.pairwise_cons.1 h
    unfold put
    split
    · rename_i hlt
      refine List.pairwise_cons.2 ⟨fun y hy => ?_, h⟩
      rcases List.mem_cons.1 hy with rfl | hy
      · exact le_of_lt hlt
      · exact le_trans (le_of_lt hlt) (hp.1 y hy)
    · rename_i hlt
      refine List.pairwise_cons.2 ⟨fun y hy => ?_, put_sorted hp.2⟩
      have hm := (put_perm d r).mem_iff.1 hy
      rcases List.mem_cons.1 hm with rfl | hm
      · show lt y x = false
        cases hq : lt y x with
        | false => rfl
        | true => exact absurd hq hlt
      · exact hp.1 y hm
theorem sorted_unique : ∀ {l m : List Du}, l.Perm m → Sorted l → Sorted m → l = m
  | [], m, hp, _, _ => (List.nil_perm.1 hp).symm
  | x :: r, [], hp, _, _ => absurd (List.nil_perm.1 hp.symm) (by simp)
  | x :: r, y :: s, hp, hs, ht => by
    have h1 := List.pairwise_cons.1 hs
    have h2 := List.pairwise_cons.1 ht
    have e : x = y := by
      have hx : x ∈ y :: s := hp.mem_iff.1 (List.mem_cons_self ..)
      have hy : y ∈ x :: r := hp.mem_iff.2 (List.mem_cons_self ..)
      rcases List.mem_cons.1 hx with e | hx
      · exact e
      · rcases List.mem_cons.1 hy with e | hy
        · exact e.symm
        · exact le_antisymm (h1.1 y hy) (h2.1 x hx)
    subst e
    rw [sorted_unique (List.Perm.cons_inv hp) h1.2 h2.2]
/-- All of some, in order. -/
def ord (l : List Du) : List Du := l.foldl put []
theorem ord_go : ∀ (l acc : List Du), Sorted acc → (l.foldl put acc).Perm (acc ++ l) ∧ Sorted (l.foldl put acc)
  | [], acc, h => ⟨by rw [List.append_nil]; exact List.Perm.refl _, h⟩
  | x :: l, acc, h => by
    obtain ⟨h1, h2⟩ := ord_go l (put acc x) (put_sorted h)
    refine ⟨h1.trans (((put_perm x acc).append_right l).trans ?_), h2⟩
    rw [List.cons_append]
    exact List.perm_middle.symm
theorem ord_perm (l : List Du) : (ord l).Perm l := (ord_go l [] List.Pairwise.nil).1
theorem ord_sorted (l : List Du) : Sorted (ord l) := (ord_go l [] List.Pairwise.nil).2
theorem ord_eq {l m : List Du} (hp : l.Perm m) (hs : Sorted l) : l = ord m := sorted_unique (hp.trans (ord_perm m).symm) hs (ord_sorted m)
theorem ord_congr {l m : List Du} (hp : l.Perm m) : ord l = ord m := ord_eq ((ord_perm l).trans hp) (ord_sorted l)
theorem ord_put {l : List Du} {d : Du} : put (ord l) d = ord (d :: l) := ord_eq ((put_perm d _).trans ((ord_perm l).cons d)) (put_sorted (ord_sorted l))
theorem ord_len (l : List Du) : (ord l).length = l.length := (ord_perm l).length_eq
theorem ord_nil : ord [] = [] := rfl
/-- The first of those in order, and the rest. -/
theorem ord_cons {l m : List Du} {d : Du} (hp : l.Perm (d :: m)) (hd : ∀ x ∈ m, le d x) : ord l = d :: ord m := by
  refine (ord_eq (l := d :: ord m) (((ord_perm m).cons d).trans hp.symm) (List.pairwise_cons.2 ⟨fun x hx => hd x ((ord_perm m).mem_iff.1 hx), ord_sorted m⟩)).symm
theorem sorted_tail {x : Du} {l : List Du} (h : Sorted (x :: l)) : Sorted l := (List.pairwise_cons.1 h).2
theorem sorted_erase {l : List Du} (h : Sorted l) (i : Nat) : Sorted (l.take i ++ l.drop (i + 1)) := by
  have e : (l.take i ++ l.drop (i + 1)).Sublist l := by
    have h1 : (l.drop (i + 1)).Sublist (l.drop i) := List.drop_sublist_drop_left _ (Nat.le_succ i)
    have h2 := (List.Sublist.refl (l.take i)).append h1
    rwa [List.take_append_drop] at h2
  exact h.sublist e
theorem perm_erase {l : List Du} {i : Nat} (h : i < l.length) : l.Perm (l[i] :: (l.take i ++ l.drop (i + 1))) := by
  have e : l = l.take i ++ l[i] :: l.drop (i + 1) := by
    rw [← List.drop_eq_getElem_cons h, List.take_append_drop]
  conv => lhs; rw [e]
  exact List.perm_middle
/-- Where one of a list in order is taken out: what stays, in order, is the list without one such place. -/
theorem erase_found {l m : List Du} {d : Du} (hs : Sorted l) (hp : l.Perm (d :: m)) : ∃ (i : Nat) (h : i < l.length), l[i] = d ∧ l.take i ++ l.drop (i + 1) = ord m := by
  obtain ⟨i, h, e⟩ := List.getElem_of_mem (hp.mem_iff.2 (List.mem_cons_self ..))
  refine ⟨i, h, e, ord_eq ?_ (sorted_erase hs i)⟩
  have h1 := perm_erase h
  rw [e] at h1
  exact List.Perm.cons_inv (h1.symm.trans hp)
/-! heaps -/
def g (l : List Du) (i : Nat) : Du := l.getD i zero
theorem g_at {l : List Du} {i : Nat} (h : i < l.length) : g l i = l[i] := by unfold g; rw [List.getD_eq_getElem?_getD, List.getElem?_eq_getElem h]; rfl
def par (i : Nat) : Nat := (i - 1) / 2
def Heap (l : List Du) : Prop := ∀ i, 0 < i → i < l.length → le (g l (par i)) (g l i)
theorem heap_min {l : List Du} (h : Heap l) : ∀ i, i < l.length → le (g l 0) (g l i) := by
  intro i
  induction i using Nat.strongRecOn with
  | ind i ih =>
    intro hi
    by_cases h0 : i = 0
    · rw [h0]; exact le_refl _
    · have hp : par i < i := by unfold par; omega
      exact le_trans (ih (par i) hp (by omega)) (h i (by omega) hi)
/-- Two exchanged. -/
def sw (l : List Du) (i j : Nat) : List Du := (l.set i (g l j)).set j (g l i)
theorem sw_len (l : List Du) (i j : Nat) : (sw l i j).length = l.length := by unfold sw; rw [List.length_set, List.length_set]
theorem g_set {l : List Du} {i : Nat} {d : Du} (h : i < l.length) (k : Nat) : g (l.set i d) k = if k = i then d else g l k := by
  unfold g
  rw [List.getD_eq_getElem?_getD, List.getD_eq_getElem?_getD, List.getElem?_set]
  by_cases e : i = k
  · subst e
    rw [if_pos rfl, if_pos rfl, if_pos h]; rfl
  · rw [if_neg e, if_neg (fun x => e x.symm)]
theorem sw_g {l : List Du} {i j : Nat} (hi : i < l.length) (hj : j < l.length) (k : Nat) : g (sw l i j) k = if k = j then g l i else if k = i then g l j else g l k := by
  unfold sw
  rw [g_set (by rw [List.length_set]; exact hj), g_set hi]
theorem set_perm {l : List Du} {i : Nat} {d : Du} (h : i < l.length) : (l.set i d).Perm (d :: (l.take i ++ l.drop (i + 1))) := by
  rw [List.set_eq_take_append_cons_drop, if_pos h]
  exact List.perm_middle
theorem sw_perm {l : List Du} {i j : Nat} (hi : i < l.length) (hj : j < l.length) : (sw l i j).Perm l := by
  have h1 := perm_erase (l := l.set i (g l j)) (i := j) (by rw [List.length_set]; exact hj)
  have h2 := set_perm (l := l.set i (g l j)) (d := g l i) (i := j) (by rw [List.length_set]; exact hj)
  have h3 := set_perm (l := l) (d := g l j) hi
  have h4 := perm_erase hi
  -- what stands at j behind the first store
  have e5 : (l.set i (g l j))[j]'(by rw [List.length_set]; exact hj) = g l j := by
    rw [List.getElem_set]
    split
    · rfl
    · exact (g_at hj).symm
  rw [e5] at h1
  have h6 : (l.set i (g l j)).take j ++ (l.set i (g l j)).drop (j + 1) = (l.set i (g l j)).take j ++ (l.set i (g l j)).drop (j + 1) := rfl
  have h7 : (g l j :: ((l.set i (g l j)).take j ++ (l.set i (g l j)).drop (j + 1))).Perm (g l j :: (l.take i ++ l.drop (i + 1))) := h1.symm.trans h3
  have h8 := List.Perm.cons_inv h7
  rw [← g_at hi] at h4
  exact h2.trans ((h8.cons _).trans h4.symm)
/-- In order but for i, which may stand too low. -/
def UpAt (l : List Du) (i : Nat) : Prop := (∀ k, 0 < k → k < l.length → k ≠ i → le (g l (par k)) (g l k)) ∧ (0 < i → ∀ k, 0 < k → k < l.length → par k = i → le (g l (par i)) (g l k))
theorem up_done {l : List Du} {i : Nat} (h : UpAt l i) (hi : i = 0 ∨ lt (g l i) (g l (par i)) = false) : Heap l := by
  intro k h0 hk
  by_cases e : k = i
  · subst e
    rcases hi with hi | hi
    · omega
    · exact hi
  · exact h.1 k h0 hk e
theorem up_step {l : List Du} {i : Nat} (h : UpAt l i) (h0 : 0 < i) (hi : i < l.length) (hl : lt (g l i) (g l (par i)) = true) : UpAt (sw l i (par i)) (par i) := by
  have hp : par i < i := by unfold par; omega
  have hpl : par i < l.length := by omega
  have hg := fun k => sw_g hi hpl k
  unfold UpAt
  rw [sw_len]
  refine ⟨fun k k0 hk hne => ?_, fun hp0 k k0 hk hpk => ?_⟩
  · rw [hg, hg]
    by_cases e : k = i
    · subst e
      rw [if_pos rfl, if_neg hne, if_pos rfl]
      exact le_of_lt hl
    · rw [if_neg hne, if_neg e]
      by_cases e1 : par k = par i
      · rw [if_pos e1]
        have := h.1 k k0 hk e
        rw [e1] at this
        exact le_trans (le_of_lt hl) this
      · rw [if_neg e1]
        by_cases e2 : par k = i
        · rw [if_pos e2]
          exact h.2 h0 k k0 hk e2
        · rw [if_neg e2]
          exact h.1 k k0 hk e
  · have hpp : par (par i) < par i := by unfold par at hp0 ⊢; omega
    have hq := h.1 (par i) hp0 hpl (by omega)
    rw [hg, hg, if_neg (by omega), if_neg (by omega)]
    by_cases e : k = i
    · rw [if_neg (by omega), if_pos e]
      exact hq
    · by_cases e1 : k = par i
      · exfalso
        rw [e1] at hpk
        omega
      · rw [if_neg e1, if_neg e]
        have := h.1 k k0 hk e
        rw [hpk] at this
        exact le_trans hq this
theorem up_push {l : List Du} {d : Du} (h : Heap l) : UpAt (l ++ [d]) l.length := by
  have hg : ∀ k, k < l.length → g (l ++ [d]) k = g l k := fun k hk => by
    rw [g_at (by rw [List.length_append]; omega), g_at hk, List.getElem_append_left hk]
  unfold UpAt
  rw [List.length_append]
  refine ⟨fun k k0 hk hne => ?_, fun h0 k k0 hk hpk => ?_⟩
  · simp only [List.length_cons, List.length_nil] at hk
    have hp : par k < k := by unfold par; omega
    rw [hg _ (by omega), hg _ (by omega)]
    exact h k k0 (by omega)
  · simp only [List.length_cons, List.length_nil] at hk
    unfold par at hpk
    omega
/-- In order but for i, which may stand too high. -/
def DownAt (l : List Du) (i : Nat) : Prop := (∀ k, 0 < k → k < l.length → par k ≠ i → le (g l (par k)) (g l k)) ∧ (0 < i → ∀ k, 0 < k → k < l.length → par k = i → le (g l (par i)) (g l k))
theorem down_done {l : List Du} {i : Nat} (h : DownAt l i) (hc : ∀ k, 0 < k → k < l.length → par k = i → le (g l i) (g l k)) : Heap l := by
  intro k h0 hk
  by_cases e : par k = i
  · rw [e]; exact hc k h0 hk e
  · exact h.1 k h0 hk e
theorem down_step {l : List Du} {i c : Nat} (h : DownAt l i) (h0 : 0 < c) (hc : c < l.length) (hp : par c = i) (hl : lt (g l c) (g l i) = true)
    (hm : ∀ k, 0 < k → k < l.length → par k = i → le (g l c) (g l k)) : DownAt (sw l i c) c := by
  have hic : i < c := by rw [← hp]; unfold par; omega
  have hil : i < l.length := by omega
  have hg := fun k => sw_g hil hc k
  unfold DownAt
  rw [sw_len]
  refine ⟨fun k k0 hk hne => ?_, fun hc0 k k0 hk hpk => ?_⟩
  · rw [hg, hg]
    by_cases e : k = c
    · subst e
      rw [if_pos rfl, if_neg hne, if_pos hp]
      exact le_of_lt hl
    · rw [if_neg hne, if_neg e]
      by_cases e1 : par k = i
      · rw [if_pos e1]
        have hki : k ≠ i := by rw [← e1]; unfold par; omega
        rw [if_neg hki]
        exact hm k k0 hk e1
      · rw [if_neg e1]
        by_cases e2 : k = i
        · subst e2
          rw [if_pos rfl]
          exact h.2 k0 c h0 hc hp
        · rw [if_neg e2]
          exact h.1 k k0 hk e1
  · have hki : k ≠ i := by
      intro e
      rw [e] at hpk
      unfold par at hpk hp
      omega
    have hkc : k ≠ c := by
      intro e
      rw [e] at hpk
      unfold par at hpk
      omega
    rw [hp, hg, hg, if_neg (by omega), if_pos rfl, if_neg hkc, if_neg hki]
    have := h.1 k k0 hk (by rw [hpk]; omega)
    rwa [hpk] at this
/-- In order but for i, whatever stands there. -/
def FixAt (l : List Du) (i : Nat) : Prop := (∀ k, 0 < k → k < l.length → k ≠ i → par k ≠ i → le (g l (par k)) (g l k)) ∧ (0 < i → ∀ k, 0 < k → k < l.length → par k = i → le (g l (par i)) (g l k))
theorem fix_down {l : List Du} {i : Nat} (h : FixAt l i) (hi : i = 0 ∨ le (g l (par i)) (g l i)) : DownAt l i := by
  refine ⟨fun k k0 hk hne => ?_, h.2⟩
  by_cases e : k = i
  · subst e
    rcases hi with hi | hi
    · omega
    · exact hi
  · exact h.1 k k0 hk e hne
theorem fix_up {l : List Du} {i : Nat} (h : FixAt l i) (h0 : 0 < i) (hl : lt (g l i) (g l (par i)) = true) : UpAt l i := by
  refine ⟨fun k k0 hk hne => ?_, h.2⟩
  by_cases e : par k = i
  · rw [e]
    exact le_trans (le_of_lt hl) (h.2 h0 k k0 hk e)
  · exact h.1 k k0 hk hne e
theorem heap_upAt {l : List Du} (h : Heap l) (i : Nat) : UpAt l i := by
  refine ⟨fun k k0 hk _ => h k k0 hk, fun h0 k k0 hk hp => ?_⟩
  have h1 := h k k0 hk
  rw [hp] at h1
  have hik : i < k := by rw [← hp]; unfold par; omega
  exact le_trans (h i h0 (by omega)) h1
theorem heap_fixAt {l : List Du} (h : Heap l) (i : Nat) : FixAt l i := ⟨fun k k0 hk _ _ => h k k0 hk, (heap_upAt h i).2⟩
theorem fix_set {l : List Du} {i : Nat} {d : Du} (h : Heap l) (hi : i < l.length) : FixAt (l.set i d) i := by
  have hf := heap_fixAt h i
  unfold FixAt
  rw [List.length_set]
  refine ⟨fun k k0 hk hne hp => ?_, fun h0 k k0 hk hp => ?_⟩
  · rw [g_set hi, g_set hi, if_neg hp, if_neg hne]
    exact hf.1 k k0 hk hne hp
  · have hki : k ≠ i := by rw [← hp]; unfold par; omega
    have hpi : par i ≠ i := by unfold par; omega
    rw [g_set hi, g_set hi, if_neg hpi, if_neg hki]
    exact hf.2 h0 k k0 hk hp
theorem heap_take {l : List Du} (h : Heap l) (n : Nat) : Heap (l.take n) := by
  intro k k0 hk
  rw [List.length_take] at hk
  have hg : ∀ j, j < n → j < l.length → g (l.take n) j = g l j := fun j hj hl => by
    rw [g_at (by rw [List.length_take]; omega), g_at hl, List.getElem_take]
  have hp : par k < k := by unfold par; omega
  rw [hg _ (by omega) (by omega), hg _ (by omega) (by omega)]
  exact h k k0 (by omega)
/-- What is left where one is taken out: the last one stands in its place. -/
theorem remove_perm {l : List Du} {i n : Nat} (hn : l.length = n + 1) (hi : i < l.length) : l.Perm (g l i :: (l.set i (g l n)).take n) := by
  have hnl : n < l.length := by omega
  have h1 := perm_erase (l := l.set i (g l n)) (i := n) (by rw [List.length_set]; omega)
  have e5 : (l.set i (g l n))[n]'(by rw [List.length_set]; omega) = g l n := by
    rw [List.getElem_set]
    split
    · rfl
    · exact (g_at hnl).symm
  rw [e5, List.drop_eq_nil_of_le (by rw [List.length_set]; omega), List.append_nil] at h1
  have h2 := set_perm (l := l) (d := g l n) hi
  have h3 := List.Perm.cons_inv (h1.symm.trans h2)
  have h4 := perm_erase hi
  rw [← g_at hi] at h4
  exact h4.trans (h3.symm.cons _)
end Du
end Go.Proofs.Ytjmdpepghnhpkaa
