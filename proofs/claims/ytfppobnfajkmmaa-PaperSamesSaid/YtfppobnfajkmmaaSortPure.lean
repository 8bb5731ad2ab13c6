/-
  The stable sort, plain: insertion and the exchange keep those of each name in their order. No program stands here.
-/
import Derived.Test.YtfppobnfajkmmaaIns
namespace Go.Proofs.Ytfppobnfajkmmaa
open Go.Sort
open Go.Op (bytesLess)
set_option linter.unusedVariables false

theorem nlt_eq (x y : Fld) : nlt x y = bytesLess x.name y.name := by
  show decide (ncmp x y < 0) = _
  rw [Bool.eq_iff_iff, decide_eq_true_iff]
  exact ncmp_lt x.name y.name
theorem bl_trans (l m n : List UInt8) (h1 : bytesLess l m = true) (h2 : bytesLess m n = true) : bytesLess l n = true := by
  cases h : bytesLess l n
  · have h3 := bl_asymm _ _ h1
    have h4 := bl_le_trans _ _ _ h h3
    rw [h2] at h4
    cases h4
  · rfl
theorem nlt_swo : SWO nlt where
  irrefl x := by rw [nlt_eq]; exact bl_irrefl _
  trans x y z h1 h2 := by
    rw [nlt_eq] at *
    exact bl_trans _ _ _ h1 h2
  ntrans x y z h1 h2 := by
    rw [nlt_eq] at *
    exact bl_le_trans _ _ _ h2 h1

/-- The fields in order. -/
abbrev fsort (l : List Fld) : List Fld := Stab.sort Fld.name l
abbrev fof (n : List UInt8) (l : List Fld) : List Fld := Stab.of Fld.name n l

theorem swp_adj (X Y : List Fld) (x y : Fld) : (swp (X ++ x :: y :: Y).toArray X.length (X.length + 1)).toList = X ++ y :: x :: Y := by
  unfold swp
  have h1 : (X ++ x :: y :: Y).toArray[X.length]! = x := by simp
  have h2 : (X ++ x :: y :: Y).toArray[X.length + 1]! = y := by simp
  rw [h1, h2]
  simp
theorem swp_comm (d : Array Fld) (i j : Nat) (hi : i < d.size) (hj : j < d.size) : swp d i j = swp d j i := by
  apply Array.ext
  · rw [swp_size, swp_size]
  · intro k h1 h2
    have e1 := swp_get d hi hj k
    have e2 := swp_get d hj hi k
    rw [getElem!_pos _ k h1] at e1
    rw [getElem!_pos _ k h2] at e2
    rw [e1, e2]
    by_cases a : k = j
    · subst a
      by_cases b : k = i
      · subst b; rfl
      · simp [b]
    · by_cases b : k = i
      · subst b; simp [a]
      · simp [a, b]
/-- Around two neighbours. -/
theorem split_adj (d : Array Fld) (k : Nat) (h : k + 1 < d.size) : ∃ X Y, d = (X ++ d[k]! :: d[k + 1]! :: Y).toArray ∧ X.length = k := by
  refine ⟨d.toList.take k, d.toList.drop (k + 2), ?_, by simp; omega⟩
  have h1 : k < d.toList.length := by simp; omega
  have h2 : k + 1 < d.toList.length := by simp; omega
  have e1 : d[k]! = d.toList[k] := by rw [getElem!_pos d k (by omega)]; simp
  have e2 : d[k + 1]! = d.toList[k + 1] := by rw [getElem!_pos d (k + 1) h]; simp
  rw [e1, e2]
  apply Array.ext'
  simp only []
  rw [← List.drop_eq_getElem_cons h2, ← List.drop_eq_getElem_cons h1, List.take_append_drop]
theorem of_swap (n : List UInt8) (X Y : List Fld) (x y : Fld) (h : x.name ≠ y.name) : fof n (X ++ y :: x :: Y) = fof n (X ++ x :: y :: Y) := by
  show Stab.of _ n _ = Stab.of _ n _
  rw [Stab.of_append, Stab.of_append]
  congr 1
  by_cases hx : x.name = n
  · by_cases hy : y.name = n
    · exact absurd (hx.trans hy.symm) h
    · rw [Stab.of_cons_other Fld.name hy, Stab.of_cons_same Fld.name hx, Stab.of_cons_same Fld.name hx, Stab.of_cons_other Fld.name hy]
  · by_cases hy : y.name = n
    · rw [Stab.of_cons_same Fld.name hy, Stab.of_cons_other Fld.name hx, Stab.of_cons_other Fld.name hx, Stab.of_cons_same Fld.name hy]
    · rw [Stab.of_cons_other Fld.name hy, Stab.of_cons_other Fld.name hx, Stab.of_cons_other Fld.name hx, Stab.of_cons_other Fld.name hy]
theorem nlt_ne {x y : Fld} (h : nlt x y = true) : y.name ≠ x.name := by
  rintro e
  rw [nlt_eq, e, bl_irrefl] at h
  cases h
theorem of_swp (n : List UInt8) (d : Array Fld) (k : Nat) (h : k + 1 < d.size) (hl : nlt d[k + 1]! d[k]! = true) : fof n (swp d (k + 1) k).toList = fof n d.toList := by
  rw [swp_comm d (k + 1) k h (by omega)]
  obtain ⟨X, Y, hd, hX⟩ := split_adj d k h
  have hne := nlt_ne hl
  generalize d[k]! = x at hd hne
  generalize d[k + 1]! = y at hd hne
  subst hX
  rw [hd, swp_adj]
  exact of_swap n X Y x y hne
theorem of_insInner (n : List UInt8) (a : Nat) : ∀ (j : Nat) (d : Array Fld), j < d.size → fof n (insInner nlt a j d).toList = fof n d.toList := by
  intro j
  induction j with
  | zero => intro d _; rfl
  | succ j ih =>
    intro d hj
    rw [insInner]
    by_cases h : (decide (j + 1 > a) && nlt d[j + 1]! d[j]!) = true
    · rw [if_pos h, ih _ (by rw [swp_size]; omega)]
      rw [Bool.and_eq_true] at h
      exact of_swp n d j hj h.2
    · rw [if_neg h]
theorem size_insInner (a : Nat) : ∀ (j : Nat) (d : Array Fld), (insInner nlt a j d).size = d.size := by
  intro j
  induction j with
  | zero => intro d; rfl
  | succ j ih =>
    intro d
    rw [insInner]
    split
    · rw [ih, swp_size]
    · rfl
theorem of_insOuter (n : List UInt8) (a b : Nat) : ∀ (k i : Nat) (d : Array Fld), b - i = k → b ≤ d.size → fof n (insOuter nlt a b i d).toList = fof n d.toList := by
  intro k
  induction k with
  | zero => intro i d hk hb; rw [insOuter, if_neg (by omega)]
  | succ k ih =>
    intro i d hk hb
    rw [insOuter, if_pos (by omega), ih (i + 1) _ (by omega) (by rw [size_insInner]; exact hb)]
    exact of_insInner n a i d (by omega)

/-- What is in order and keeps those of each name is the sort. -/
theorem part_sorted {X A Y : List Fld} {d' : Array Fld} (hp : PermIn X.length (X.length + A.length) (X ++ A ++ Y).toArray d') (hs : SortedIn nlt X.length (X.length + A.length) d')
    (hof : ∀ n, fof n d'.toList = fof n (X ++ A ++ Y)) : d' = (X ++ fsort A ++ Y).toArray := by
  obtain ⟨h1, h2, h3⟩ := hp
  have hsz : d'.toList.length = X.length + A.length + Y.length := by
    rw [Array.length_toList, h1]; simp; omega
  obtain ⟨l, rfl⟩ : ∃ l : List Fld, d' = l.toArray := ⟨d'.toList, rfl⟩
  simp only [] at hsz hof
  have g : ∀ i (hi : i < l.length), (i < X.length ∨ X.length + A.length ≤ i) → l[i] = (X ++ A ++ Y)[i]'(by simp at hsz ⊢; omega) := by
    intro i hi ho
    have := h2 i ho
    rw [getElem!_pos _ i (by simpa using hi), getElem!_pos _ i (by simp at hsz ⊢; omega)] at this
    simpa using this
  have e1 : l.take X.length = X := by
    apply List.ext_getElem
    · simp; omega
    · intro i hi1 hi2
      rw [List.getElem_take, g i (by simp at hi1; omega) (Or.inl hi2)]
      rw [List.getElem_append_left (by simp; omega), List.getElem_append_left hi2]
  have e2 : l.drop (X.length + A.length) = Y := by
    apply List.ext_getElem
    · simp; omega
    · intro i hi1 hi2
      rw [List.getElem_drop, g _ (by simp at hi1; omega) (Or.inr (by omega))]
      rw [List.getElem_append_right (by simp)]
      congr 1
      simp
  have hl : l = X ++ (l.drop X.length).take A.length ++ Y := by
    rw [List.append_assoc]
    conv => lhs; rw [← List.take_append_drop X.length l, e1]
    congr 1
    conv => lhs; rw [← List.take_append_drop A.length (l.drop X.length), List.drop_drop, e2]
  have hml : ((l.drop X.length).take A.length).length = A.length := by simp; omega
  generalize (l.drop X.length).take A.length = M at hl hml
  have hof2 : ∀ n, fof n M = fof n A := by
    intro n
    have := hof n
    rw [hl] at this
    simp only [Stab.of_append] at this
    exact List.append_cancel_left (List.append_cancel_right this)
  have hsort : Stab.Sorted Fld.name M := by
    unfold Stab.Sorted
    rw [List.pairwise_iff_getElem]
    intro i j hi hj hij
    have := hs (X.length + i) (X.length + j) (by omega) (by omega) (by omega)
    rw [nlt_eq] at this
    rw [hl] at this
    have ei : ∀ k (hk : k < M.length), (X ++ M ++ Y).toArray[X.length + k]! = M[k] := by
      intro k hk
      rw [getElem!_pos _ _ (by simp; omega)]
      simp [List.getElem_append, hk]
    rw [ei i hi, ei j hj] at this
    exact this
  have := Stab.sort_unique Fld.name A M hsort hof2
  rw [hl, this]
theorem ins_list (X A Y : List Fld) : Sort.insertionSort nlt (X ++ A ++ Y).toArray X.length (X.length + A.length) = (X ++ fsort A ++ Y).toArray := by
  have h := insertionSort_holds (lt := nlt) nlt_swo (X ++ A ++ Y).toArray X.length (X.length + A.length) (by omega) (by simp)
  refine part_sorted h.1 h.2 (fun n => ?_)
  unfold Sort.insertionSort
  rw [of_insOuter n _ _ _ _ _ rfl (by simp)]

open Go.RowKit
theorem SW_SW (w : World) (blk off m m' : Nat) (d d' : Array Fld) (os os' : Array Obj) (hb : blk < w.heap.size) (h : d'.size = d.size) :
    SW (SW w blk off m d os) blk off m' d' os' = SW w blk off (m + m') d' (os ++ os') := grow_step_growK Fld.cs 6 w os os' m m' blk off d d' hb h
theorem SW_holds {w : World} {blk off : Nat} {d0 : Array Fld} (hH : HoldsK Fld.cs 6 w blk off d0) (hblk : blk < w.heap.size) (m : Nat) (d : Array Fld) (os : Array Obj) (hs : d.size = d0.size) : HoldsK Fld.cs 6 (SW w blk off m d os) blk off d :=
  Go.Proofs.holdsK_sortWorldK_c Fld.cs 6 w blk off d0 d m os hH hblk hs
theorem SW_size (w : World) (blk off m : Nat) (d : Array Fld) (os : Array Obj) : w.heap.size ≤ (SW w blk off m d os).heap.size := Go.Proofs.size_sortWorldK_c Fld.cs 6 w blk off m d os

/-- The insertion sort of a part. -/
theorem insPart_any (X A Y : List Fld) (blk off cap : Nat) (w : World) (hH : HoldsK Fld.cs 6 w blk off (X ++ A ++ Y).toArray) (hblk : blk < w.heap.size) (hsz : (X ++ A ++ Y).length < 1000000) :
    Calls Try.prog 55 #[.slice (some ⟨blk, off, none⟩) (X ++ A ++ Y).length cap, .int .i64 (X.length : Int), .int .i64 ((X.length + A.length : Nat) : Int), .func (.func 20) #[] #[]] w fun e w' =>
      e = .returned (.tuple #[]) ∧ ∃ n os, w' = SW w blk off n (X ++ fsort A ++ Y).toArray os := by
  have h := ins_any blk off cap X.length (X.length + A.length) (X ++ A ++ Y).toArray w hH hblk (by omega) (by simp) (by simpa using hsz)
  rw [ins_list] at h
  exact h
end Go.Proofs.Ytfppobnfajkmmaa
