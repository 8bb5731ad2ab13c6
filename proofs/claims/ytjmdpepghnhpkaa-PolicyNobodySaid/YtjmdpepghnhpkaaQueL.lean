/-
  A queue in memory, as a list in order: Add, Len, First, Take, Drop.
-/
import Derived.Test.YtjmdpepghnhpkaaDueD
import Derived.Test.YtjmdpepghnhpkaaQueD
namespace Go.Proofs.Ytjmdpepghnhpkaa
open Go.RowKit
set_option linter.unusedVariables false

/-- Block q is a queue that holds the dues of l, in order; s: the other blocks that it may change. -/
structure QAt (w : World) (q : Nat) (s : List Nat) (l : List Du) : Prop where
  sorted : Du.Sorted l
  rep : ∃ h : List Du, h.Perm l ∧ Du.Heap h ∧ QRep w q s h
theorem QAt.lt {w : World} {q : Nat} {s : List Nat} {l : List Du} (h : QAt w q s l) : q < w.heap.size ∧ ∀ x ∈ s, x < w.heap.size := by
  obtain ⟨hp, _, _, h3⟩ := h.rep
  exact h3.lt
theorem QAt.mv {w w' : World} {q : Nat} {s t : List Nat} {l : List Du} (h : QAt w q s l) (hm : Mv w w' t) (ht : ∀ x ∈ t, x ≠ q ∧ x ∉ s) : QAt w' q s l := by
  obtain ⟨hp, h1, h2, h3⟩ := h.rep
  exact ⟨h.sorted, hp, h1, h2, h3.mv hm ht⟩
theorem QAt.below {w w' : World} {q : Nat} {s : List Nat} {l : List Du} (h : QAt w q s l) (hb : Below w.heap.size w w') : QAt w' q s l := h.mv (Mv.of_below hb []) (by simp)
/-- A step of a queue: what it holds then, which blocks are its own then. -/
def QStep (w : World) (q : Nat) (s : List Nat) (l' : List Du) (w' : World) : Prop := ∃ s', QAt w' q s' l' ∧ Mv w w' (q :: s) ∧ ∀ x ∈ s', x ∈ s ∨ w.heap.size ≤ x
theorem QStep.row {w w' : World} {q : Nat} {s s' : List Nat} {A : Option Addr} {cs : List Value} (h : RowC w (q :: s) A cs) (hm : Mv w w' (q :: s)) (hs : ∀ x ∈ s', x ∈ s ∨ w.heap.size ≤ x) : RowC w' (q :: s') A cs := fun hl => by
  obtain ⟨b, off, hA, hb, hn, hr⟩ := h hl
  refine ⟨b, off, hA, Nat.lt_of_lt_of_le hb hm.size, fun hx => ?_, fun j u hu => World.cell_block (hm.block b hb hn) (hr j u hu)⟩
  rcases List.mem_cons.1 hx with hx | hx
  · exact hn (by rw [hx]; exact List.mem_cons_self ..)
  · rcases hs b hx with h1 | h1
    · exact hn (List.mem_cons_of_mem _ h1)
    · omega
/-- A new queue: its block. -/
theorem qnew (w : World) : QAt (w.alloc (.cells #[.slice none 0 0] 32)) w.heap.size [] [] :=
  ⟨List.Pairwise.nil, [], List.Perm.refl _, (fun i h0 hi => by cases hi), .inl ⟨rfl, rfl, Has.made _ _ _⟩⟩
theorem qadd_any {w : World} {q : Nat} {s : List Nat} {l : List Du} (h : QAt w q s l) (hl : l.length ≤ 1000) (d : Du) :
    Calls Try.prog 10 #[.pointer (some ⟨q, 0, none⟩), .agg #[.int .i64 d.seq, .int .i64 d.due]] w fun r w' => r = .returned (.tuple #[]) ∧ QStep w q s (Du.put l d) w' := by
  obtain ⟨hp, h1, h2, h3⟩ := h.rep
  refine (qradd_any h3 h2 (by rw [h1.length_eq]; exact hl) d).mono ?_
  rintro r w' ⟨rfl, h', s', e1, e2, e3, e4, e5⟩
  exact ⟨rfl, s', ⟨Du.put_sorted h.sorted, h', (e1.trans (h1.cons d)).trans (Du.put_perm d l).symm, e2, e3⟩, e4, e5⟩
theorem qlen_any {w : World} {q : Nat} {s : List Nat} {l : List Du} (h : QAt w q s l) (hl : l.length ≤ 1000) :
    Calls Try.prog 15 #[.pointer (some ⟨q, 0, none⟩)] w fun r w' => r = .returned (.int .i64 (l.length : Int)) ∧ Below w.heap.size w w' := by
  obtain ⟨hp, h1, h2, h3⟩ := h.rep
  refine (qrlen_any h3).mono ?_
  rintro r w' ⟨rfl, rfl⟩
  exact ⟨by rw [h1.length_eq], Below.refl _ _⟩
/-- A heap's head is the list's. -/
theorem Du.heads {h l : List Du} (hp : h.Perm l) (hh : Du.Heap h) (hs : Du.Sorted l) : h.head? = l.head? := by
  match h, l with
  | [], [] => rfl
  | [], _ :: _ => cases hp.length_eq
  | _ :: _, [] => cases hp.length_eq
  | x :: m, y :: n =>
    have hmin : ∀ z ∈ x :: m, Du.le x z := fun z hz => by
      obtain ⟨i, hi, rfl⟩ := List.mem_iff_getElem.1 hz
      have := Du.heap_min hh i hi
      rwa [Du.g_at hi, Du.g_at (by simp)] at this
    have h1 : Du.le x y := hmin y (hp.symm.subset (List.mem_cons_self ..))
    have h2 : Du.le y x := by
      rcases List.mem_cons.1 (hp.subset (List.mem_cons_self ..)) with e | e
      · rw [e]; exact Du.le_refl _
      · exact (List.pairwise_cons.1 hs).1 x e
    rw [Du.le_antisymm h1 h2]; rfl
theorem qfirst_any {w : World} {q : Nat} {s : List Nat} {l : List Du} (h : QAt w q s l) (hl : l.length ≤ 1000) :
    Calls Try.prog 13 #[.pointer (some ⟨q, 0, none⟩)] w fun r w' => r = .returned (dueR l.head?) ∧ Below w.heap.size w w' := by
  obtain ⟨hp, h1, h2, h3⟩ := h.rep
  rw [← Du.heads h1 h2 h.sorted]
  exact qrfirst_any h3
theorem qtake_any {w : World} {q : Nat} {s : List Nat} {l : List Du} (h : QAt w q s l) (hl : l.length ≤ 1000) :
    Calls Try.prog 14 #[.pointer (some ⟨q, 0, none⟩)] w fun r w' => r = .returned (dueR l.head?) ∧ QStep w q s l.tail w' := by
  obtain ⟨hp, h1, h2, h3⟩ := h.rep
  have hd := Du.heads h1 h2 h.sorted
  rw [← hd]
  refine (qrtake_any h3 h2 (by rw [h1.length_eq]; omega)).mono ?_
  rintro r w' ⟨rfl, h', ⟨e1, e1'⟩, e2, e3, e4⟩
  refine ⟨rfl, s, ⟨h.sorted.tail, h', ?_, e2, e3⟩, e4, fun x hx => Or.inl hx⟩
  match hp, l with
  | [], [] => rw [e1 rfl]; exact List.Perm.refl _
  | [], _ :: _ => cases h1.length_eq
  | _ :: _, [] => cases h1.length_eq
  | x :: m, y :: n =>
    injection hd with hd
    subst hd
    exact ((e1' x m rfl).symm.trans h1).cons_inv
theorem qdrop_any {w : World} {q : Nat} {s : List Nat} {l : List Du} (h : QAt w q s l) (hl : l.length ≤ 1000) (hfit : ∀ x ∈ l, x.due ≤ 9223372036854775807) (seq : Int) :
    Calls Try.prog 20 #[.pointer (some ⟨q, 0, none⟩), .int .i64 seq] w fun r w' =>
      (r = .returned (.bool true) ∧ ∃ (i : Nat) (hi : i < l.length), l[i].seq = seq ∧ QStep w q s (l.take i ++ l.drop (i + 1)) w') ∨ (r = .returned (.bool false) ∧ (∀ x ∈ l, x.seq ≠ seq) ∧ QStep w q s l w') := by
  obtain ⟨hp, h1, h2, h3⟩ := h.rep
  refine (qrdrop_any h3 h2 (by rw [h1.length_eq]; omega) (fun x hx => hfit x (h1.subset hx)) seq).mono ?_
  rintro r w' ⟨b, h', rfl, hd, e2, e3, e4⟩
  rcases hd with ⟨rfl, d, hm, hs, hpm⟩ | ⟨rfl, hn, rfl⟩
  · obtain ⟨i, hi, g1, g2⟩ := Du.erase_found h.sorted (h1.symm.trans hpm)
    exact .inl ⟨rfl, i, hi, by rw [g1]; exact hs, s, ⟨Du.sorted_erase h.sorted i, h', by rw [g2]; exact (Du.ord_perm h').symm, e2, e3⟩, e4, fun x hx => Or.inl hx⟩
  · exact .inr ⟨rfl, fun x hx => hn x (h1.symm.subset hx), s, ⟨h.sorted, _, h1, e2, e3⟩, e4, fun x hx => Or.inl hx⟩
end Go.Proofs.Ytjmdpepghnhpkaa
