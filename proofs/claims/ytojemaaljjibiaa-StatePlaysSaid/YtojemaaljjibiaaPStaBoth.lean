/-
  The program's state and the reference's, side by side.
-/
import Derived.Test.YtojemaaljjibiaaPEvGm
namespace Go.Proofs.Ytojemaaljjibiaa
open Go.RowKit
set_option linter.unusedVariables false

theorem RowC.frame {w w' : World} {z S S' : List Nat} {A : Option Addr} {cs : List Value} (h : RowC w S A cs) (hm : Mv w w' z) (hz : ∀ x ∈ z, x ∈ S) (hS : ∀ x ∈ S', x ∈ S ∨ w.heap.size ≤ x) : RowC w' S' A cs := fun hl => by
  obtain ⟨b, off, hA, hb, hn, hr⟩ := h hl
  refine ⟨b, off, hA, Nat.lt_of_lt_of_le hb hm.size, fun hx => ?_, fun j u hu => World.cell_block (hm.block b hb (fun hx => hn (hz b hx))) (hr j u hu)⟩
  rcases hS b hx with h1 | h1
  · exact hn h1
  · omega
theorem EntIn.frame {w w' : World} {z S S' : List Nat} {e : Ent} {A B : Option Addr} {ca cb : Nat} (h : EntIn w S e A ca B cb) (hm : Mv w w' z) (hz : ∀ x ∈ z, x ∈ S) (hS : ∀ x ∈ S', x ∈ S ∨ w.heap.size ≤ x) : EntIn w' S' e A ca B cb := ⟨h.rl.frame hm hz hS, h.rh.frame hm hz hS, h.la, h.ma, h.lb, h.mb⟩
theorem RefS.lt {w : World} {p : Nat} {t ot : List Nat} {st : Sta} (h : RefS w p t ot st) : ∀ x ∈ p :: t, x < w.heap.size := fun x hx => by
  obtain ⟨M, _, h⟩ := h
  rcases List.mem_cons.1 hx with rfl | hx
  · exact h.lt.1
  · exact h.lt.2 x hx
theorem RefS.frame {w w' : World} {p : Nat} {t ot ot' z : List Nat} {st : Sta} (h : RefS w p t ot st) (hm : Mv w w' z) (hz : ∀ x ∈ z, x ∉ p :: t) (hzo : ∀ x ∈ z, x ∈ ot) (ho : ∀ x ∈ ot', x ∈ ot ∨ w.heap.size ≤ x) (hl : ∀ x ∈ ot', x < w'.heap.size) : RefS w' p t ot' st := by
  obtain ⟨M, hM, h⟩ := h
  obtain ⟨A, ca, B, cb, h1, h2, h3, hs⟩ := h.ex
  have hk : ∀ b, b ∈ p :: t → b < w.heap.size → w'.heap[b]? = w.heap[b]? := fun b hb hlt => hm.block b hlt (fun hx => hz b hx hb)
  refine ⟨M, hM, ⟨A, ca, B, cb, (hk p (List.mem_cons_self ..) h1.lt).trans h1, own_keepB h2 (fun b hb => hk b (List.mem_cons_of_mem _ (by rw [hs]; exact List.mem_append.2 (Or.inl (Option.mem_toList.2 hb)))) (h2.lt b hb).2), own_keepB h3 (fun b hb => hk b (List.mem_cons_of_mem _ (by rw [hs]; exact List.mem_append.2 (Or.inr (Option.mem_toList.2 hb)))) (h3.lt b hb).2), hs⟩, h.nd, fun x hx => ?_, hl⟩
  refine EntIn.frame (h.ents x hx) hm (fun y hy => List.mem_append_right _ (hzo y hy)) (fun y hy => ?_)
  rcases List.mem_append.1 hy with hy | hy
  · exact Or.inl (List.mem_append_left _ hy)
  · exact (ho y hy).imp (fun h => List.mem_append_right _ h) (fun h => h)
theorem RefS.zero (w : World) (ot : List Nat) (hot : ∀ x ∈ ot, x < w.heap.size) : RefS (w.alloc (.cells #[.slice none 0 0, .slice none 0 0, .int .i64 0] 29)) w.heap.size [] ot Sta.zero :=
  ⟨[], rfl, ⟨none, 0, none, 0, Has.made w _ _, World.ownsRow_nil _ _ _ _, World.ownsRow_nil _ _ _ _, rfl⟩, by simp, fun x hx => (by cases hx), fun x hx => Nat.lt_of_lt_of_le (hot x hx) (by simp)⟩
/-- Both states, of which one is the other's. -/
structure Both (w0 : World) (q p : Nat) (s t : List Nat) (st : Sta) (n k : Nat) (W : World) : Prop where
  bl : Below w0.heap.size w0 W
  a : StAt W q s (p :: t) st n
  b : RefS W p t (q :: s) st
  ge : ∀ x ∈ (q :: s) ++ (p :: t), w0.heap.size ≤ x
  dis : ∀ x ∈ q :: s, x ∉ p :: t
  inv : Sta.Inv st
  hq : st.Q.length ≤ k
  hn : n ≤ k
theorem Both.below {w0 : World} {q p : Nat} {s t : List Nat} {st : Sta} {n k : Nat} {W W' : World} (h : Both w0 q p s t st n k W) (hb : Below W.heap.size W W') : Both w0 q p s t st n k W' :=
  ⟨h.bl.trans (hb.mono h.bl.size), h.a.below hb, h.b.below hb, h.ge, h.dis, h.inv, h.hq, h.hn⟩
theorem Both.lt {w0 : World} {q p : Nat} {s t : List Nat} {st : Sta} {n k : Nat} {W : World} (h : Both w0 q p s t st n k W) : ∀ x ∈ (q :: s) ++ (p :: t), x < W.heap.size := fun x hx => by
  rcases List.mem_append.1 hx with hx | hx
  · rcases List.mem_cons.1 hx with rfl | hx
    · exact h.a.lt.1
    · exact h.a.lt.2 x hx
  · exact h.b.lt x hx
/-- The program's state has taken a step. -/
theorem Both.stepA {w0 : World} {q p : Nat} {s t s' : List Nat} {st st' : Sta} {n n' k : Nat} {W W' : World} (h : Both w0 q p s t st n k W) (ha : StAt W' q s' (p :: t) st' n') (hm : Mv W W' (q :: s)) (hs : ∀ x ∈ s', x ∈ s ∨ W.heap.size ≤ x) :
    Below w0.heap.size w0 W' ∧ RefS W' p t (q :: s') st ∧ (∀ x ∈ (q :: s') ++ (p :: t), w0.heap.size ≤ x) ∧ ∀ x ∈ q :: s', x ∉ p :: t := by
  have hge := h.ge
  refine ⟨hm.below h.bl h.bl.size (fun x hx => hge x (List.mem_append_left _ hx)), h.b.frame hm h.dis (fun x hx => hx) (fun x hx => ?_) (fun x hx => ?_), fun x hx => ?_, fun x hx hx2 => ?_⟩
  · rcases List.mem_cons.1 hx with rfl | hx
    · exact Or.inl (List.mem_cons_self ..)
    · exact (hs x hx).imp (fun h => List.mem_cons_of_mem _ h) (fun h => h)
  · rcases List.mem_cons.1 hx with rfl | hx
    · exact ha.lt.1
    · exact ha.lt.2 x hx
  · rcases List.mem_append.1 hx with hx | hx
    · rcases List.mem_cons.1 hx with rfl | hx
      · exact hge _ (List.mem_append_left _ (List.mem_cons_self ..))
      · rcases hs x hx with h1 | h1
        · exact hge _ (List.mem_append_left _ (List.mem_cons_of_mem _ h1))
        · exact Nat.le_trans h.bl.size h1
    · exact hge _ (List.mem_append_right _ hx)
  · rcases List.mem_cons.1 hx with rfl | hx
    · exact h.dis _ (List.mem_cons_self ..) hx2
    · rcases hs x hx with h1 | h1
      · exact h.dis _ (List.mem_cons_of_mem _ h1) hx2
      · have := h.b.lt x hx2; omega
/-- Nothing came. -/
theorem Both.no {w0 : World} {q p : Nat} {s t s' : List Nat} {st : Sta} {n k : Nat} {W W' : World} (h : Both w0 q p s t st n k W) (ha : StAt W' q s' (p :: t) st n) (hm : Mv W W' (q :: s)) (hs : ∀ x ∈ s', x ∈ s ∨ W.heap.size ≤ x) : Both w0 q p s' t st n (k + 1) W' := by
  obtain ⟨h1, h2, h3, h4⟩ := h.stepA ha hm hs
  exact ⟨h1, ha, h2, h3, h4, h.inv, Nat.le_succ_of_le h.hq, Nat.le_succ_of_le h.hn⟩
/-- It came to both. -/
theorem Both.yes {w0 : World} {q p : Nat} {s t s' t' : List Nat} {st : Sta} {v : Evt} {n k : Nat} {W W' W2 : World} (h : Both w0 q p s t st n k W) (ha : StAt W' q s' (p :: t) (Sta.step st v) (n + 1)) (hm : Mv W W' (q :: s)) (hs : ∀ x ∈ s', x ∈ s ∨ W.heap.size ≤ x)
    (hb : RefS W2 p t' (q :: s') (Sta.step st v)) (hm2 : Mv W' W2 (p :: t)) (ht : ∀ x ∈ t', x ∈ t ∨ W'.heap.size ≤ x) : Both w0 q p s' t' (Sta.step st v) (n + 1) (k + 1) W2 := by
  obtain ⟨h1, h2, h3, h4⟩ := h.stepA ha hm hs
  have hQ := Sta.step_Q st v
  have h5 := h.hq
  have h6 := h.hn
  refine ⟨hm2.below h1 h1.size (fun x hx => h3 x (List.mem_append_right _ hx)), ha.frame hm2 (fun x hx hx2 => h4 x hx2 hx) (fun x hx => hx) (fun x hx => ?_) (fun x hx => hb.lt x hx), hb, fun x hx => ?_, fun x hx hx2 => ?_, h.inv.step v, by omega, by omega⟩
  · rcases List.mem_cons.1 hx with rfl | hx
    · exact Or.inl (List.mem_cons_self ..)
    · exact (ht x hx).imp (fun h => List.mem_cons_of_mem _ h) (fun h => h)
  · rcases List.mem_append.1 hx with hx | hx
    · exact h3 x (List.mem_append_left _ hx)
    · rcases List.mem_cons.1 hx with rfl | hx
      · exact h3 _ (List.mem_append_right _ (List.mem_cons_self ..))
      · rcases ht x hx with h7 | h7
        · exact h3 _ (List.mem_append_right _ (List.mem_cons_of_mem _ h7))
        · exact Nat.le_trans h1.size h7
  · rcases List.mem_cons.1 hx2 with e | hx2
    · exact h4 x hx (e ▸ List.mem_cons_self ..)
    · rcases ht x hx2 with h7 | h7
      · exact h4 x hx (List.mem_cons_of_mem _ h7)
      · have : x < W'.heap.size := by
          rcases List.mem_cons.1 hx with rfl | hx
          · exact ha.lt.1
          · exact ha.lt.2 x hx
        omega
end Go.Proofs.Ytojemaaljjibiaa
