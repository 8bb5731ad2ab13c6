/-
  QKM: the texts StaQK, StaQL, StaQM in one.
-/
import Derived.Test.YtojemaaljjibiaaPCpCl
import Derived.Test.YtojemaaljjibiaaPQEG
import Derived.Test.YtojemaaljjibiaaPRHI
import Derived.Test.YtojemaaljjibiaaPSoL
open List (setIfInBounds_toArray set_cons_zero set_cons_succ)
namespace Go.Proofs.Ytojemaaljjibiaa
open Go.RowKit
set_option linter.unusedVariables false

/-- Some of a list's places are exchanged for others of theirs, or new ones. -/
theorem nodup_swap {B : Nat} {pre mid mid' post : List Nat} (h : (pre ++ (mid ++ post)).Nodup) (hb : ∀ z ∈ pre ++ (mid ++ post), z < B) (hm : mid'.Nodup) (hx : ∀ z ∈ mid', z ∈ mid ∨ B ≤ z) : (pre ++ (mid' ++ post)).Nodup := by
  obtain ⟨h1, h2, h3⟩ := List.nodup_append.1 h
  obtain ⟨h4, h5, h6⟩ := List.nodup_append.1 h2
  refine List.nodup_append.2 ⟨h1, List.nodup_append.2 ⟨hm, h5, fun a ha b hb' => ?_⟩, fun a ha b hb' => ?_⟩
  · rcases hx a ha with hh | hh
    · exact h6 a hh b hb'
    · have := hb b (List.mem_append.2 (Or.inr (List.mem_append.2 (Or.inr hb'))))
      omega
  · rcases List.mem_append.1 hb' with hb' | hb'
    · rcases hx b hb' with hh | hh
      · exact h3 a ha b (List.mem_append.2 (Or.inl hh))
      · have := hb a (List.mem_append.2 (Or.inl ha))
        omega
    · exact h3 a ha b (List.mem_append.2 (Or.inr hb'))
theorem bls_append (M N : List EntX) : bls (M ++ N) = bls M ++ bls N := by unfold bls; rw [List.flatMap_append]
theorem bls_one (x : EntX) : bls [x] = x.bl := by unfold bls; rw [List.flatMap_singleton]
theorem ids_append (M N : List EntX) : ids (M ++ N) = ids M ++ ids N := by unfold ids; rw [List.map_append]
theorem set_parts {α : Type} {M : List α} {k : Nat} (hk : k < M.length) (y : α) : M.set k y = M.take k ++ ([y] ++ M.drop (k + 1)) := by
  rw [List.set_eq_take_append_cons_drop, if_pos hk]; rfl
theorem self_parts {α : Type} {M : List α} {k : Nat} (hk : k < M.length) : M = M.take k ++ ([M[k]] ++ M.drop (k + 1)) := by
  conv => lhs; rw [← List.take_append_drop k M, List.drop_eq_getElem_cons hk]
  rfl
theorem ids_set {M : List EntX} {k : Nat} (hk : k < M.length) (y : EntX) (hy : y.e.id = M[k].e.id) : ids (M.set k y) = ids M := by
  conv => rhs; rw [self_parts hk]
  rw [set_parts hk, ids_append, ids_append, ids_append, ids_append]
  congr 2
  unfold ids
  rw [List.map_singleton, List.map_singleton, hy]
section
variable {w : World} {q : Nat} {s : List Nat} {M : List EntX} {Q : List Pt} {now : Int} {n : Nat}
theorem StRep.ltAll (h : StRep w q s M Q now n) : ∀ z ∈ q :: s, z < w.heap.size := fun z hz => by
  rcases List.mem_cons.1 hz with rfl | hz
  · exact h.lt.1
  · exact h.lt.2 z hz
/-- A number of the state's own block is written. -/
theorem StRep.setNow (h : StRep w q s M Q now n) (t : Int) : StRep (w.setCell ⟨q, 3, none⟩ (.int .i64 t)) q s M Q t n ∧ Mv w (w.setCell ⟨q, 3, none⟩ (.int .i64 t)) (q :: s) := by
  have hnd := h.nd
  have how := h.own
  obtain ⟨A, ca, mb, B, cb, h1, h2, h3, h4, hs⟩ := h.ex
  have hk : ∀ b ∈ s, (w.setCell ⟨q, 3, none⟩ (.int .i64 t)).heap[b]? = w.heap[b]? := fun b hb => Below.heap_setCell w ⟨q, 3, none⟩ _ b (fun e => (List.nodup_cons.1 hnd).1 ((show b = q from e) ▸ hb))
  rw [hs] at hk
  refine ⟨⟨⟨A, ca, mb, B, cb, h1.set 3 _, own_keepB h2 (fun b hb => hk b (List.mem_append.2 (Or.inl (Option.mem_toList.2 hb)))), own_keepB h3 (fun b hb => hk b (List.mem_append.2 (Or.inr (List.mem_append.2 (Or.inl (Option.mem_toList.2 hb)))))), h4.keep (hk mb (List.mem_append.2 (Or.inr (List.mem_append.2 (Or.inr (List.mem_cons_self ..)))))), hs⟩, fun x hx => (how x hx).keep (fun b hb => hk b (List.mem_append.2 (Or.inr (List.mem_append.2 (Or.inr (List.mem_cons_of_mem _ (mem_bls.2 ⟨x, hx, hb⟩))))))), hnd⟩, Mv.of_only (Only.set w q 3 _) (List.mem_cons_self ..)⟩
theorem StRep.setN (h : StRep w q s M Q now n) (m : Nat) : StRep (w.setCell ⟨q, 4, none⟩ (.int .i64 (m : Int))) q s M Q now m ∧ Mv w (w.setCell ⟨q, 4, none⟩ (.int .i64 (m : Int))) (q :: s) := by
  have hnd := h.nd
  have how := h.own
  obtain ⟨A, ca, mb, B, cb, h1, h2, h3, h4, hs⟩ := h.ex
  have hk : ∀ b ∈ s, (w.setCell ⟨q, 4, none⟩ (.int .i64 (m : Int))).heap[b]? = w.heap[b]? := fun b hb => Below.heap_setCell w ⟨q, 4, none⟩ _ b (fun e => (List.nodup_cons.1 hnd).1 ((show b = q from e) ▸ hb))
  rw [hs] at hk
  refine ⟨⟨⟨A, ca, mb, B, cb, h1.set 4 _, own_keepB h2 (fun b hb => hk b (List.mem_append.2 (Or.inl (Option.mem_toList.2 hb)))), own_keepB h3 (fun b hb => hk b (List.mem_append.2 (Or.inr (List.mem_append.2 (Or.inl (Option.mem_toList.2 hb)))))), h4.keep (hk mb (List.mem_append.2 (Or.inr (List.mem_append.2 (Or.inr (List.mem_cons_self ..)))))), hs⟩, fun x hx => (how x hx).keep (fun b hb => hk b (List.mem_append.2 (Or.inr (List.mem_append.2 (Or.inr (List.mem_cons_of_mem _ (mem_bls.2 ⟨x, hx, hb⟩))))))), hnd⟩, Mv.of_only (Only.set w q 4 _) (List.mem_cons_self ..)⟩
/-- What a state's step leaves. -/
def StStep (w : World) (q : Nat) (s : List Nat) (M : List EntX) (Q : List Pt) (now : Int) (n : Nat) (w' : World) : Prop := ∃ s', StRep w' q s' M Q now n ∧ Mv w w' (q :: s) ∧ ∀ y ∈ s', y ∈ s ∨ w.heap.size ≤ y
/-- The checkpoints' row has grown by one. -/
theorem StRep.pushQ (h : StRep w q s M Q now n) {A : Option Addr} {ca mb : Nat} {B : Option Addr} {cb : Nat} (h1 : Has w q 58 #[.slice A M.length ca, .map (some mb), .slice B Q.length cb, .int .i64 now, .int .i64 (n : Int)]) {w3 : World} {p : Pt} {g cap : Nat}
    (ho : w3.ownsRow 0 35 2 (.slice (some ⟨g, 0, none⟩) (Q.length + 1) cap) (Q.length + 1) (qcs (Q ++ [p]))) (hg : w.grownBy w3 (Value.slice B Q.length cb).ownBlock) (hgb : (Value.slice B Q.length cb).ownBlock = some g ∨ w.heap.size ≤ g) :
    StStep w q s M (Q ++ [p]) now n (w3.setCell ⟨q, 2, none⟩ (.slice (some ⟨g, 0, none⟩) (Q.length + 1) cap)) := by
  have hnd := h.nd
  have how := h.own
  have hla := h.ltAll
  obtain ⟨A', ca', mb', B', cb', h1', h2, h3, h4, hs⟩ := h.ex
  have e0 : (some (Value.slice A M.length ca)) = some (Value.slice A' M.length ca') := (h1.cell 0).symm.trans (h1'.cell 0)
  have e1 : (some (Value.map (some mb))) = some (Value.map (some mb')) := (h1.cell 1).symm.trans (h1'.cell 1)
  have e2 : (some (Value.slice B Q.length cb)) = some (Value.slice B' Q.length cb') := (h1.cell 2).symm.trans (h1'.cell 2)
  injection e0 with e0; injection e0 with e0 _ e0'
  injection e1 with e1; injection e1 with e1; injection e1 with e1
  injection e2 with e2; injection e2 with e2 _ e2'
  subst e0 e0' e1 e2 e2'
  clear h1'
  have hqs := (List.nodup_cons.1 hnd).1
  have hqB : (Value.slice B Q.length cb).ownBlock ≠ some q := fun e => hqs (by rw [hs, e]; simp)
  have hqg : q ≠ g := by
    rcases hgb with e | e
    · exact fun e2 => hqB (by rw [e, e2])
    · have := h1.lt; omega
  have hkeep : ∀ b ∈ q :: s, (Value.slice B Q.length cb).ownBlock ≠ some b → w3.heap[b]? = w.heap[b]? := fun b hb hne => hg.block b (hla b hb) (fun e => hne e.symm)
  have hk3 : ∀ b ∈ s, (Value.slice B Q.length cb).ownBlock ≠ some b → (w3.setCell ⟨q, 2, none⟩ (.slice (some ⟨g, 0, none⟩) (Q.length + 1) cap)).heap[b]? = w.heap[b]? := fun b hb hne =>
    (Below.heap_setCell w3 ⟨q, 2, none⟩ _ b (fun e => hqs ((show b = q from e) ▸ hb))).trans (hkeep b (List.mem_cons_of_mem _ hb) hne)
  have hsn := (List.nodup_cons.1 hnd).2
  rw [hs] at hsn
  obtain ⟨n1, n2, n3⟩ := List.nodup_append.1 hsn
  obtain ⟨n4, n5, n6⟩ := List.nodup_append.1 n2
  have mA : ∀ b, (Value.slice A M.length ca).ownBlock = some b → b ∈ s ∧ (Value.slice B Q.length cb).ownBlock ≠ some b := fun b hb => ⟨by rw [hs]; exact List.mem_append.2 (Or.inl (Option.mem_toList.2 hb)), fun e => n3 b (Option.mem_toList.2 hb) b (List.mem_append.2 (Or.inl (Option.mem_toList.2 e))) rfl⟩
  have mR : ∀ b ∈ mb :: bls M, b ∈ s ∧ (Value.slice B Q.length cb).ownBlock ≠ some b := fun b hb => ⟨by rw [hs]; exact List.mem_append.2 (Or.inr (List.mem_append.2 (Or.inr hb))), fun e => n6 b (Option.mem_toList.2 e) b hb rfl⟩
  have hm : Mv w (w3.setCell ⟨q, 2, none⟩ (.slice (some ⟨g, 0, none⟩) (Q.length + 1) cap)) (q :: s) := (Mv.of_grown hg (fun k hk => List.mem_cons_of_mem _ (by rw [hs, hk]; simp))).trans (Mv.of_only (Only.set w3 q 2 _) (List.mem_cons_self ..))
  have hss : ∀ z ∈ [g], z ∈ (Value.slice B Q.length cb).ownBlock.toList ∨ w.heap.size ≤ z := fun z hz => by
    rw [List.mem_singleton.1 hz]
    rcases hgb with e | e
    · exact Or.inl (by rw [e]; simp)
    · exact Or.inr e
  refine ⟨(Value.slice A M.length ca).ownBlock.toList ++ ([g] ++ (mb :: bls M)), ⟨⟨A, ca, mb, some ⟨g, 0, none⟩, cap, ?_, own_keepB h2 (fun b hb => hk3 b (mA b hb).1 (mA b hb).2), ?_, h4.keep (hk3 mb (mR mb (List.mem_cons_self ..)).1 (mR mb (List.mem_cons_self ..)).2), ?_⟩, fun x hx => (how x hx).keep (fun b hb => have hbm := mR b (List.mem_cons_of_mem _ (mem_bls.2 ⟨x, hx, hb⟩)); hk3 b hbm.1 hbm.2), ?_⟩, hm, fun y hy => ?_⟩
  · rw [List.length_append, List.length_singleton]
    exact (show Has w3 q 58 _ from (hkeep q (List.mem_cons_self ..) hqB).trans h1).set 2 _
  · rw [List.length_append, List.length_singleton]
    exact own_other ho (fun e => hqg (by injection e with e; exact e.symm)) _ _
  · rw [List.length_append, List.length_singleton]; rfl
  · have e : q :: s = (q :: (Value.slice A M.length ca).ownBlock.toList) ++ ((Value.slice B Q.length cb).ownBlock.toList ++ (mb :: bls M)) := by rw [hs]; rfl
    rw [e] at hnd hla
    exact nodup_swap hnd hla (by simp) hss
  · rw [hs]
    rcases List.mem_append.1 hy with hy | hy
    · exact Or.inl (List.mem_append.2 (Or.inl hy))
    rcases List.mem_append.1 hy with hy | hy
    · rcases hss y hy with hh | hh
      · exact Or.inl (List.mem_append.2 (Or.inr (List.mem_append.2 (Or.inl hh))))
      · exact Or.inr hh
    · exact Or.inl (List.mem_append.2 (Or.inr (List.mem_append.2 (Or.inr hy))))
/-- The papers' row has grown by one, whose rows are new. -/
theorem StRep.pushP (h : StRep w q s M Q now n) {A : Option Addr} {ca mb : Nat} {B : Option Addr} {cb : Nat} (h1 : Has w q 58 #[.slice A M.length ca, .map (some mb), .slice B Q.length cb, .int .i64 now, .int .i64 (n : Int)]) {w1 W2 w3 : World} {x : EntX} {g cap : Nat}
    (hw1 : Only w w1 mb) (hsq : SeqM w1 mb (ids M ++ [x.e.id])) (hb : Below w1.heap.size w1 W2) (hx : NewX w1.heap.size W2 x)
    (ho : w3.ownsRow 0 33 7 (.slice (some ⟨g, 0, none⟩) (M.length + 1) cap) (M.length + 1) (xcs (M ++ [x]))) (hg : W2.grownBy w3 (Value.slice A M.length ca).ownBlock) (hgb : (Value.slice A M.length ca).ownBlock = some g ∨ W2.heap.size ≤ g) :
    StStep w q s (M ++ [x]) Q now n (w3.setCell ⟨q, 0, none⟩ (.slice (some ⟨g, 0, none⟩) (M.length + 1) cap)) := by
  have hnd := h.nd
  have how := h.own
  have hla := h.ltAll
  obtain ⟨A', ca', mb', B', cb', h1', h2, h3, h4, hs⟩ := h.ex
  have e0 : (some (Value.slice A M.length ca)) = some (Value.slice A' M.length ca') := (h1.cell 0).symm.trans (h1'.cell 0)
  have e1 : (some (Value.map (some mb))) = some (Value.map (some mb')) := (h1.cell 1).symm.trans (h1'.cell 1)
  have e2 : (some (Value.slice B Q.length cb)) = some (Value.slice B' Q.length cb') := (h1.cell 2).symm.trans (h1'.cell 2)
  injection e0 with e0; injection e0 with e0 _ e0'
  injection e1 with e1; injection e1 with e1; injection e1 with e1
  injection e2 with e2; injection e2 with e2 _ e2'
  subst e0 e0' e1 e2 e2'
  clear h1'
  have hqs := (List.nodup_cons.1 hnd).1
  have hsn := (List.nodup_cons.1 hnd).2
  rw [hs] at hsn
  obtain ⟨n1, n2, n3⟩ := List.nodup_append.1 hsn
  obtain ⟨n4, n5, n6⟩ := List.nodup_append.1 n2
  have n7 := (List.nodup_cons.1 n5).1
  have s1 := hw1.size
  have s2 := hb.size
  have hqA : (Value.slice A M.length ca).ownBlock ≠ some q := fun e => hqs (by rw [hs, e]; simp)
  have hqm : q ≠ mb := fun e => hqs (by rw [hs, e]; simp)
  have hqg : q ≠ g := by
    rcases hgb with e | e
    · exact fun e2 => hqA (by rw [e, e2])
    · have := h1.lt; omega
  have k2 : ∀ b, b < w1.heap.size → W2.heap[b]? = w1.heap[b]? := fun b hl => hb.block b hl
  have k1 : ∀ b ∈ q :: s, b ≠ mb → W2.heap[b]? = w.heap[b]? := fun b hm hne => (k2 b (Nat.lt_of_lt_of_le (hla b hm) s1)).trans (hw1.block b (hla b hm) (fun e => hne (by injection e)))
  have k3 : ∀ b, b < W2.heap.size → (Value.slice A M.length ca).ownBlock ≠ some b → b ≠ q → (w3.setCell ⟨q, 0, none⟩ (.slice (some ⟨g, 0, none⟩) (M.length + 1) cap)).heap[b]? = W2.heap[b]? := fun b hl hne hq =>
    (Below.heap_setCell w3 ⟨q, 0, none⟩ _ b hq).trans (hg.block b hl (fun e => hne e.symm))
  have lt2 : ∀ b ∈ q :: s, b < W2.heap.size := fun b hm => Nat.lt_of_lt_of_le (hla b hm) (Nat.le_trans s1 s2)
  have qn : ∀ b ∈ s, b ≠ q := fun b hm e => hqs (e ▸ hm)
  have mB : ∀ b, (Value.slice B Q.length cb).ownBlock = some b → b ∈ s ∧ b ≠ mb ∧ (Value.slice A M.length ca).ownBlock ≠ some b := fun b hb' => ⟨by rw [hs]; exact List.mem_append.2 (Or.inr (List.mem_append.2 (Or.inl (Option.mem_toList.2 hb')))), fun e => n6 b (Option.mem_toList.2 hb') mb (List.mem_cons_self ..) e, fun e => n3 b (Option.mem_toList.2 e) b (List.mem_append.2 (Or.inl (Option.mem_toList.2 hb'))) rfl⟩
  have mX : ∀ b ∈ bls M, b ∈ s ∧ b ≠ mb ∧ (Value.slice A M.length ca).ownBlock ≠ some b := fun b hb' => ⟨by rw [hs]; exact List.mem_append.2 (Or.inr (List.mem_append.2 (Or.inr (List.mem_cons_of_mem _ hb')))), fun e => n7 (e ▸ hb'), fun e => n3 b (Option.mem_toList.2 e) b (List.mem_append.2 (Or.inr (List.mem_cons_of_mem _ hb'))) rfl⟩
  have mM : mb ∈ s ∧ (Value.slice A M.length ca).ownBlock ≠ some mb := ⟨by rw [hs]; simp, fun e => n3 mb (Option.mem_toList.2 e) mb (List.mem_append.2 (Or.inr (List.mem_cons_self ..))) rfl⟩
  have xlo : ∀ b ∈ x.bl, w1.heap.size ≤ b ∧ b < W2.heap.size := fun b hb' => ⟨hx.lo b hb', hx.own.lt b hb'⟩
  have xA : ∀ b ∈ x.bl, (Value.slice A M.length ca).ownBlock ≠ some b := fun b hb' e => by
    have := hla b (List.mem_cons_of_mem _ (by rw [hs, e]; simp))
    have := xlo b hb'
    omega
  have hss : ∀ z ∈ [g], z ∈ (Value.slice A M.length ca).ownBlock.toList ∨ W2.heap.size ≤ z := fun z hz => by
    rw [List.mem_singleton.1 hz]
    rcases hgb with e | e
    · exact Or.inl (by rw [e]; simp)
    · exact Or.inr e
  have hgM : some g ≠ (none : Option Nat) := by simp
  refine ⟨[g] ++ ((Value.slice B Q.length cb).ownBlock.toList ++ (mb :: bls (M ++ [x]))), ⟨⟨some ⟨g, 0, none⟩, cap, mb, B, cb, ?_, ?_, ?_, ?_, ?_⟩, fun z hz => ?_, ?_⟩, ⟨?_, ?_, ?_, ?_, fun k hk hn => ?_⟩, fun y hy => ?_⟩
  · rw [List.length_append, List.length_singleton]
    exact (show Has w3 q 58 _ from (hg.block q (lt2 q (List.mem_cons_self ..)) (fun e => hqA e.symm)).trans ((k1 q (List.mem_cons_self ..) hqm).trans h1)).set 0 _
  · rw [List.length_append, List.length_singleton]
    exact own_other ho (fun e => hqg (by injection e with e; exact e.symm)) _ _
  · exact own_keepB h3 (fun b hb' => have hm := mB b hb'; (k3 b (lt2 b (List.mem_cons_of_mem _ hm.1)) hm.2.2 (qn b hm.1)).trans (k1 b (List.mem_cons_of_mem _ hm.1) hm.2.1))
  · rw [ids_append]
    exact hsq.keep ((k3 mb (lt2 mb (List.mem_cons_of_mem _ mM.1)) mM.2 (qn mb mM.1)).trans (k2 mb (Nat.lt_of_lt_of_le (hla mb (List.mem_cons_of_mem _ mM.1)) s1)))
  · rw [List.length_append, List.length_singleton]; rfl
  · rcases List.mem_append.1 hz with hz | hz
    · exact (how z hz).keep (fun b hb' => have hm := mX b (mem_bls.2 ⟨z, hz, hb'⟩); (k3 b (lt2 b (List.mem_cons_of_mem _ hm.1)) hm.2.2 (qn b hm.1)).trans (k1 b (List.mem_cons_of_mem _ hm.1) hm.2.1))
    · rw [List.mem_singleton.1 hz]
      exact hx.own.keep (fun b hb' => k3 b (xlo b hb').2 (xA b hb') (fun e => by have := (xlo b hb').1; have := h1.lt; omega))
  · rw [bls_append, bls_one]
    have e1 : (q :: s) ++ ([] ++ []) = q :: s := by simp
    have m1 := nodup_swap (B := w.heap.size) (pre := q :: s) (mid := []) (mid' := x.bl) (post := []) (by rw [e1]; exact hnd) (by rw [e1]; exact hla) hx.nd (fun z hz => Or.inr (Nat.le_trans s1 (xlo z hz).1))
    have e2 : (q :: s) ++ (x.bl ++ []) = [q] ++ ((Value.slice A M.length ca).ownBlock.toList ++ ((Value.slice B Q.length cb).ownBlock.toList ++ (mb :: (bls M ++ x.bl)))) := by rw [hs]; simp [List.append_assoc]
    rw [e2] at m1
    have m2 := nodup_swap (B := W2.heap.size) (mid' := [g]) m1 (fun z hz => by
      rw [← e2] at hz
      rcases List.mem_append.1 hz with hz | hz
      · exact lt2 z hz
      · rw [List.append_nil] at hz; exact (xlo z hz).2) (by simp) hss
    exact m2
  · exact hg.os.trans (hb.os.trans hw1.os)
  · exact hg.tape.trans (hb.tape.trans hw1.tape)
  · exact hg.output.trans (hb.output.trans hw1.output)
  · have := hg.size
    have e : (w3.setCell ⟨q, 0, none⟩ (.slice (some ⟨g, 0, none⟩) (M.length + 1) cap)).heap.size = w3.heap.size := by simp
    omega
  · have hkq : k ≠ q := fun e => hn (e ▸ List.mem_cons_self ..)
    have hkm : k ≠ mb := fun e => hn (e ▸ List.mem_cons_of_mem _ mM.1)
    have hkA : (Value.slice A M.length ca).ownBlock ≠ some k := fun e => hn (List.mem_cons_of_mem _ (by rw [hs, e]; simp))
    exact (k3 k (by omega) hkA hkq).trans ((k2 k (by omega)).trans (hw1.block k hk (fun e => hkm (by injection e))))
  · rw [hs]
    rcases List.mem_append.1 hy with hy | hy
    · rcases hss y hy with hh | hh
      · exact Or.inl (List.mem_append.2 (Or.inl hh))
      · exact Or.inr (by omega)
    rcases List.mem_append.1 hy with hy | hy
    · exact Or.inl (List.mem_append.2 (Or.inr (List.mem_append.2 (Or.inl hy))))
    rcases List.mem_cons.1 hy with rfl | hy
    · exact Or.inl (by simp)
    · rw [bls_append, bls_one] at hy
      rcases List.mem_append.1 hy with hy | hy
      · exact Or.inl (List.mem_append.2 (Or.inr (List.mem_append.2 (Or.inr (List.mem_cons_of_mem _ hy)))))
      · exact Or.inr (by have := (xlo y hy).1; omega)
/-- A paper has turned. -/
theorem StRep.turn (h : StRep w q s M Q now n) {ca mb be : Nat} {B : Option Addr} {cb : Nat} (h1 : Has w q 58 #[.slice (some ⟨be, 0, none⟩) M.length ca, .map (some mb), .slice B Q.length cb, .int .i64 now, .int .i64 (n : Int)]) {w' : World} {k : Nat} (hk : k < M.length) {y : EntX} (hid : y.e.id = M[k].e.id)
    (hm : Mv w w' (be :: M[k].bl)) (ho : w'.ownsRow 0 33 7 (.slice (some ⟨be, 0, none⟩) M.length ca) M.length (xcs (M.set k y))) (hy : OwnX w' y) (hyn : y.bl.Nodup) (hyb : ∀ z ∈ y.bl, z ∈ M[k].bl ∨ w.heap.size ≤ z) :
    StStep w q s (M.set k y) Q now n w' := by
  have hnd := h.nd
  have how := h.own
  have hla := h.ltAll
  obtain ⟨A', ca', mb', B', cb', h1', h2, h3, h4, hs⟩ := h.ex
  have e0 : (some (Value.slice (some ⟨be, 0, none⟩) M.length ca)) = some (Value.slice A' M.length ca') := (h1.cell 0).symm.trans (h1'.cell 0)
  have e1 : (some (Value.map (some mb))) = some (Value.map (some mb')) := (h1.cell 1).symm.trans (h1'.cell 1)
  have e2 : (some (Value.slice B Q.length cb)) = some (Value.slice B' Q.length cb') := (h1.cell 2).symm.trans (h1'.cell 2)
  injection e0 with e0; injection e0 with e0 _ e0'
  injection e1 with e1; injection e1 with e1; injection e1 with e1
  injection e2 with e2; injection e2 with e2 _ e2'
  subst e0 e0' e1 e2 e2'
  clear h1'
  have hA : (Value.slice (some ⟨be, 0, none⟩) M.length ca).ownBlock.toList = [be] := rfl
  rw [hA] at hs
  have hbM : bls M = bls (M.take k) ++ (M[k].bl ++ bls (M.drop (k + 1))) := by
    conv => lhs; rw [self_parts hk]
    rw [bls_append, bls_append, bls_one]
  have hbS : bls (M.set k y) = bls (M.take k) ++ (y.bl ++ bls (M.drop (k + 1))) := by rw [set_parts hk, bls_append, bls_append, bls_one]
  have hall : q :: s = ([q, be] ++ ((Value.slice B Q.length cb).ownBlock.toList ++ (mb :: bls (M.take k)))) ++ (M[k].bl ++ bls (M.drop (k + 1))) := by rw [hs, hbM]; simp [List.append_assoc]
  have hnd2 := hnd
  rw [hall] at hnd2
  obtain ⟨n1, n2, n3⟩ := List.nodup_append.1 hnd2
  obtain ⟨n4, n5, n6⟩ := List.nodup_append.1 n2
  obtain ⟨n7, n8, n9⟩ := List.nodup_append.1 n1
  have keep : ∀ b ∈ q :: s, b ≠ be → b ∉ M[k].bl → w'.heap[b]? = w.heap[b]? := fun b hb hne hn => hm.block b (hla b hb) (fun hx => by
    rcases List.mem_cons.1 hx with e | e
    · exact hne e
    · exact hn e)
  have inS : ∀ b ∈ s, b ∈ q :: s := fun b hb => List.mem_cons_of_mem _ hb
  have preN : ∀ b ∈ [q, be] ++ ((Value.slice B Q.length cb).ownBlock.toList ++ (mb :: bls (M.take k))), b ∉ M[k].bl := fun b hb hx => n3 b hb b (List.mem_append.2 (Or.inl hx)) rfl
  have beN : ∀ b ∈ (Value.slice B Q.length cb).ownBlock.toList ++ (mb :: bls (M.take k)), b ≠ be := fun b hb e => n9 be (by simp) b hb e.symm
  have hqbe : q ≠ be := by
    have := n7
    simp at this
    exact this
  have kPre : ∀ b ∈ (Value.slice B Q.length cb).ownBlock.toList ++ (mb :: bls (M.take k)), w'.heap[b]? = w.heap[b]? := fun b hb => keep b (by rw [hall]; exact List.mem_append.2 (Or.inl (List.mem_append.2 (Or.inr hb)))) (beN b hb) (preN b (List.mem_append.2 (Or.inr hb)))
  have kPost : ∀ b ∈ bls (M.drop (k + 1)), w'.heap[b]? = w.heap[b]? := fun b hb => keep b (by rw [hall]; exact List.mem_append.2 (Or.inr (List.mem_append.2 (Or.inr hb)))) (fun e => n3 be (List.mem_append.2 (Or.inl (by simp))) b (List.mem_append.2 (Or.inr hb)) e.symm) (fun hx => n6 b hx b hb rfl)
  refine ⟨[be] ++ ((Value.slice B Q.length cb).ownBlock.toList ++ (mb :: bls (M.set k y))), ⟨⟨some ⟨be, 0, none⟩, ca, mb, B, cb, ?_, ?_, ?_, ?_, ?_⟩, fun z hz => ?_, ?_⟩, hm.wide (fun z hz => ?_), fun z hz => ?_⟩
  · rw [List.length_set]
    exact (keep q (List.mem_cons_self ..) hqbe (preN q (by simp))).trans h1
  · rw [List.length_set]; exact ho
  · exact own_keepB h3 (fun b hb => kPre b (List.mem_append.2 (Or.inl (Option.mem_toList.2 hb))))
  · rw [ids_set hk y hid]
    exact h4.keep (kPre mb (List.mem_append.2 (Or.inr (List.mem_cons_self ..))))
  · rw [List.length_set]; rfl
  · rw [set_parts hk] at hz
    rcases List.mem_append.1 hz with hz | hz
    · exact (how z (List.mem_of_mem_take hz)).keep (fun b hb => kPre b (List.mem_append.2 (Or.inr (List.mem_cons_of_mem _ (mem_bls.2 ⟨z, hz, hb⟩)))))
    rcases List.mem_append.1 hz with hz | hz
    · rw [List.mem_singleton.1 hz]; exact hy
    · exact (how z (List.mem_of_mem_drop hz)).keep (fun b hb => kPost b (mem_bls.2 ⟨z, hz, hb⟩))
  · have m := nodup_swap (mid' := y.bl) hnd2 (by rw [← hall]; exact hla) hyn hyb
    rw [hbS]
    have e : q :: ([be] ++ ((Value.slice B Q.length cb).ownBlock.toList ++ (mb :: (bls (M.take k) ++ (y.bl ++ bls (M.drop (k + 1))))))) = ([q, be] ++ ((Value.slice B Q.length cb).ownBlock.toList ++ (mb :: bls (M.take k)))) ++ (y.bl ++ bls (M.drop (k + 1))) := by simp [List.append_assoc]
    rw [e]
    exact m
  · rw [hall]
    rcases List.mem_cons.1 hz with rfl | hz
    · simp
    · exact List.mem_append.2 (Or.inr (List.mem_append.2 (Or.inl hz)))
  · rw [hs, hbM]
    rw [hbS] at hz
    rcases List.mem_append.1 hz with hz | hz
    · exact Or.inl (List.mem_append.2 (Or.inl hz))
    rcases List.mem_append.1 hz with hz | hz
    · exact Or.inl (List.mem_append.2 (Or.inr (List.mem_append.2 (Or.inl hz))))
    rcases List.mem_cons.1 hz with rfl | hz
    · exact Or.inl (by simp)
    rcases List.mem_append.1 hz with hz | hz
    · exact Or.inl (List.mem_append.2 (Or.inr (List.mem_append.2 (Or.inr (List.mem_cons_of_mem _ (List.mem_append.2 (Or.inl hz)))))))
    rcases List.mem_append.1 hz with hz | hz
    · rcases hyb z hz with hh | hh
      · exact Or.inl (List.mem_append.2 (Or.inr (List.mem_append.2 (Or.inr (List.mem_cons_of_mem _ (List.mem_append.2 (Or.inr (List.mem_append.2 (Or.inl hh)))))))))
      · exact Or.inr hh
    · exact Or.inl (List.mem_append.2 (Or.inr (List.mem_append.2 (Or.inr (List.mem_cons_of_mem _ (List.mem_append.2 (Or.inr (List.mem_append.2 (Or.inr hz)))))))))
end
end Go.Proofs.Ytojemaaljjibiaa

namespace Go.Proofs.Ytojemaaljjibiaa
open Go.RowKit
set_option linter.unusedVariables false

theorem StStep.trans {w w1 w2 : World} {q : Nat} {s : List Nat} {M1 : List EntX} {Q1 : List Pt} {now1 : Int} {n1 : Nat} {M2 : List EntX} {Q2 : List Pt} {now2 : Int} {n2 : Nat} (h1 : StStep w q s M1 Q1 now1 n1 w1) (h2 : ∀ s', StRep w1 q s' M1 Q1 now1 n1 → StStep w1 q s' M2 Q2 now2 n2 w2) : StStep w q s M2 Q2 now2 n2 w2 := by
  obtain ⟨s1, r1, m1, c1⟩ := h1
  obtain ⟨s2, r2, m2, c2⟩ := h2 s1 r1
  refine ⟨s2, r2, ⟨m2.os.trans m1.os, m2.tape.trans m1.tape, m2.output.trans m1.output, Nat.le_trans m1.size m2.size, fun k hk hn => (m2.block k (Nat.lt_of_lt_of_le hk m1.size) (fun hx => ?_)).trans (m1.block k hk hn)⟩, fun y hy => ?_⟩
  · rcases List.mem_cons.1 hx with rfl | hx
    · exact hn (List.mem_cons_self ..)
    · rcases c1 k hx with hh | hh
      · exact hn (List.mem_cons_of_mem _ hh)
      · omega
  · rcases c2 y hy with hh | hh
    · exact c1 y hh
    · exact Or.inr (Nat.le_trans m1.size hh)
theorem StStep.below {w w1 : World} {q : Nat} {s : List Nat} {M : List EntX} {Q : List Pt} {now : Int} {n : Nat} (h : StRep w q s M Q now n) (hb : Below w.heap.size w w1) : StStep w q s M Q now n w1 := ⟨s, h.keep (fun b hb' => hb.block b (h.ltAll b hb')), Mv.of_below hb _, fun y hy => Or.inl hy⟩
theorem StRep.mid {w w1 : World} {q : Nat} {s : List Nat} {M : List EntX} {Q : List Pt} {now : Int} {n : Nat} (h : StRep w q s M Q now n) (hb : Below w.heap.size w w1) : StRep w1 q s M Q now n := h.keep (fun b hb' => hb.block b (h.ltAll b hb'))
theorem StStep.from {w w1 w2 : World} {q : Nat} {s : List Nat} {M : List EntX} {Q : List Pt} {now : Int} {n : Nat} (hb : Below w.heap.size w w1) (h : StStep w1 q s M Q now n w2) : StStep w q s M Q now n w2 := by
  obtain ⟨s', r, m, c⟩ := h
  exact ⟨s', r, (Mv.of_below hb _).trans m, fun y hy => (c y hy).imp (fun h => h) (fun h => Nat.le_trans hb.size h)⟩
theorem xcs_set_same {M : List EntX} {k : Nat} (hk : k < M.length) {y : EntX} (hy : y.cs = M[k].cs) : xcs (M.set k y) = xcs M := by
  conv => rhs; rw [self_parts hk]
  rw [set_parts hk]
  unfold xcs
  simp only [List.flatMap_append, List.flatMap_singleton, hy]
theorem own_any (A : Option Addr) (n c m d : Nat) : (Value.slice A n c).ownBlock = (Value.slice A m d).ownBlock := by cases A <;> rfl
theorem bl_eq {x y : EntX} (h1 : x.A = y.A) (h2 : x.B = y.B) : x.bl = y.bl := by
  unfold EntX.bl
  rw [h1, h2, own_any y.A _ _ y.e.L.length y.ca, own_any y.B _ _ y.e.H.length y.cb]
/-- A row of one's own, its block. -/
theorem ownS_has {w : World} {B e n k : Nat} {A : Option Addr} {c : Nat} {xs : List Value} (h : w.ownsRow B e n (.slice A k c) k xs) (hk : k ≠ 0) : ∃ (b : Nat) (cur : Array Value), A = some ⟨b, 0, none⟩ ∧ Has w b e cur ∧ ∀ (j : Nat) (u : Value), xs[j]? = some u → cur[j]? = some u := by
  rcases h.2 with ⟨_, e2⟩ | ⟨g, cap, cur, e1, _, hg, _, _, _, ht⟩
  · exact absurd e2 hk
  · injection e1 with e1 _ _
    refine ⟨g, cur, e1, hg, fun j u hu => ?_⟩
    rw [← ht, List.getElem?_take] at hu
    split at hu
    · rw [← Array.getElem?_toList]; exact hu
    · cases hu
/-- In a row of slips one is erased. -/
theorem own_erase {w : World} {b c : Nat} {K : List Slp} (h : w.ownsRow 0 51 4 (.slice (some ⟨b, 0, none⟩) K.length c) K.length (svs K)) (i : Nat) (hi : i < K.length) :
    ((w.setCell ⟨b, i * 4 + 3, none⟩ (.bool true)).setCell ⟨b, i * 4 + 2, none⟩ (.string (S []))).ownsRow 0 51 4 (.slice (some ⟨b, 0, none⟩) K.length c) K.length (svs (K.set i (Sta.gonE K[i]))) := by
  have h1 := own_set h (i * 4 + 3) (by omega) (.bool true)
  have e1 : svs (K.set i ⟨K[i].n, K[i].p, K[i].c, true⟩) = (svs K).set (i * 4 + 3) (.bool true) := flat_set Slp.cs 4 Slp.cs_len K i hi ⟨K[i].n, K[i].p, K[i].c, true⟩ 3 (by omega) _ rfl
  have h2 := own_set h1 (i * 4 + 2) (by omega) (.string (S []))
  rw [← e1] at h2
  have e2 : svs ((K.set i ⟨K[i].n, K[i].p, K[i].c, true⟩).set i (Sta.gonE K[i])) = (svs (K.set i ⟨K[i].n, K[i].p, K[i].c, true⟩)).set (i * 4 + 2) (.string (S [])) := flat_set Slp.cs 4 Slp.cs_len _ i (by rw [List.length_set]; exact hi) (Sta.gonE K[i]) 2 (by omega) _ (by rw [List.getElem_set_self]; rfl)
  rw [← e2, List.set_set] at h2
  exact h2
section
variable {w : World} {q : Nat} {s : List Nat} {M : List EntX} {Q : List Pt} {now : Int} {n : Nat}
/-- A paper's rows lie in blocks of the state's, apart from one another and from the papers' row. -/
theorem StRep.apart (h : StRep w q s M Q now n) {ca mb be : Nat} {B : Option Addr} {cb : Nat} (h1 : Has w q 58 #[.slice (some ⟨be, 0, none⟩) M.length ca, .map (some mb), .slice B Q.length cb, .int .i64 now, .int .i64 (n : Int)]) {k : Nat} (hk : k < M.length) : be ∉ M[k].bl ∧ M[k].bl.Nodup ∧ q ∉ be :: M[k].bl ∧ be < w.heap.size := by
  have hnd := h.nd
  have hla := h.ltAll
  obtain ⟨A', ca', mb', B', cb', h1', h2, h3, h4, hs⟩ := h.ex
  have e0 : (some (Value.slice (some ⟨be, 0, none⟩) M.length ca)) = some (Value.slice A' M.length ca') := (h1.cell 0).symm.trans (h1'.cell 0)
  injection e0 with e0; injection e0 with e0 _ e0'
  subst e0 e0'
  have hbM : bls M = bls (M.take k) ++ (M[k].bl ++ bls (M.drop (k + 1))) := by
    conv => lhs; rw [self_parts hk]
    rw [bls_append, bls_append, bls_one]
  have hall : q :: s = q :: (be :: ((Value.slice B' Q.length cb').ownBlock.toList ++ (mb' :: bls (M.take k)) ++ (M[k].bl ++ bls (M.drop (k + 1))))) := by rw [hs, hbM]; simp [List.append_assoc, Value.ownBlock]
  rw [hall] at hnd hla
  obtain ⟨a1, a2⟩ := List.nodup_cons.1 hnd
  obtain ⟨a3, a4⟩ := List.nodup_cons.1 a2
  obtain ⟨_, a5, _⟩ := List.nodup_append.1 a4
  obtain ⟨a6, _, _⟩ := List.nodup_append.1 a5
  refine ⟨fun hx => a3 (List.mem_append.2 (Or.inr (List.mem_append.2 (Or.inl hx)))), a6, fun hx => a1 ?_, hla be (by simp)⟩
  rcases List.mem_cons.1 hx with e | hx
  · rw [e]; exact List.mem_cons_self ..
  · exact List.mem_cons_of_mem _ (List.mem_append.2 (Or.inr (List.mem_append.2 (Or.inl hx))))
/-- The papers' own row, at the block that the state names. -/
theorem StRep.rowX (h : StRep w q s M Q now n) {ca mb : Nat} {A B : Option Addr} {cb : Nat} (h1 : Has w q 58 #[.slice A M.length ca, .map (some mb), .slice B Q.length cb, .int .i64 now, .int .i64 (n : Int)]) : w.ownsRow 0 33 7 (.slice A M.length ca) M.length (xcs M) := by
  obtain ⟨A', ca', mb', B', cb', h1', h2, _⟩ := h.ex
  have e0 : (some (Value.slice A M.length ca)) = some (Value.slice A' M.length ca') := (h1.cell 0).symm.trans (h1'.cell 0)
  injection e0 with e0; injection e0 with e0 _ e0'
  subst e0 e0'
  exact h2
/-- One slip of a paper is erased. -/
theorem StRep.eraseAt (h : StRep w q s M Q now n) {ca mb be : Nat} {B : Option Addr} {cb : Nat} (h1 : Has w q 58 #[.slice (some ⟨be, 0, none⟩) M.length ca, .map (some mb), .slice B Q.length cb, .int .i64 now, .int .i64 (n : Int)]) {k : Nat} (hk : k < M.length) {i : Nat} (hi : i < M[k].e.L.length) :
    ∃ (b : Nat) (cur : Array Value), M[k].A = some ⟨b, 0, none⟩ ∧ Has w b 51 cur ∧ cur[i * 4 + 2]? = some (.string (S M[k].e.L[i].c)) ∧ cur[i * 4 + 3]? = some (.bool M[k].e.L[i].e) ∧ b < w.heap.size ∧ b ∈ s ∧ b ≠ be ∧ b ≠ q ∧
      StStep w q s (M.set k ⟨{ M[k].e with L := M[k].e.L.set i (Sta.gonE M[k].e.L[i]) }, M[k].A, M[k].ca, M[k].B, M[k].cb⟩) Q now n ((w.setCell ⟨b, i * 4 + 3, none⟩ (.bool true)).setCell ⟨b, i * 4 + 2, none⟩ (.string (S []))) := by
  obtain ⟨ap1, ap2, ap3, ap4⟩ := h.apart h1 hk
  have hox := h.own M[k] (List.getElem_mem hk)
  obtain ⟨b, cur, hA, hH, hc⟩ := ownS_has hox.l (by omega)
  have hbl : b ∈ M[k].bl := by unfold EntX.bl; rw [hA]; simp [Value.ownBlock]
  have hbs : b ∈ s := by
    obtain ⟨A', ca', mb', B', cb', _, _, _, _, hs⟩ := h.ex
    rw [hs]
    exact List.mem_append.2 (Or.inr (List.mem_append.2 (Or.inr (List.mem_cons_of_mem _ (mem_bls.2 ⟨M[k], List.getElem_mem hk, hbl⟩)))))
  have hg := fun j (hj : j < 4) => flat_get Slp.cs 4 Slp.cs_len M[k].e.L i hi j hj
  have hbe : b ≠ be := fun e => ap1 (e ▸ hbl)
  have hbq : b ≠ q := fun e => ap3 (e ▸ List.mem_cons_of_mem _ hbl)
  have hon : Only w ((w.setCell ⟨b, i * 4 + 3, none⟩ (.bool true)).setCell ⟨b, i * 4 + 2, none⟩ (.string (S []))) b := (Only.set w b (i * 4 + 3) _).trans (Only.set _ b (i * 4 + 2) _)
  refine ⟨b, cur, hA, hH, hc _ _ ((hg 2 (by omega)).trans rfl), hc _ _ ((hg 3 (by omega)).trans rfl), hH.lt, hbs, hbe, hbq, ?_⟩
  have hlen : (M[k].e.L.set i (Sta.gonE M[k].e.L[i])).length = M[k].e.L.length := List.length_set
  have hox2 : OwnX ((w.setCell ⟨b, i * 4 + 3, none⟩ (.bool true)).setCell ⟨b, i * 4 + 2, none⟩ (.string (S []))) ⟨{ M[k].e with L := M[k].e.L.set i (Sta.gonE M[k].e.L[i]) }, M[k].A, M[k].ca, M[k].B, M[k].cb⟩ := by
    refine ⟨?_, ?_⟩
    · have hl := hox.l
      rw [hA] at hl
      have := own_erase hl i hi
      dsimp only
      rw [hlen, hA]
      exact this
    · refine own_keepB hox.h (fun g hgb => hon.block g (hox.h.lt g hgb).2 (fun e => ?_))
      injection e with e
      have hnd := ap2
      unfold EntX.bl at hnd
      obtain ⟨_, _, n3⟩ := List.nodup_append.1 hnd
      exact n3 b (by rw [hA]; simp [Value.ownBlock]) g (Option.mem_toList.2 hgb) e.symm
  have hbl2 : EntX.bl ⟨{ M[k].e with L := M[k].e.L.set i (Sta.gonE M[k].e.L[i]) }, M[k].A, M[k].ca, M[k].B, M[k].cb⟩ = M[k].bl := bl_eq rfl rfl
  refine h.turn h1 hk (y := ⟨{ M[k].e with L := M[k].e.L.set i (Sta.gonE M[k].e.L[i]) }, M[k].A, M[k].ca, M[k].B, M[k].cb⟩) rfl (Mv.of_only hon (List.mem_cons_of_mem _ hbl)) ?_ hox2 ?_ ?_
  · rw [xcs_set_same hk (by show Ent.cs _ _ _ _ _ = Ent.cs _ _ _ _ _; unfold Ent.cs; dsimp only; rw [hlen])]
    exact own_keepB (h.rowX h1) (fun g hgb => hon.block g ((h.rowX h1).lt g hgb).2 (fun e => by
      injection e with e
      simp [Value.ownBlock] at hgb
      exact hbe (by rw [← e, ← hgb])))
  · rw [hbl2]; exact ap2
  · rw [hbl2]; exact fun z hz => Or.inl hz
/-- A paper's cell is written: the papers' row. -/
theorem StRep.rowSet (h : StRep w q s M Q now n) {ca mb be : Nat} {B : Option Addr} {cb : Nat} (h1 : Has w q 58 #[.slice (some ⟨be, 0, none⟩) M.length ca, .map (some mb), .slice B Q.length cb, .int .i64 now, .int .i64 (n : Int)]) {k : Nat} (hk : k < M.length) {w1 : World} (hm : Mv w w1 M[k].bl) (j : Nat) (hj : j < 7) (u : Value) {y : EntX} (hy : y.cs = M[k].cs.set j u) :
    (w1.setCell ⟨be, k * 7 + j, none⟩ u).ownsRow 0 33 7 (.slice (some ⟨be, 0, none⟩) M.length ca) M.length (xcs (M.set k y)) := by
  obtain ⟨ap1, ap2, ap3, ap4⟩ := h.apart h1 hk
  have hr : w1.ownsRow 0 33 7 (.slice (some ⟨be, 0, none⟩) M.length ca) M.length (xcs M) := own_keepB (h.rowX h1) (fun g hg => hm.block g ((h.rowX h1).lt g hg).2 (fun hx => by
    have e : be = g := by simpa [Value.ownBlock] using hg
    exact ap1 (e ▸ hx)))
  have e1 : xcs (M.set k y) = (xcs M).set (k * 7 + j) u := flat_set EntX.cs 7 EntX.cs_len M k hk y j hj u hy
  rw [e1]
  exact own_set hr (k * 7 + j) (by omega) u
theorem StRep.setGone (h : StRep w q s M Q now n) {ca mb be : Nat} {B : Option Addr} {cb : Nat} (h1 : Has w q 58 #[.slice (some ⟨be, 0, none⟩) M.length ca, .map (some mb), .slice B Q.length cb, .int .i64 now, .int .i64 (n : Int)]) {k : Nat} (hk : k < M.length) :
    StStep w q s (M.set k ⟨{ M[k].e with gone := true }, M[k].A, M[k].ca, M[k].B, M[k].cb⟩) Q now n (w.setCell ⟨be, k * 7 + 5, none⟩ (.bool true)) := by
  obtain ⟨ap1, ap2, ap3, ap4⟩ := h.apart h1 hk
  have hox := h.own M[k] (List.getElem_mem hk)
  have hbl2 : EntX.bl ⟨{ M[k].e with gone := true }, M[k].A, M[k].ca, M[k].B, M[k].cb⟩ = M[k].bl := bl_eq rfl rfl
  refine h.turn h1 hk (y := ⟨{ M[k].e with gone := true }, M[k].A, M[k].ca, M[k].B, M[k].cb⟩) rfl (Mv.of_only (Only.set w be (k * 7 + 5) _) (List.mem_cons_self ..)) (h.rowSet h1 hk (Mv.refl w _) 5 (by omega) _ rfl) ?_ (by rw [hbl2]; exact ap2) (by rw [hbl2]; exact fun z hz => Or.inl hz)
  have hk2 : ∀ b ∈ M[k].bl, (w.setCell ⟨be, k * 7 + 5, none⟩ (.bool true)).heap[b]? = w.heap[b]? := fun b hb => Below.heap_setCell w ⟨be, k * 7 + 5, none⟩ _ b (fun e => ap1 ((show b = be from e) ▸ hb))
  have := hox.keep hk2
  exact ⟨this.l, this.h⟩
/-- The names by which a paper is held have turned. -/
theorem StRep.turnH (h : StRep w q s M Q now n) {ca mb be : Nat} {B : Option Addr} {cb : Nat} (h1 : Has w q 58 #[.slice (some ⟨be, 0, none⟩) M.length ca, .map (some mb), .slice B Q.length cb, .int .i64 now, .int .i64 (n : Int)]) {k : Nat} (hk : k < M.length) {w1 : World} {H2 : List (List UInt8)} {B2 : Option Addr} {cb2 : Nat}
    (hg : w.grownBy w1 (Value.slice M[k].B M[k].e.H.length M[k].cb).ownBlock) (ho : w1.ownsRow 0 9 1 (.slice B2 H2.length cb2) H2.length (tvs H2)) (hb : ∀ g, (Value.slice B2 H2.length cb2).ownBlock = some g → (Value.slice M[k].B M[k].e.H.length M[k].cb).ownBlock = some g ∨ w.heap.size ≤ g) :
    StStep w q s (M.set k ⟨{ M[k].e with H := H2 }, M[k].A, M[k].ca, B2, cb2⟩) Q now n (w1.setCell ⟨be, k * 7 + 6, none⟩ (.slice B2 H2.length cb2)) := by
  obtain ⟨ap1, ap2, ap3, ap4⟩ := h.apart h1 hk
  have hox := h.own M[k] (List.getElem_mem hk)
  have hapd := ap2
  unfold EntX.bl at hapd
  obtain ⟨d1, d2, d3⟩ := List.nodup_append.1 hapd
  have hBm : ∀ j, (Value.slice M[k].B M[k].e.H.length M[k].cb).ownBlock = some j → j ∈ M[k].bl := fun j hj => by unfold EntX.bl; exact List.mem_append.2 (Or.inr (Option.mem_toList.2 hj))
  have hmw : Mv w w1 M[k].bl := Mv.of_grown hg hBm
  have hne : ∀ g, (Value.slice B2 H2.length cb2).ownBlock = some g → g ≠ be := fun g hg2 e => by
    rcases hb g hg2 with hh | hh
    · exact ap1 (e ▸ hBm g hh)
    · omega
  refine h.turn h1 hk (y := ⟨{ M[k].e with H := H2 }, M[k].A, M[k].ca, B2, cb2⟩) rfl ?_ (h.rowSet h1 hk hmw 6 (by omega) _ rfl) ⟨?_, ?_⟩ ?_ ?_
  · exact (hmw.wide (fun z hz => List.mem_cons_of_mem _ hz)).trans (Mv.of_only (Only.set w1 be (k * 7 + 6) _) (List.mem_cons_self ..))
  · refine own_keepB hox.l (fun g hgl => (Below.heap_setCell w1 ⟨be, k * 7 + 6, none⟩ _ g (fun e => ?_)).trans (hg.block g (hox.l.lt g hgl).2 (fun e => ?_)))
    · exact ap1 ((show g = be from e) ▸ (by unfold EntX.bl; exact List.mem_append.2 (Or.inl (Option.mem_toList.2 hgl))))
    · exact d3 g (Option.mem_toList.2 hgl) g (Option.mem_toList.2 e.symm) rfl
  · exact own_keepB ho (fun g hg2 => Below.heap_setCell w1 ⟨be, k * 7 + 6, none⟩ _ g (fun e => hne g hg2 e))
  · unfold EntX.bl
    refine List.nodup_append.2 ⟨d1, ?_, fun a ha b hb2 e => ?_⟩
    · cases (Value.slice B2 H2.length cb2).ownBlock <;> simp
    · subst e
      rcases hb a (Option.mem_toList.1 hb2) with hh | hh
      · exact d3 a ha a (Option.mem_toList.2 hh) rfl
      · have := (hox.l.lt a (Option.mem_toList.1 ha)).2
        omega
  · intro z hz
    unfold EntX.bl at hz
    rcases List.mem_append.1 hz with hz | hz
    · exact Or.inl (by unfold EntX.bl; exact List.mem_append.2 (Or.inl hz))
    · rcases hb z (Option.mem_toList.1 hz) with hh | hh
      · exact Or.inl (hBm z hh)
      · exact Or.inr hh
theorem StRep.turnH0 (h : StRep w q s M Q now n) {ca mb be : Nat} {B : Option Addr} {cb : Nat} (h1 : Has w q 58 #[.slice (some ⟨be, 0, none⟩) M.length ca, .map (some mb), .slice B Q.length cb, .int .i64 now, .int .i64 (n : Int)]) {k : Nat} (hk : k < M.length) {w1 : World} {H2 : List (List UInt8)} (hl : H2.length = M[k].e.H.length)
    (hg : w.grownBy w1 (Value.slice M[k].B M[k].e.H.length M[k].cb).ownBlock) (ho : w1.ownsRow 0 9 1 (.slice M[k].B M[k].e.H.length M[k].cb) M[k].e.H.length (tvs H2)) :
    StStep w q s (M.set k ⟨{ M[k].e with H := H2 }, M[k].A, M[k].ca, M[k].B, M[k].cb⟩) Q now n w1 := by
  obtain ⟨ap1, ap2, ap3, ap4⟩ := h.apart h1 hk
  have hox := h.own M[k] (List.getElem_mem hk)
  have hapd := ap2
  unfold EntX.bl at hapd
  obtain ⟨d1, d2, d3⟩ := List.nodup_append.1 hapd
  have hbl2 : EntX.bl ⟨{ M[k].e with H := H2 }, M[k].A, M[k].ca, M[k].B, M[k].cb⟩ = M[k].bl := bl_eq rfl rfl
  have hBm : ∀ j, (Value.slice M[k].B M[k].e.H.length M[k].cb).ownBlock = some j → j ∈ M[k].bl := fun j hj => by unfold EntX.bl; exact List.mem_append.2 (Or.inr (Option.mem_toList.2 hj))
  have hmw : Mv w w1 M[k].bl := Mv.of_grown hg hBm
  refine h.turn h1 hk (y := ⟨{ M[k].e with H := H2 }, M[k].A, M[k].ca, M[k].B, M[k].cb⟩) rfl (hmw.wide (fun z hz => List.mem_cons_of_mem _ hz)) ?_ ⟨?_, ?_⟩ (by rw [hbl2]; exact ap2) (by rw [hbl2]; exact fun z hz => Or.inl hz)
  · rw [xcs_set_same hk (by show Ent.cs _ _ _ _ _ = Ent.cs _ _ _ _ _; unfold Ent.cs; dsimp only; rw [hl])]
    exact own_keepB (h.rowX h1) (fun g hgb => hmw.block g ((h.rowX h1).lt g hgb).2 (fun hx => by
      have e : be = g := by simpa [Value.ownBlock] using hgb
      exact ap1 (e ▸ hx)))
  · exact own_keepB hox.l (fun g hgl => hg.block g (hox.l.lt g hgl).2 (fun e => d3 g (Option.mem_toList.2 hgl) g (Option.mem_toList.2 e.symm) rfl))
  · dsimp only
    rw [hl]
    exact ho
end
theorem erase_any {w : World} {b o : Nat} {T : TypeId} {cs : Array Value} (h : Has w b T cs) {x : List UInt8} {e : Bool} (h2 : cs[o + 2]? = some (.string (S x))) (h3 : cs[o + 3]? = some (.bool e)) :
    Calls Try.prog 61 #[.pointer (some ⟨b, o, none⟩)] w fun r w' => r = .returned (.tuple #[]) ∧ w' = (w.setCell ⟨b, o + 3, none⟩ (.bool true)).setCell ⟨b, o + 2, none⟩ (.string (S [])) := by
  have c2 := (h.cell (o + 2)).trans h2
  have c3 := (h.cell (o + 3)).trans h3
  have f2 := h.free (o + 2)
  have f3 := h.free (o + 3)
  clear h h2 h3
  go_enter Try.func61, Try.ntmps61
  go_wp2_with fail
  go_returns
  exact ⟨rfl, rfl⟩
end Go.Proofs.Ytojemaaljjibiaa

namespace Go.Proofs.Ytojemaaljjibiaa
open Go.RowKit
set_option linter.unusedVariables false

section
variable {w : World} {q : Nat} {s : List Nat} {M : List EntX} {Q : List Pt} {now : Int} {n : Nat}
theorem StRep.xat (h : StRep w q s M Q now n) {ca0 mb be : Nat} {B0 : Option Addr} {cb0 : Nat} (h1 : Has w q 58 #[.slice (some ⟨be, 0, none⟩) M.length ca0, .map (some mb), .slice B0 Q.length cb0, .int .i64 now, .int .i64 (n : Int)]) {k : Nat} (hk : k < M.length) : XAt w be (k * 7) M[k] := by
  obtain ⟨_, r⟩ := ownS_reads (h.rowX h1)
  obtain ⟨b, hA, _, _, hr⟩ := r (by omega)
  injection hA with hA
  injection hA with hA
  subst hA
  have := XAt.of (W := w) (b := be) (o := 0) (x := M[k]) (k := k) (fun j hj => flat_get EntX.cs 7 EntX.cs_len M k hk j hj) (fun j u hu => by rw [Nat.zero_add]; exact hr j u hu)
  rwa [Nat.zero_add] at this
/-- What change reads ahead of an erasure. -/
abbrev ChS (be k b0 b ll ca : Nat) (idx : Int) (W : World) : Prop := W.cell? ⟨be, k * 7 + 4, none⟩ = some (.slice (some ⟨b, 0, none⟩) ll ca) ∧ W.cell? ⟨b0, 9, none⟩ = some (.int .i64 idx)
set_option maxRecDepth 100000 in
set_option maxHeartbeats 8000000 in
theorem change2_any (h : StRep w q s M Q now n) {ca0 mb be : Nat} {B0 : Option Addr} {cb0 : Nat} (h1 : Has w q 58 #[.slice (some ⟨be, 0, none⟩) M.length ca0, .map (some mb), .slice B0 Q.length cb0, .int .i64 now, .int .i64 (n : Int)]) {k : Nat} (hk : k < M.length) {i : Nat} (hi : i < M[k].e.L.length) {v : Evt} (hv : v.kind = 2) (hx : v.idx = (i : Int)) (A : Option Addr) (ca : Nat) (B : Option Addr) (cb : Nat) :
    Calls Try.prog 41 #[.pointer (some ⟨be, k * 7, none⟩), v.val A ca B cb] w fun r w' => r = .returned (.tuple #[]) ∧ StStep w q s (M.set k ⟨{ M[k].e with L := M[k].e.L.set i (Sta.gonE M[k].e.L[i]) }, M[k].A, M[k].ca, M[k].B, M[k].cb⟩) Q now n w' := by
  unfold Evt.val
  obtain ⟨kind, ⟨id, cls, born, slot, L, gone, H⟩, seq, idx, name, size, root, now2⟩ := v
  dsimp only at *
  subst hv hx
  have hba := stBox w (.cells #[.int .i64 2, .string (S id), .int .i64 cls, .int .i64 born, .int .i64 slot, .slice A L.length ca, .bool gone, .slice B H.length cb, .int .i64 seq, .int .i64 (i : Int), .string (S name), .int .i64 size, .string (S root), .int .i64 now2] 37)
  have hbx := Has.made w 37 #[.int .i64 2, .string (S id), .int .i64 cls, .int .i64 born, .int .i64 slot, .slice A L.length ca, .bool gone, .slice B H.length cb, .int .i64 seq, .int .i64 (i : Int), .string (S name), .int .i64 size, .string (S root), .int .i64 now2]
  have h1' := h1.below hba h1.lt
  have hr := h.mid hba
  obtain ⟨b, cur, hA, hH, hc2, hc3, hbl, hbs, hbe, -, hst⟩ := (hr.mid (Below.refl _ _).drew).eraseAt h1' hk hi
  have hxa := hr.xat h1' hk
  have x4 := hxa.2.2.2.2.1
  have hla := (ownS_reads (hr.own M[k] (List.getElem_mem hk)).l).1.1
  rw [hA] at x4
  have HE := Lib.hid (erase_any hH hc2 hc3)
  have HST := Lib.hid (StStep.from (hba.drew) hst)
  have hki : (i : Int) < (M[k].e.L.length : Int) := by omega
  have hkc : (i : Int) < (M[k].ca : Int) := by omega
  have hk0 : (0 : Int) ≤ (i : Int) := by omega
  have HNE := Lib.hid (And.intro hbe (h.lt.2 b hbs))
  have HLTW := Lib.hid (And.intro (hr.apart h1' hk).2.2.2 hbx.lt)
  clear h h1 h1' hr hst hxa hH hc2 hc3 hA hla hbs hbe
  generalize M.set k ⟨{ M[k].e with L := M[k].e.L.set i (Sta.gonE M[k].e.L[i]) }, M[k].A, M[k].ca, M[k].B, M[k].cb⟩ = M2 at *
  generalize M[k].e.L.length = ll at *
  generalize M[k].ca = xca at *
  have y9 := hbx.cell 9
  have y0 := hbx.cell 0
  go_enter Try.func41, Try.ntmps41
  go_upto_region 1 with fail
  generalize w.alloc (.cells #[.int .i64 2, .string (S id), .int .i64 cls, .int .i64 born, .int .i64 slot, .slice A L.length ca, .bool gone, .slice B H.length cb, .int .i64 seq, .int .i64 (i : Int), .string (S name), .int .i64 size, .string (S root), .int .i64 now2] 37) = W0 at *
  obtain ⟨b0, hq0⟩ : ∃ b0, w.heap.size = b0 := ⟨_, rfl⟩
  rw [hq0] at hbx y9 y0 HNE HLTW ⊢
  have HQ0 := Lib.hid hq0
  clear hq0
  go_upto_region 3 with fail
  have hS : ChS be k b0 b ll xca (i : Int) W0.drew := ⟨x4, y9⟩
  clear x4 y9 hbx hba y0 hbl
  refine wp_region_held_drew (S := ChS be k b0 b ll xca (i : Int)) (by kernel_rfl) hS (fun hHeld => ?_)
  have HLT : Hid (be < W0.drew.heap.size ∧ b0 < W0.drew.heap.size) := Lib.hid HLTW.out
  generalize W0.drew = wd at hS hHeld HE HST HLT ⊢
  first
  | (refine tkW (i := 0) (v := ?_) rfl rfl ?_ ?_; rotate_left; (focus (intro w hSw; (try dsimp only at hSw); go_simp; first | done | with_reducible rfl)); (simp only [Act.at, setIfInBounds_toArray, set_cons_zero, set_cons_succ]))
  | (refine tkU (i := 0) rfl rfl ?_; (simp only [Act.at, setIfInBounds_toArray, set_cons_zero, set_cons_succ]))
  first
  | (refine tkW (i := 1) (v := ?_) rfl rfl ?_ ?_; rotate_left; (focus (intro w hSw; (try dsimp only at hSw); go_simp; first | done | with_reducible rfl)); (simp only [Act.at, setIfInBounds_toArray, set_cons_zero, set_cons_succ]))
  | (refine tkU (i := 1) rfl rfl ?_; (simp only [Act.at, setIfInBounds_toArray, set_cons_zero, set_cons_succ]))
  first
  | (refine tkW (i := 2) (v := ?_) rfl rfl ?_ ?_; rotate_left; (focus (intro w hSw; (try dsimp only at hSw); go_simp; first | done | with_reducible rfl)); (simp only [Act.at, setIfInBounds_toArray, set_cons_zero, set_cons_succ]))
  | (refine tkU (i := 2) rfl rfl ?_; (simp only [Act.at, setIfInBounds_toArray, set_cons_zero, set_cons_succ]))
  first
  | (refine tkW (i := 3) (v := ?_) rfl rfl ?_ ?_; rotate_left; (focus (intro w hSw; (try dsimp only at hSw); go_simp; first | done | with_reducible rfl)); (simp only [Act.at, setIfInBounds_toArray, set_cons_zero, set_cons_succ]))
  | (refine tkU (i := 3) rfl rfl ?_; (simp only [Act.at, setIfInBounds_toArray, set_cons_zero, set_cons_succ]))
  first
  | (refine tkW (i := 4) (v := ?_) rfl rfl ?_ ?_; rotate_left; (focus (intro w hSw; (try dsimp only at hSw); go_simp; first | done | with_reducible rfl)); (simp only [Act.at, setIfInBounds_toArray, set_cons_zero, set_cons_succ]))
  | (refine tkU (i := 4) rfl rfl ?_; (simp only [Act.at, setIfInBounds_toArray, set_cons_zero, set_cons_succ]))
  first
  | (refine tkW (i := 5) (v := ?_) rfl rfl ?_ ?_; rotate_left; (focus (intro w hSw; (try dsimp only at hSw); go_simp; first | done | with_reducible rfl)); (simp only [Act.at, setIfInBounds_toArray, set_cons_zero, set_cons_succ]))
  | (refine tkU (i := 5) rfl rfl ?_; (simp only [Act.at, setIfInBounds_toArray, set_cons_zero, set_cons_succ]))
  first
  | (refine tkW (i := 6) (v := ?_) rfl rfl ?_ ?_; rotate_left; (focus (intro w hSw; (try dsimp only at hSw); go_simp; first | done | with_reducible rfl)); (simp only [Act.at, setIfInBounds_toArray, set_cons_zero, set_cons_succ]))
  | (refine tkU (i := 6) rfl rfl ?_; (simp only [Act.at, setIfInBounds_toArray, set_cons_zero, set_cons_succ]))
  refine take_call (i := 7) (by kernel_rfl) rfl rfl (by rfl) (fun K hK => ?_)
  go_simp
  refine HE.out.mono ?_
  rintro r w2 ⟨rfl, rfl⟩
  have hS2 : ChS be k b0 b ll xca (i : Int) ((wd.setCell ⟨b, i * 4 + 3, none⟩ (.bool true)).setCell ⟨b, i * 4 + 2, none⟩ (.string (S []))) := by
    have hon : Only wd ((wd.setCell ⟨b, i * 4 + 3, none⟩ (.bool true)).setCell ⟨b, i * 4 + 2, none⟩ (.string (S []))) b := (Only.set wd b (i * 4 + 3) _).trans (Only.set _ b (i * 4 + 2) _)
    exact ⟨World.cell_block (hon.block be HLT.out.1 (fun e => by injection e with e; exact HNE.out.1 e.symm)) hS.1, World.cell_block (hon.block b0 HLT.out.2 (fun e => by injection e with e; have := HNE.out.2; omega)) hS.2⟩
  clear hS hHeld HE
  refine hK.out _ _ hS2 (fun hHeld => ?_)
  clear hK K
  try simp only [Act.put, setIfInBounds_toArray, set_cons_zero, set_cons_succ]
  refine wpAnyH_done (by kernel_rfl) ?_ _
  go_wp2_with fail
  go_returns
  exact ⟨rfl, HST.out⟩
/-- The first slips are erased. -/
def gonTo (L : List Slp) (i : Nat) : List Slp := L.mapIdx fun k x => if k < i then Sta.gonE x else x
theorem gonTo_len (L : List Slp) (i : Nat) : (gonTo L i).length = L.length := by unfold gonTo; rw [List.length_mapIdx]
theorem gonTo_get (L : List Slp) (i k : Nat) : (gonTo L i)[k]? = (L[k]?).map fun x => if k < i then Sta.gonE x else x := by unfold gonTo; rw [List.getElem?_mapIdx]
theorem gonTo_zero (L : List Slp) : gonTo L 0 = L := by
  apply List.ext_getElem?
  intro k
  rw [gonTo_get]
  cases L[k]? <;> simp
theorem gonTo_all (L : List Slp) : gonTo L L.length = Sta.erS L (-1) := by
  apply List.ext_getElem?
  intro k
  rw [gonTo_get, Sta.erS_get]
  by_cases hk : k < L.length
  · rw [List.getElem?_eq_getElem hk, Option.map_some, Option.map_some, if_pos hk, if_pos (Or.inl (by omega))]
  · rw [List.getElem?_eq_none (by omega)]; rfl
theorem gonTo_step (L : List Slp) (i : Nat) (hi : i < (gonTo L i).length) : (gonTo L i).set i (Sta.gonE (gonTo L i)[i]) = gonTo L (i + 1) := by
  have hi2 : i < L.length := by rw [← gonTo_len L i]; exact hi
  apply List.ext_getElem?
  intro k
  rw [List.getElem?_set, gonTo_get, gonTo_get]
  have hg : (gonTo L i)[i] = L[i] := by
    have h1 := gonTo_get L i i
    rw [List.getElem?_eq_getElem hi, List.getElem?_eq_getElem hi2, Option.map_some, if_neg (Nat.lt_irrefl i)] at h1
    exact Option.some.inj h1
  by_cases hk : i = k
  · subst hk
    rw [if_pos rfl, if_pos hi, List.getElem?_eq_getElem hi2, Option.map_some, if_pos (Nat.lt_succ_self i), hg]
  · rw [if_neg hk]
    cases L[k]? with
    | none => rfl
    | some x =>
      rw [Option.map_some, Option.map_some]
      by_cases h2 : k < i
      · rw [if_pos h2, if_pos (by omega)]
      · rw [if_neg h2, if_neg (by omega)]
/-- A paper that is gone, its first slips erased. -/
def gonX (x : EntX) (i : Nat) : EntX := ⟨{ x.e with L := gonTo x.e.L i, gone := true }, x.A, x.ca, x.B, x.cb⟩
/-- Behind the first slips. -/
structure GonAt (w : World) (q : Nat) (s : List Nat) (M : List EntX) (Q : List Pt) (now : Int) (n : Nat) (k : Nat) (hk : k < M.length) (be ca0 mb : Nat) (B0 : Option Addr) (cb0 : Nat) (i : Nat) (wr : World) : Prop where
  st : StStep w q s (M.set k (gonX M[k] i)) Q now n wr
  hq : Has wr q 58 #[.slice (some ⟨be, 0, none⟩) M.length ca0, .map (some mb), .slice B0 Q.length cb0, .int .i64 now, .int .i64 (n : Int)]
theorem GonAt.start (h : StRep w q s M Q now n) {ca0 mb be : Nat} {B0 : Option Addr} {cb0 : Nat} (h1 : Has w q 58 #[.slice (some ⟨be, 0, none⟩) M.length ca0, .map (some mb), .slice B0 Q.length cb0, .int .i64 now, .int .i64 (n : Int)]) {k : Nat} (hk : k < M.length) : GonAt w q s M Q now n k hk be ca0 mb B0 cb0 0 (w.setCell ⟨be, k * 7 + 5, none⟩ (.bool true)) := by
  refine ⟨?_, (Only.set w be (k * 7 + 5) _).has h1 (fun e => (h.apart h1 hk).2.2.1 (e ▸ List.mem_cons_self ..))⟩
  have e : gonX M[k] 0 = ⟨{ M[k].e with gone := true }, M[k].A, M[k].ca, M[k].B, M[k].cb⟩ := by unfold gonX; rw [gonTo_zero]
  rw [e]
  exact h.setGone h1 hk
theorem GonAt.step {k : Nat} {hk : k < M.length} {be ca0 mb : Nat} {B0 : Option Addr} {cb0 i : Nat} {wr : World} (h : GonAt w q s M Q now n k hk be ca0 mb B0 cb0 i wr) (hi : i < M[k].e.L.length) :
    ∃ (b : Nat) (cur : Array Value), wr.cell? ⟨be, k * 7 + 4, none⟩ = some (.slice (some ⟨b, 0, none⟩) M[k].e.L.length M[k].ca) ∧ (∃ x e, Has wr b 51 cur ∧ cur[i * 4 + 2]? = some (.string (S x)) ∧ cur[i * 4 + 3]? = some (.bool e)) ∧ M[k].e.L.length ≤ M[k].ca ∧
      GonAt w q s M Q now n k hk be ca0 mb B0 cb0 (i + 1) ((wr.setCell ⟨b, i * 4 + 3, none⟩ (.bool true)).setCell ⟨b, i * 4 + 2, none⟩ (.string (S []))) := by
  obtain ⟨s', r, hm, hs⟩ := id h.st
  have hl : (M.set k (gonX M[k] i)).length = M.length := List.length_set
  have hq2 := h.hq
  rw [← hl] at hq2
  have hk2 : k < (M.set k (gonX M[k] i)).length := by rw [hl]; exact hk
  have hg : (M.set k (gonX M[k] i))[k] = gonX M[k] i := List.getElem_set_self ..
  have hi2 : i < ((M.set k (gonX M[k] i))[k]).e.L.length := by
    rw [hg]
    show i < (gonTo M[k].e.L i).length
    rw [gonTo_len]
    exact hi
  obtain ⟨b, cur, hA, hH, hc2, hc3, -, -, -, hbq, hst⟩ := r.eraseAt hq2 hk2 hi2
  have hxa := (r.xat hq2 hk2).2.2.2.2.1
  have hla := (ownS_reads (r.own _ (List.getElem_mem hk2)).l).1.1
  rw [hA] at hxa
  have hll : (gonX M[k] i).e.L.length = M[k].e.L.length := gonTo_len _ _
  have hcc : (gonX M[k] i).ca = M[k].ca := rfl
  rw [hg, hll, hcc] at hxa hla
  refine ⟨b, cur, hxa, ⟨_, _, hH, hc2, hc3⟩, hla, ⟨?_, ?_⟩⟩
  · have e1 : (M.set k (gonX M[k] i)).set k ⟨{ (M.set k (gonX M[k] i))[k].e with L := (M.set k (gonX M[k] i))[k].e.L.set i (Sta.gonE (M.set k (gonX M[k] i))[k].e.L[i]) }, (M.set k (gonX M[k] i))[k].A, (M.set k (gonX M[k] i))[k].ca, (M.set k (gonX M[k] i))[k].B, (M.set k (gonX M[k] i))[k].cb⟩ = M.set k (gonX M[k] (i + 1)) := by
      rw [List.set_set]
      congr 1
      have hs2 := gonTo_step M[k].e.L i (by rw [gonTo_len]; exact hi)
      simp only [hg]
      show EntX.mk _ _ _ _ _ = gonX M[k] (i + 1)
      unfold gonX
      dsimp only
      rw [hs2]
    rw [e1] at hst
    exact h.st.trans (fun s2 r2 => by
      obtain ⟨s3, r3, m3, c3⟩ := hst
      obtain ⟨b', cur', hA', hH', hc2', hc3', _, _, _, hbq', hst'⟩ := r2.eraseAt hq2 hk2 hi2
      rw [hA] at hA'
      injection hA' with hA'
      injection hA' with hA'
      subst hA'
      rw [e1] at hst'
      exact hst')
  · have hon : Only wr ((wr.setCell ⟨b, i * 4 + 3, none⟩ (.bool true)).setCell ⟨b, i * 4 + 2, none⟩ (.string (S []))) b := (Only.set wr b (i * 4 + 3) _).trans (Only.set _ b (i * 4 + 2) _)
    exact hon.has h.hq (fun e => hbq e.symm)
theorem GonAt.x4 {k : Nat} {hk : k < M.length} {be ca0 mb : Nat} {B0 : Option Addr} {cb0 i : Nat} {wr : World} (h : GonAt w q s M Q now n k hk be ca0 mb B0 cb0 i wr) : wr.cell? ⟨be, k * 7 + 4, none⟩ = some (.slice M[k].A M[k].e.L.length M[k].ca) := by
  obtain ⟨s', r, hm, hs⟩ := h.st
  have hl : (M.set k (gonX M[k] i)).length = M.length := List.length_set
  have hq2 := h.hq
  rw [← hl] at hq2
  have hk2 : k < (M.set k (gonX M[k] i)).length := by rw [hl]; exact hk
  have hg : (M.set k (gonX M[k] i))[k] = gonX M[k] i := List.getElem_set_self ..
  have hxa := (r.xat hq2 hk2).2.2.2.2.1
  have hll : (gonX M[k] i).e.L.length = M[k].e.L.length := gonTo_len _ _
  rw [hg, hll] at hxa
  exact hxa
theorem StRep.freeX (h : StRep w q s M Q now n) {ca0 mb be : Nat} {B0 : Option Addr} {cb0 : Nat} (h1 : Has w q 58 #[.slice (some ⟨be, 0, none⟩) M.length ca0, .map (some mb), .slice B0 Q.length cb0, .int .i64 now, .int .i64 (n : Int)]) (hk : M.length ≠ 0) (j : Nat) : w.frozen? ⟨be, j, none⟩ = false := by
  obtain ⟨b, cur, hA, hH, -⟩ := ownS_has (h.rowX h1) hk
  injection hA with hA
  injection hA with hA
  subst hA
  exact hH.free j
set_option maxRecDepth 100000 in
set_option maxHeartbeats 8000000 in
theorem change3_any (h : StRep w q s M Q now n) {ca0 mb be : Nat} {B0 : Option Addr} {cb0 : Nat} (h1 : Has w q 58 #[.slice (some ⟨be, 0, none⟩) M.length ca0, .map (some mb), .slice B0 Q.length cb0, .int .i64 now, .int .i64 (n : Int)]) {k : Nat} (hk : k < M.length) (hL : M[k].e.L.length ≤ 1000) {v : Evt} (hv : v.kind = 3) (A : Option Addr) (ca : Nat) (B : Option Addr) (cb : Nat) :
    Calls Try.prog 41 #[.pointer (some ⟨be, k * 7, none⟩), v.val A ca B cb] w fun r w' => r = .returned (.tuple #[]) ∧ StStep w q s (M.set k ⟨{ M[k].e with L := Sta.erS M[k].e.L (-1), gone := true }, M[k].A, M[k].ca, M[k].B, M[k].cb⟩) Q now n w' := by
  unfold Evt.val
  obtain ⟨kind, ⟨id, cls, born, slot, L, gone, H⟩, seq, idx, name, size, root, now2⟩ := v
  dsimp only at *
  subst hv
  have hba := stBox w (.cells #[.int .i64 3, .string (S id), .int .i64 cls, .int .i64 born, .int .i64 slot, .slice A L.length ca, .bool gone, .slice B H.length cb, .int .i64 seq, .int .i64 idx, .string (S name), .int .i64 size, .string (S root), .int .i64 now2] 37)
  have hbx := Has.made w 37 #[.int .i64 3, .string (S id), .int .i64 cls, .int .i64 born, .int .i64 slot, .slice A L.length ca, .bool gone, .slice B H.length cb, .int .i64 seq, .int .i64 idx, .string (S name), .int .i64 size, .string (S root), .int .i64 now2]
  have h1' := h1.below hba h1.lt
  have hr := h.mid hba
  have hgs := GonAt.start hr h1' hk
  have x5 := (hr.xat h1' hk).2.2.2.2.2.1
  have f5 := hr.freeX h1' (by omega) (k * 7 + 5)
  have HFIN : Hid (∀ wr, GonAt (w.alloc (.cells #[.int .i64 3, .string (S id), .int .i64 cls, .int .i64 born, .int .i64 slot, .slice A L.length ca, .bool gone, .slice B H.length cb, .int .i64 seq, .int .i64 idx, .string (S name), .int .i64 size, .string (S root), .int .i64 now2] 37)) q s M Q now n k hk be ca0 mb B0 cb0 M[k].e.L.length wr → StStep w q s (M.set k ⟨{ M[k].e with L := Sta.erS M[k].e.L (-1), gone := true }, M[k].A, M[k].ca, M[k].B, M[k].cb⟩) Q now n wr) := Lib.hid (fun wr hw => by
    have h2 := hw.st
    have e : gonX M[k] M[k].e.L.length = ⟨{ M[k].e with L := Sta.erS M[k].e.L (-1), gone := true }, M[k].A, M[k].ca, M[k].B, M[k].cb⟩ := by unfold gonX; rw [gonTo_all]
    rw [e] at h2
    exact StStep.from hba h2)
  have y0 := hbx.cell 0
  generalize M.set k ⟨{ M[k].e with L := Sta.erS M[k].e.L (-1), gone := true }, M[k].A, M[k].ca, M[k].B, M[k].cb⟩ = M2 at HFIN ⊢
  have HLL := Lib.hid hL
  clear h h1 h1' hr hba hL
  go_enter Try.func41, Try.ntmps41
  go_upto_region 1 with fail
  generalize w.alloc (.cells #[.int .i64 3, .string (S id), .int .i64 cls, .int .i64 born, .int .i64 slot, .slice A L.length ca, .bool gone, .slice B H.length cb, .int .i64 seq, .int .i64 idx, .string (S name), .int .i64 size, .string (S root), .int .i64 now2] 37) = W0 at *
  generalize w.heap.size = b0 at hbx y0 ⊢
  go_upto_region 6 with fail
  clear x5 f5 y0 hbx
  generalize W0.setCell ⟨be, k * 7 + 5, none⟩ (.bool true) = W1 at hgs ⊢
  have x4 := hgs.x4
  have HG := Lib.hid hgs
  clear hgs
  have hl0 : (M[k].e.L.length : Int) ≤ 1000 := by have := HLL.out; omega
  obtain ⟨m0, hm0⟩ : ∃ m0, M[k].e.L.length = m0 := ⟨_, rfl⟩
  have HM0 := Lib.hid hm0
  rw [hm0] at x4 hl0 HFIN
  clear hm0
  go_wp2_with fail
  go_loopg [27] m0 (fun m v27 wr => ∃ i : Nat, i + m = m0 ∧ v27 = .int .i64 (i : Int) ∧ GonAt W0 q s M Q now n k hk be ca0 mb B0 cb0 i wr)
  case atStart => exact ⟨0, Nat.zero_add _, rfl, HG.out⟩
  case round =>
    obtain ⟨i, him, rfl, hG⟩ := hrel
    cases gk with
    | zero =>
      have hlt : ¬ (i : Int) < (m0 : Int) := by omega
      obtain rfl : i = m0 := by omega
      have HG2 := Lib.hid hG
      clear hG HG
      go_wp2_with fail
      go_returns
      exact ⟨rfl, HFIN.out _ HG2.out⟩
    | succ m =>
      have hlt : (i : Int) < (m0 : Int) := by omega
      have hk0 : (0 : Int) ≤ (i : Int) := by omega
      have hinc : IntKind.i64.wrap ((i : Int) + 1) = (i : Int) + 1 := by rw [IntKind.wrap_i64]; omega
      obtain ⟨b, cur, z4, ⟨x, e, hH, hc2, hc3⟩, hla, hG2⟩ := hG.step (by rw [HM0.out]; omega)
      rw [HM0.out] at z4 hla
      have hkc : (i : Int) < (M[k].ca : Int) := by omega
      have HE := Lib.hid (erase_any hH hc2 hc3)
      have HG2 := Lib.hid hG2
      have HIM := Lib.hid him
      clear hG hG2 hH hc2 hc3 hla him HG
      go_wp2_with fail
      refine HE.out.mono ?_
      rintro r w2 ⟨rfl, rfl⟩
      clear z4 HE
      go_wp2_with fail
      go_roundg m
      case measure => omega
      case rel => exact ⟨i + 1, by have := HIM.out; omega, by go_num, HG2.out⟩
end
end Go.Proofs.Ytojemaaljjibiaa
