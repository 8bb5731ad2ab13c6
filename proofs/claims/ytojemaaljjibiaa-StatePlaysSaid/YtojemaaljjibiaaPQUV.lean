/-
  QUV: the texts StaQU, StaQV, StaSn in one.
-/
import Derived.Test.YtojemaaljjibiaaPStaQT
import Derived.Test.YtojemaaljjibiaaPQEG
import Derived.Test.YtojemaaljjibiaaPArgs
import Derived.Test.YtojemaaljjibiaaPStaTwo
import Derived.Test.YtojemaaljjibiaaPEvRefs
namespace Go.Proofs.Ytojemaaljjibiaa
open Go.RowKit
set_option linter.unusedVariables false

section
variable {w : World} {q : Nat} {s ot : List Nat} {st : Sta} {n : Nat}
theorem stApply (h : StAt w q s ot st n) (hI : Sta.Inv st) (hQ : st.Q.length ≤ 1000) (hn : n ≤ 1000) {v : Evt} {A B : Option Addr} {ca cb : Nat} (hin : EntIn w ((q :: s) ++ ot) v.ent A ca B cb) (hf : EvtFew v) :
    Calls Try.prog 13 #[.pointer (some ⟨q, 0, none⟩), v.val A ca B cb] w fun r w' => r = .returned (.int .i64 (Sta.check st v)) ∧ ∃ s', StAt w' q s' ot (Sta.step st v) (if Sta.check st v = 0 then n + 1 else n) ∧ Mv w w' (q :: s) ∧ ∀ x ∈ s', x ∈ s ∨ w.heap.size ≤ x := by
  by_cases hc : Sta.check st v = 0
  · rw [if_pos hc, show Sta.step st v = Sta.apply st v from by unfold Sta.step; rw [if_pos hc], hc]
    by_cases k1 : v.kind = 1
    · exact stApply1 h hI hQ hn hin hf hc k1
    by_cases k6 : v.kind = 6
    · exact stApply6 h hI hQ hn hin hf hc k6
    by_cases k7 : v.kind = 7
    · exact stApply7 h hI hQ hn hin hf hc k7
    · exact stApplyC h hI hQ hn hin hf hc k1 k6 k7
  · rw [if_neg hc, show Sta.step st v = st from by unfold Sta.step; rw [if_neg hc]]
    exact stApplyNo h hI hQ hn hin hf rfl hc
theorem Sta.Inv.nodup (h : Sta.Inv st) : (st.P.map Ent.id).Nodup := by
  show List.Pairwise _ _
  rw [List.pairwise_map]
  exact h.ids
theorem stSeq (h : StAt w q s ot st n) (hI : Sta.Inv st) (k : Nat) (hk : k < st.P.length) :
    Calls Try.prog 27 #[.pointer (some ⟨q, 0, none⟩), .string (S (st.P[k]).id)] w fun r w' => r = .returned (.tuple #[.int .i64 (k : Int), .int .i64 0]) ∧ Below w.heap.size w w' := by
  have hid : (st.P[k]).id.length ≤ 1000 := by
    have h1 := (Ev.entR_iff.1 (hI.right _ (List.getElem_mem hk))).1
    have h2 := Pap.word_len h1
    omega
  have hi : idI (st.P.map Ent.id) (st.P[k]).id = some k := by
    have h1 := idI_at hI.nodup k (by rw [List.length_map]; exact hk)
    rw [List.getElem_map] at h1
    exact h1
  have := stSeq_any h (st.P[k]).id hid
  rw [hi] at this
  exact this
theorem stSeq_no (h : StAt w q s ot st n) (hI : Sta.Inv st) (id : List UInt8) (hl : id.length ≤ 1000) (hid : ∀ e ∈ st.P, e.id ≠ id) :
    Calls Try.prog 27 #[.pointer (some ⟨q, 0, none⟩), .string (S id)] w fun r w' => ∃ i : Int, r = .returned (.tuple #[.int .i64 i, .int .i64 7]) ∧ Below w.heap.size w w' := by
  have hi : idI (st.P.map Ent.id) id = none := idI_none.2 (fun hx => by
    obtain ⟨e, he, e2⟩ := List.mem_map.1 hx
    exact hid e he e2)
  have := stSeq_any h id hl
  rw [hi] at this
  exact this.mono (fun r w' ⟨h1, h2⟩ => ⟨0, h1, h2⟩)
end
end Go.Proofs.Ytojemaaljjibiaa

namespace Go.Proofs.Ytojemaaljjibiaa
open Go.RowKit
set_option linter.unusedVariables false

theorem vxs_snoc (L : List EvX) (x : EvX) : vxs L ++ x.cs = vxs (L ++ [x]) := by unfold vxs; rw [List.flatMap_append, List.flatMap_singleton]
theorem EntIn.none_ (w : World) (s : List Nat) : EntIn w s Ent.zero none 0 none 0 := ⟨RowC.nil _ _ _, RowC.nil _ _ _, Nat.le_refl _, Nat.zero_le _, Nat.le_refl _, Nat.zero_le _⟩
section
variable {w : World} {q : Nat} {s ot : List Nat} {st : Sta} {n : Nat}
/-- The events that were laid so far. -/
structure Spd (w : World) (q : Nat) (t : List Nat) (V : List Evt) (v : Value) (wr : World) : Prop where
  ex : ∃ out : List EvX, out.map EvX.v = V ∧ wr.ownsRow w.heap.size 37 14 v V.length (vxs out) ∧ ∀ x ∈ out, EntIn wr ((q :: v.ownBlock.toList) ++ t) x.v.ent x.A x.ca x.B x.cb
  bl : Below w.heap.size w wr
theorem Spd.start (w : World) (q : Nat) (t : List Nat) (now : Int) : Spd w q t [Sta.clockE now] (.slice (some ⟨w.heap.size, 0, none⟩) 1 1) (w.alloc (.cells #[.int .i64 7, .string (S []), .int .i64 0, .int .i64 0, .int .i64 0, .slice none 0 0, .bool false, .slice none 0 0, .int .i64 0, .int .i64 0, .string (S []), .int .i64 0, .string (S []), .int .i64 now] 37)) :=
  ⟨⟨[⟨Sta.clockE now, none, 0, none, 0⟩], rfl, ⟨rfl, .inr ⟨w.heap.size, 1, #[.int .i64 7, .string (S []), .int .i64 0, .int .i64 0, .int .i64 0, .slice none 0 0, .bool false, .slice none 0 0, .int .i64 0, .int .i64 0, .string (S []), .int .i64 0, .string (S []), .int .i64 now], rfl, Nat.le_refl _, Has.made w _ _, Nat.le_refl _, by decide, rfl, rfl⟩⟩, fun x hx => by rw [List.mem_singleton.1 hx]; exact EntIn.none_ _ _⟩, (Below.refl _ w).alloc (Nat.le_refl _) _⟩
theorem Spd.more {t : List Nat} {V : List Evt} {v : Value} {wr W2 w4 : World} {out : List EvX} {y : EvX} {g cap : Nat} {o : Obj} (hlt : ∀ x ∈ q :: t, x < w.heap.size) (h1 : out.map EvX.v = V) (h2 : wr.ownsRow w.heap.size 37 14 v V.length (vxs out)) (h3 : ∀ x ∈ out, EntIn wr ((q :: v.ownBlock.toList) ++ t) x.v.ent x.A x.ca x.B x.cb) (hb : Below w.heap.size w wr)
    (hb2 : Below wr.heap.size wr W2) (hy' : EntIn W2 ((q :: v.ownBlock.toList) ++ t) y.v.ent y.A y.ca y.B y.cb) (ho : w4.ownsRow w.heap.size 37 14 (.slice (some ⟨g, 0, none⟩) (V.length + 1) cap) (V.length + 1) (vxs out ++ y.cs)) (hg : (W2.alloc o).grownBy w4 v.ownBlock) (hat : v.ownBlock = some g ∨ g = (W2.alloc o).heap.size) :
    Spd w q t (V ++ [y.v]) (.slice (some ⟨g, 0, none⟩) (V.length + 1) cap) w4 := by
  have hba : Below W2.heap.size W2 (W2.alloc o) := (Below.refl _ W2).alloc (Nat.le_refl _) o
  have hrow : ∀ j, v.ownBlock = some j → w.heap.size ≤ j ∧ j < wr.heap.size := fun j hj => h2.lt j hj
  have hm : Mv (W2.alloc o) w4 (q :: v.ownBlock.toList) := Mv.of_grown hg (fun j hj => List.mem_cons_of_mem _ (Option.mem_toList.2 hj))
  have hs' : ∀ z ∈ [g], z ∈ v.ownBlock.toList ∨ (W2.alloc o).heap.size ≤ z := fun z hz => by
    rw [List.mem_singleton.1 hz]
    rcases hat with e | e
    · exact Or.inl (by rw [e]; simp)
    · exact Or.inr (Nat.le_of_eq e.symm)
  have hl : (V ++ [y.v]).length = V.length + 1 := by rw [List.length_append]; rfl
  refine ⟨⟨out ++ [y], ?_, ?_, fun x hx => ?_⟩, ?_⟩
  · rw [List.map_append, h1]; rfl
  · rw [← vxs_snoc, hl]; exact ho
  · show EntIn w4 ((q :: [g]) ++ t) _ _ _ _ _
    rcases List.mem_append.1 hx with hx | hx
    · exact XIn.more (x := ⟨x.v.ent, x.A, x.ca, x.B, x.cb⟩) (((h3 x hx).below hb2).below hba) hm hs'
    · rw [List.mem_singleton.1 hx]; exact XIn.more (x := ⟨y.v.ent, y.A, y.ca, y.B, y.cb⟩) (hy'.below hba) hm hs'
  · exact (hb.trans ((hb2.trans (hba.mono hb2.size)).mono hb.size)).grown hg (by have := hb.size; have := hb2.size; have := hba.size; omega) (fun j hj => (hrow j hj).1)
end
end Go.Proofs.Ytojemaaljjibiaa

namespace Go.Proofs.Ytojemaaljjibiaa
open Go.Op (bytesLess)
set_option linter.unusedVariables false

namespace Sta
end Sta
end Go.Proofs.Ytojemaaljjibiaa
