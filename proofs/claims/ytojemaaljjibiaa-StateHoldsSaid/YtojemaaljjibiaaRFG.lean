/-
  RFG: the texts StaRF, StaRG in one.
-/
import Derived.Test.YtojemaaljjibiaaStaRE
import Derived.Test.YtojemaaljjibiaaStaTwo
import Derived.Laws.CopyOwn
import Derived.Test.YtojemaaljjibiaaStaThree
import Derived.Deep.AppendLies
namespace Go.Proofs.Ytojemaaljjibiaa
open Go.RowKit
set_option linter.unusedVariables false

/-- A step of the reference's state. -/
def RStep (w : World) (p : Nat) (s ot : List Nat) (st : Sta) (w' : World) : Prop := ∃ s', RefS w' p s' ot st ∧ Mv w w' (p :: s) ∧ ∀ y ∈ s', y ∈ s ∨ w.heap.size ≤ y
/-- What lies behind the boxing of the event. -/
structure RBox (w : World) (p b0 : Nat) (s ot : List Nat) (M : List EntX) (Q : List Pt) (now : Int) (v : Evt) (A : Option Addr) (ca : Nat) (B : Option Addr) (cb : Nat) (W : World) : Prop where
  ref : RefAt W p s ot M Q now
  mv : Mv w W (p :: s)
  bx : EvBox b0 v A ca B cb W
  bn : b0 ∉ p :: s
  lt : b0 < W.heap.size
  ent : XIn W ((p :: s) ++ ot) ⟨v.ent, A, ca, B, cb⟩
theorem RBox.mv' {w W W' : World} {p b0 : Nat} {s ot : List Nat} {M : List EntX} {Q : List Pt} {now : Int} {v : Evt} {A : Option Addr} {ca : Nat} {B : Option Addr} {cb : Nat} (h : RBox w p b0 s ot M Q now v A ca B cb W) (hb : Below W.heap.size W W') : RBox w p b0 s ot M Q now v A ca B cb W' :=
  ⟨h.ref.below hb, h.mv.trans (Mv.of_below hb _), h.bx.below hb h.lt, h.bn, Nat.lt_of_lt_of_le h.lt hb.size, h.ent.below hb⟩
theorem RBox.drew {w W : World} {p b0 : Nat} {s ot : List Nat} {M : List EntX} {Q : List Pt} {now : Int} {v : Evt} {A : Option Addr} {ca : Nat} {B : Option Addr} {cb : Nat} (h : RBox w p b0 s ot M Q now v A ca B cb W) : RBox w p b0 s ot M Q now v A ca B cb W.drew := h.mv' (Below.refl _ W).drew
theorem RefS.step {w w' : World} {p : Nat} {s s' ot : List Nat} {M : List EntX} {Q : List Pt} {now : Int} {st : Sta} (h : RefAt w' p s' ot M Q now) (hM : M.map EntX.e = st.P) (hQ : Q = st.Q) (hn : now = st.now) (hm : Mv w w' (p :: s)) (hs : ∀ y ∈ s', y ∈ s ∨ w.heap.size ≤ y) : RStep w p s ot st w' := by
  subst hQ hn
  exact ⟨s', ⟨M, hM, h⟩, hm, hs⟩
end Go.Proofs.Ytojemaaljjibiaa

namespace Go.Proofs.Ytojemaaljjibiaa
open Go.RowKit
set_option linter.unusedVariables false

theorem papInfo : (Try.prog.info? 33).map (fun i => (i.zero, i.size, i.bytes)) = some (some (.agg #[.string ⟨#[]⟩, .int .i64 0, .int .i64 0, .int .i64 0, .slice none 0 0, .bool false, .slice none 0 0]), 7, 96) := by kernel_rfl
theorem ptInfo : (Try.prog.info? 35).map (fun i => (i.zero, i.size, i.bytes)) = some (some (.agg #[.int .i64 0, .string ⟨#[]⟩]), 2, 24) := by kernel_rfl
theorem wp_pap_append {op : Oper} {a : Act} {w : World} {K : Act → World → Prop} {Q : Exit → Act → World → Prop} (s x : Operand) (ho : op.op = .call { callee := .builtin .append, args := #[s, x], argTypes := #[26, 26] }) (t : Nat) (hd : op.dst = some t)
    (v : Value) (n : Nat) (h : List EntX) (hs : a.eval s = v) (hown : w.ownsRow 0 33 7 v n (xcs h)) (ad : Addr) (d : EntX) (hx : a.eval x = .slice (some ad) 1 1) (hnews : ∀ j u, d.cs[j]? = some u → w.cell? (ad.add j) = some u) (hn : n ≤ 1000000)
    (hk : ∀ g cap w', w'.ownsRow 0 33 7 (.slice (some ⟨g, 0, none⟩) (n + 1) cap) (n + 1) (xcs (h ++ [d])) → w.grownBy w' v.ownBlock → (v.ownBlock = some g ∨ g = w.heap.size) → g < w'.heap.size → K (Act.at a t (.slice (some ⟨g, 0, none⟩) (n + 1) cap)) w') : op.wp Try.prog a w K Q := by
  obtain ⟨i0, hi0, hz0, hz1, hz2⟩ := info_parts papInfo
  refine wp_append_lies _ s x 26 ho 0 33 i0 (.agg #[.string ⟨#[]⟩, .int .i64 0, .int .i64 0, .int .i64 0, .slice none 0 0, .bool false, .slice none 0 0]) 7 96 Try.underlying26 hi0 hz0 hz1 hz2 rfl (by decide) v n (xcs h) hs hown ad 1 1 d.cs hx rfl hnews (by intro u hu; simp [EntX.cs, Ent.cs] at hu; rcases hu with rfl | rfl | rfl | rfl | rfl | rfl | rfl <;> rfl) (by decide) (by simp only [maxLen]; omega) (by omega) (Nat.zero_le _) _ rfl ?_
  intro g cap' w3 h1 h2 h3 h4
  rw [hd]
  rw [xcs_snoc] at h1
  exact hk g cap' w3 h1 h2 h3 h4
theorem wp_pt_append {op : Oper} {a : Act} {w : World} {K : Act → World → Prop} {Q : Exit → Act → World → Prop} (s x : Operand) (ho : op.op = .call { callee := .builtin .append, args := #[s, x], argTypes := #[27, 27] }) (t : Nat) (hd : op.dst = some t)
    (v : Value) (n : Nat) (h : List Pt) (hs : a.eval s = v) (hown : w.ownsRow 0 35 2 v n (qcs h)) (ad : Addr) (d : Pt) (hx : a.eval x = .slice (some ad) 1 1) (hnews : ∀ j u, d.cs[j]? = some u → w.cell? (ad.add j) = some u) (hn : n ≤ 1000000)
    (hk : ∀ g cap w', w'.ownsRow 0 35 2 (.slice (some ⟨g, 0, none⟩) (n + 1) cap) (n + 1) (qcs (h ++ [d])) → w.grownBy w' v.ownBlock → (v.ownBlock = some g ∨ g = w.heap.size) → g < w'.heap.size → K (Act.at a t (.slice (some ⟨g, 0, none⟩) (n + 1) cap)) w') : op.wp Try.prog a w K Q := by
  obtain ⟨i0, hi0, hz0, hz1, hz2⟩ := info_parts ptInfo
  refine wp_append_lies _ s x 27 ho 0 35 i0 (.agg #[.int .i64 0, .string ⟨#[]⟩]) 2 24 Try.underlying27 hi0 hz0 hz1 hz2 rfl (by decide) v n (qcs h) hs hown ad 1 1 d.cs hx rfl hnews (by intro u hu; simp [Pt.cs] at hu; rcases hu with rfl | rfl <;> rfl) (by decide) (by simp only [maxLen]; omega) (by omega) (Nat.zero_le _) _ rfl ?_
  intro g cap' w3 h1 h2 h3 h4
  rw [hd]
  rw [qcs_snoc] at h1
  exact hk g cap' w3 h1 h2 h3 h4
theorem papMade (w : World) (x : EntX) : ∀ (j : Nat) (u : Value), x.cs[j]? = some u → (w.alloc (.cells #[.string (S x.e.id), .int .i64 x.e.cls, .int .i64 x.e.born, .int .i64 x.e.slot, .slice x.A x.e.L.length x.ca, .bool x.e.gone, .slice x.B x.e.H.length x.cb] 33)).cell? ((⟨w.heap.size, 0, none⟩ : Addr).add j) = some u := by
  intro j u hu
  rw [add_flat', Nat.zero_add, (Has.made w 33 _).cell j]
  rw [← hu]
  unfold EntX.cs Ent.cs
  exact List.getElem?_toArray ..
theorem ptMade (w : World) (x : Pt) : ∀ (j : Nat) (u : Value), x.cs[j]? = some u → (w.alloc (.cells #[.int .i64 x.size, .string (S x.root)] 35)).cell? ((⟨w.heap.size, 0, none⟩ : Addr).add j) = some u := by
  intro j u hu
  rw [add_flat', Nat.zero_add, (Has.made w 35 _).cell j]
  rw [← hu]
  unfold Pt.cs
  exact List.getElem?_toArray ..
end Go.Proofs.Ytojemaaljjibiaa
