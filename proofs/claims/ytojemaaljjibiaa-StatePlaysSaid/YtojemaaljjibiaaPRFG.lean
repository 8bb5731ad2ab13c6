/-
  RFG: the texts StaRF, StaRG in one.
-/
import Derived.Test.YtojemaaljjibiaaPStaRE
import Derived.Test.YtojemaaljjibiaaPStaTwo
import Derived.Laws.CopyOwn
import Derived.Test.YtojemaaljjibiaaPStaThree
import Derived.Deep.AppendLies
open List (setIfInBounds_toArray set_cons_zero set_cons_succ)
namespace Go.Proofs.Ytojemaaljjibiaa
open Go.RowKit
set_option linter.unusedVariables false

/-- A step of the reference's state. -/
def RStep (w : World) (p : Nat) (s ot : List Nat) (st : Sta) (w' : World) : Prop := ∃ s', RefS w' p s' ot st ∧ Mv w w' (p :: s) ∧ ∀ y ∈ s', y ∈ s ∨ w.heap.size ≤ y
/-- What lies behind the boxing of the event. -/
structure RBox (w : World) (p b0 : Nat) (s ot : List Nat) (M : List EntX) (Q : List Pt) (now : Int) (v : Evt) (A : Option Addr) (ca : Nat) (B : Option Addr) (cb : Nat) (W : World) : Prop where
  ref : RefAt W p s ot M Q now
  mv : Mv w W (p :: s)
  bx : EvBox b0 v A ca B cb W
  bn : b0 ∉ p :: s
  lt : b0 < W.heap.size
  ent : XIn W ((p :: s) ++ ot) ⟨v.ent, A, ca, B, cb⟩
theorem RBox.mk0 {w : World} {p : Nat} {s ot : List Nat} {M : List EntX} {Q : List Pt} {now : Int} {v : Evt} {A : Option Addr} {ca : Nat} {B : Option Addr} {cb : Nat} (h : RefAt w p s ot M Q now) (hin : EntIn w ((p :: s) ++ ot) v.ent A ca B cb) :
    RBox w p w.heap.size s ot M Q now v A ca B cb (w.alloc (.cells #[.int .i64 v.kind, .string (S v.ent.id), .int .i64 v.ent.cls, .int .i64 v.ent.born, .int .i64 v.ent.slot, .slice A v.ent.L.length ca, .bool v.ent.gone, .slice B v.ent.H.length cb, .int .i64 v.seq, .int .i64 v.idx, .string (S v.name), .int .i64 v.size, .string (S v.root), .int .i64 v.now] 37)) := by
  have hb : Below w.heap.size w (w.alloc (.cells #[.int .i64 v.kind, .string (S v.ent.id), .int .i64 v.ent.cls, .int .i64 v.ent.born, .int .i64 v.ent.slot, .slice A v.ent.L.length ca, .bool v.ent.gone, .slice B v.ent.H.length cb, .int .i64 v.seq, .int .i64 v.idx, .string (S v.name), .int .i64 v.size, .string (S v.root), .int .i64 v.now] 37)) := (Below.refl _ w).alloc (Nat.le_refl _) _
  have hh := Has.made w 37 #[.int .i64 v.kind, .string (S v.ent.id), .int .i64 v.ent.cls, .int .i64 v.ent.born, .int .i64 v.ent.slot, .slice A v.ent.L.length ca, .bool v.ent.gone, .slice B v.ent.H.length cb, .int .i64 v.seq, .int .i64 v.idx, .string (S v.name), .int .i64 v.size, .string (S v.root), .int .i64 v.now]
  refine ⟨h.below hb, Mv.of_below hb _, ⟨hh.cell 0, hh.cell 1, hh.cell 2, hh.cell 3, hh.cell 4, hh.cell 5, hh.cell 6, hh.cell 7, hh.cell 8, hh.cell 9, hh.cell 10, hh.cell 11, hh.cell 12, hh.cell 13⟩, fun hx => ?_, hh.lt, hin.below hb⟩
  rcases List.mem_cons.1 hx with hx | hx
  · have := h.lt.1; omega
  · have := h.lt.2 _ hx; omega
theorem RBox.mv' {w W W' : World} {p b0 : Nat} {s ot : List Nat} {M : List EntX} {Q : List Pt} {now : Int} {v : Evt} {A : Option Addr} {ca : Nat} {B : Option Addr} {cb : Nat} (h : RBox w p b0 s ot M Q now v A ca B cb W) (hb : Below W.heap.size W W') : RBox w p b0 s ot M Q now v A ca B cb W' :=
  ⟨h.ref.below hb, h.mv.trans (Mv.of_below hb _), h.bx.below hb h.lt, h.bn, Nat.lt_of_lt_of_le h.lt hb.size, h.ent.below hb⟩
theorem RBox.drew {w W : World} {p b0 : Nat} {s ot : List Nat} {M : List EntX} {Q : List Pt} {now : Int} {v : Evt} {A : Option Addr} {ca : Nat} {B : Option Addr} {cb : Nat} (h : RBox w p b0 s ot M Q now v A ca B cb W) : RBox w p b0 s ot M Q now v A ca B cb W.drew := h.mv' (Below.refl _ W).drew
theorem RefS.step {w w' : World} {p : Nat} {s s' ot : List Nat} {M : List EntX} {Q : List Pt} {now : Int} {st : Sta} (h : RefAt w' p s' ot M Q now) (hM : M.map EntX.e = st.P) (hQ : Q = st.Q) (hn : now = st.now) (hm : Mv w w' (p :: s)) (hs : ∀ y ∈ s', y ∈ s ∨ w.heap.size ≤ y) : RStep w p s ot st w' := by
  subst hQ hn
  exact ⟨s', ⟨M, hM, h⟩, hm, hs⟩
set_option maxRecDepth 100000 in
set_option maxHeartbeats 4000000 in
theorem rapply7_any {w : World} {p : Nat} {s ot : List Nat} {st : Sta} (h : RefS w p s ot st) {v : Evt} {A B : Option Addr} {ca cb : Nat} (hin : EntIn w ((p :: s) ++ ot) v.ent A ca B cb) (hk : v.kind = 7) :
    Calls Try.prog 14 #[.pointer (some ⟨p, 0, none⟩), v.val A ca B cb] w fun r w' => r = .returned (.tuple #[]) ∧ RStep w p s ot { st with now := v.now } w' := by
  obtain ⟨M, hM, hra⟩ := h
  have hbx := RBox.mk0 hra hin
  unfold Evt.val
  clear hin hra
  obtain ⟨kind, ⟨id, cls, born, slot, L, gone, H⟩, seq, idx, name, size, root, now⟩ := v
  dsimp only at *
  subst hk
  go_enter Try.func14, Try.ntmps14
  go_upto_region 1 with fail
  generalize w.alloc (.cells #[.int .i64 7, .string (S id), .int .i64 cls, .int .i64 born, .int .i64 slot, .slice A L.length ca, .bool gone, .slice B H.length cb, .int .i64 seq, .int .i64 idx, .string (S name), .int .i64 size, .string (S root), .int .i64 now] 37) = W0 at hbx ⊢
  generalize w.heap.size = b0 at hbx ⊢
  have HM := Lib.hid hM
  obtain ⟨PA, pca, PB, pcb, hh, -⟩ := hbx.ref.reads
  have p2 : W0.cell? ⟨p, 2, none⟩ = some (.int .i64 st.now) := hh.cell 2
  have f2 := hh.free 2
  obtain ⟨y0, y1, y2, y3, y4, y5, y6, y7, y8, y9, y10, y11, y12, y13⟩ := hbx.bx
  have HX := Lib.hid (hbx.ref.setNow now)
  have HMV := Lib.hid hbx.mv
  clear hM hh hbx
  go_wp2_with fail
  go_returns
  exact ⟨rfl, RefS.step HX.out.1 HM.out rfl rfl (HMV.out.trans HX.out.2) (fun y hy => Or.inl hy)⟩
end Go.Proofs.Ytojemaaljjibiaa

namespace Go.Proofs.Ytojemaaljjibiaa
open Go.RowKit
set_option linter.unusedVariables false

theorem papInfo : (Try.prog.info? 33).map (fun i => (i.zero, i.size, i.bytes)) = some (some (.agg #[.string ⟨#[]⟩, .int .i64 0, .int .i64 0, .int .i64 0, .slice none 0 0, .bool false, .slice none 0 0]), 7, 96) := by kernel_rfl
theorem ptInfo : (Try.prog.info? 35).map (fun i => (i.zero, i.size, i.bytes)) = some (some (.agg #[.int .i64 0, .string ⟨#[]⟩]), 2, 24) := by kernel_rfl
theorem wp_pap_append {op : Oper} {a : Act} {w : World} {K : Act → World → Prop} {Q : Exit → Act → World → Prop} (s x : Operand) (ho : op.op = .call { callee := .builtin .append, args := #[s, x], argTypes := #[26, 26] }) (t : Nat) (hd : op.dst = some t)
    (v : Value) (n : Nat) (h : List EntX) (hs : a.eval s = v) (hown : w.ownsRow 0 33 7 v n (xcs h)) (ad : Addr) (d : EntX) (hx : a.eval x = .slice (some ad) 1 1) (hnews : ∀ j u, d.cs[j]? = some u → w.cell? (ad.add j) = some u) (hn : n ≤ 1000000)
    (hk : ∀ g cap w', w'.ownsRow 0 33 7 (.slice (some ⟨g, 0, none⟩) (n + 1) cap) (n + 1) (xcs (h ++ [d])) → w.grownBy w' v.ownBlock → (v.ownBlock = some g ∨ g = w.heap.size) → g < w'.heap.size → K (Act.at a t (.slice (some ⟨g, 0, none⟩) (n + 1) cap)) w') : op.wp Try.prog a w K Q := by
  obtain ⟨i0, hi0, hz0, hz1, hz2⟩ := info_parts papInfo
  refine wp_append_lies _ s x 26 ho 0 33 i0 (.agg #[.string ⟨#[]⟩, .int .i64 0, .int .i64 0, .int .i64 0, .slice none 0 0, .bool false, .slice none 0 0]) 7 96 Try.underlying26 hi0 hz0 hz1 hz2 rfl (by decide) v n (xcs h) hs hown ad 1 1 d.cs hx rfl hnews (by intro u hu; simp [EntX.cs, Ent.cs] at hu; rcases hu with rfl | rfl | rfl | rfl | rfl | rfl | rfl <;> rfl) (by decide) (by simp only [maxLen]; omega) (by omega) (Nat.zero_le _) _ rfl ?_
  intro g cap' w3 h1 h2 h3 h4
  rw [hd]
  rw [xcs_snoc] at h1
  exact hk g cap' w3 h1 h2 h3 h4
theorem wp_pt_append {op : Oper} {a : Act} {w : World} {K : Act → World → Prop} {Q : Exit → Act → World → Prop} (s x : Operand) (ho : op.op = .call { callee := .builtin .append, args := #[s, x], argTypes := #[27, 27] }) (t : Nat) (hd : op.dst = some t)
    (v : Value) (n : Nat) (h : List Pt) (hs : a.eval s = v) (hown : w.ownsRow 0 35 2 v n (qcs h)) (ad : Addr) (d : Pt) (hx : a.eval x = .slice (some ad) 1 1) (hnews : ∀ j u, d.cs[j]? = some u → w.cell? (ad.add j) = some u) (hn : n ≤ 1000000)
    (hk : ∀ g cap w', w'.ownsRow 0 35 2 (.slice (some ⟨g, 0, none⟩) (n + 1) cap) (n + 1) (qcs (h ++ [d])) → w.grownBy w' v.ownBlock → (v.ownBlock = some g ∨ g = w.heap.size) → g < w'.heap.size → K (Act.at a t (.slice (some ⟨g, 0, none⟩) (n + 1) cap)) w') : op.wp Try.prog a w K Q := by
  obtain ⟨i0, hi0, hz0, hz1, hz2⟩ := info_parts ptInfo
  refine wp_append_lies _ s x 27 ho 0 35 i0 (.agg #[.int .i64 0, .string ⟨#[]⟩]) 2 24 Try.underlying27 hi0 hz0 hz1 hz2 rfl (by decide) v n (qcs h) hs hown ad 1 1 d.cs hx rfl hnews (by intro u hu; simp [Pt.cs] at hu; rcases hu with rfl | rfl <;> rfl) (by decide) (by simp only [maxLen]; omega) (by omega) (Nat.zero_le _) _ rfl ?_
  intro g cap' w3 h1 h2 h3 h4
  rw [hd]
  rw [qcs_snoc] at h1
  exact hk g cap' w3 h1 h2 h3 h4
theorem cell_keep {w w' : World} {b : Nat} (h : w'.heap[b]? = w.heap[b]?) (i : Nat) : w'.cell? ⟨b, i, none⟩ = w.cell? ⟨b, i, none⟩ := by simp only [World.cell?, h]
theorem papMade (w : World) (x : EntX) : ∀ (j : Nat) (u : Value), x.cs[j]? = some u → (w.alloc (.cells #[.string (S x.e.id), .int .i64 x.e.cls, .int .i64 x.e.born, .int .i64 x.e.slot, .slice x.A x.e.L.length x.ca, .bool x.e.gone, .slice x.B x.e.H.length x.cb] 33)).cell? ((⟨w.heap.size, 0, none⟩ : Addr).add j) = some u := by
  intro j u hu
  rw [add_flat', Nat.zero_add, (Has.made w 33 _).cell j]
  rw [← hu]
  unfold EntX.cs Ent.cs
  exact List.getElem?_toArray ..
theorem ptMade (w : World) (x : Pt) : ∀ (j : Nat) (u : Value), x.cs[j]? = some u → (w.alloc (.cells #[.int .i64 x.size, .string (S x.root)] 35)).cell? ((⟨w.heap.size, 0, none⟩ : Addr).add j) = some u := by
  intro j u hu
  rw [add_flat', Nat.zero_add, (Has.made w 35 _).cell j]
  rw [← hu]
  unfold Pt.cs
  exact List.getElem?_toArray ..
set_option maxRecDepth 100000 in
set_option maxHeartbeats 4000000 in
theorem rapply1_any {w : World} {p : Nat} {s ot : List Nat} {st : Sta} (h : RefS w p s ot st) {v : Evt} {A B : Option Addr} {ca cb : Nat} (hin : EntIn w ((p :: s) ++ ot) v.ent A ca B cb) (hk : v.kind = 1) (hlen : st.P.length ≤ 1000) :
    Calls Try.prog 14 #[.pointer (some ⟨p, 0, none⟩), v.val A ca B cb] w fun r w' => r = .returned (.tuple #[]) ∧ RStep w p s ot { st with P := st.P ++ [v.ent] } w' := by
  obtain ⟨M, hM, hra⟩ := h
  have hbx := RBox.mk0 hra hin
  unfold Evt.val
  clear hin hra
  obtain ⟨kind, ⟨id, cls, born, slot, L, gone, H⟩, seq, idx, name, size, root, now⟩ := v
  dsimp only at *
  subst hk
  go_enter Try.func14, Try.ntmps14
  go_upto_region 1 with fail
  generalize w.alloc (.cells #[.int .i64 1, .string (S id), .int .i64 cls, .int .i64 born, .int .i64 slot, .slice A L.length ca, .bool gone, .slice B H.length cb, .int .i64 seq, .int .i64 idx, .string (S name), .int .i64 size, .string (S root), .int .i64 now] 37) = W0 at hbx ⊢
  generalize w.heap.size = b0 at hbx ⊢
  have HM := Lib.hid hM
  have HBX := Lib.hid hbx
  obtain ⟨y0, y1, y2, y3, y4, y5, y6, y7, y8, y9, y10, y11, y12, y13⟩ := hbx.bx
  clear hM hbx
  have HLM := Lib.hid hlen
  have HLN : Hid (M.length ≤ 1000000) := Lib.hid (by have := congrArg List.length HM.out; rw [List.length_map] at this; omega)
  clear hlen
  go_upto_region 4 with fail
  have hS : EvBoxC 1 id cls born slot L.length gone H.length seq idx name size root now b0 A ca B cb W0.drew := HBX.out.drew.bx
  obtain ⟨PA, pca, PB, pcb, h1, h2, h3, h4⟩ := HBX.out.drew.ref.ex
  have HNE := Lib.hid (And.intro HBX.out.drew.ref.nd HBX.out.drew.ref.ents)
  have HSL : Hid (W0.drew.cell? ⟨p, 0, none⟩ = some (.slice PA M.length pca)) := Lib.hid (h1.cell 0)
  have HBD := Lib.hid HBX.out.drew
  have HEX := Lib.hid (And.intro h1 (And.intro h2 (And.intro h3 h4)))
  clear h1 h2 h3 h4 HBX y0 y1 y2 y3 y4 y5 y6 y7 y8 y9 y10 y11 y12 y13
  refine wp_region_held_drew (S := EvBoxC 1 id cls born slot L.length gone H.length seq idx name size root now b0 A ca B cb) (by kernel_rfl) hS (fun hHeld => ?_)
  generalize W0.drew = wd at hS hHeld HSL HEX HBD HNE ⊢
  first
  | (refine tkW (i := 0) (v := ?_) rfl rfl ?_ ?_; rotate_left; (focus (intro w hSw; (try dsimp only at hSw); go_simp; first | done | with_reducible rfl)); (simp only [Act.at, setIfInBounds_toArray, set_cons_zero, set_cons_succ]))
  | (refine tkU (i := 0) rfl rfl ?_; (simp only [Act.at, setIfInBounds_toArray, set_cons_zero, set_cons_succ]))
  first
  | (refine tkW (i := 1) (v := ?_) rfl rfl ?_ ?_; rotate_left; (focus (intro w hSw; (try dsimp only at hSw); go_simp; first | done | with_reducible rfl)); (simp only [Act.at, setIfInBounds_toArray, set_cons_zero, set_cons_succ]))
  | (refine tkU (i := 1) rfl rfl ?_; (simp only [Act.at, setIfInBounds_toArray, set_cons_zero, set_cons_succ]))
  first
  | (refine tkW (i := 2) (v := ?_) rfl rfl ?_ ?_; rotate_left; (focus (intro w hSw; (try dsimp only at hSw); go_simp; first | done | with_reducible rfl)); (simp only [Act.at, setIfInBounds_toArray, set_cons_zero, set_cons_succ]))
  | (refine tkU (i := 2) rfl rfl ?_; (simp only [Act.at, setIfInBounds_toArray, set_cons_zero, set_cons_succ]))
  first
  | (refine tkW (i := 3) (v := ?_) rfl rfl ?_ ?_; rotate_left; (focus (intro w hSw; (try dsimp only at hSw); go_simp; first | done | with_reducible rfl)); (simp only [Act.at, setIfInBounds_toArray, set_cons_zero, set_cons_succ]))
  | (refine tkU (i := 3) rfl rfl ?_; (simp only [Act.at, setIfInBounds_toArray, set_cons_zero, set_cons_succ]))
  first
  | (refine tkW (i := 5) (v := ?_) rfl rfl ?_ ?_; rotate_left; (focus (intro w hSw; (try dsimp only at hSw); go_simp; first | done | with_reducible rfl)); (simp only [Act.at, setIfInBounds_toArray, set_cons_zero, set_cons_succ]))
  | (refine tkU (i := 5) rfl rfl ?_; (simp only [Act.at, setIfInBounds_toArray, set_cons_zero, set_cons_succ]))
  first
  | (refine tkW (i := 6) (v := ?_) rfl rfl ?_ ?_; rotate_left; (focus (intro w hSw; (try dsimp only at hSw); go_simp; first | done | with_reducible rfl)); (simp only [Act.at, setIfInBounds_toArray, set_cons_zero, set_cons_succ]))
  | (refine tkU (i := 6) rfl rfl ?_; (simp only [Act.at, setIfInBounds_toArray, set_cons_zero, set_cons_succ]))
  have hh1 : Below wd.heap.size wd (wd.alloc (.cells #[.string (S id), .int .i64 cls, .int .i64 born, .int .i64 slot, .slice A L.length ca, .bool gone, .slice B H.length cb] 33)) := (Below.refl _ wd).alloc (Nat.le_refl _) _
  have hS2 : EvBoxC 1 id cls born slot L.length gone H.length seq idx name size root now b0 A ca B cb (wd.alloc (.cells #[.string (S id), .int .i64 cls, .int .i64 born, .int .i64 slot, .slice A L.length ca, .bool gone, .slice B H.length cb] 33)) := (HBD.out.mv' hh1).bx
  have HMD := Lib.hid (papMade wd ⟨⟨id, cls, born, slot, L, gone, H⟩, A, ca, B, cb⟩)
  have HX2 := Lib.hid (And.intro (HEX.out.1.below hh1 HEX.out.1.lt) (And.intro (HEX.out.2.1.alloc (.cells #[.string (S id), .int .i64 cls, .int .i64 born, .int .i64 slot, .slice A L.length ca, .bool gone, .slice B H.length cb] 33)) (And.intro (HEX.out.2.2.1.alloc (.cells #[.string (S id), .int .i64 cls, .int .i64 born, .int .i64 slot, .slice A L.length ca, .bool gone, .slice B H.length cb] 33)) HEX.out.2.2.2)))
  have HBD2 := Lib.hid (HBD.out.mv' hh1)
  have HSL2 : Hid ((wd.alloc (.cells #[.string (S id), .int .i64 cls, .int .i64 born, .int .i64 slot, .slice A L.length ca, .bool gone, .slice B H.length cb] 33)).cell? ⟨p, 0, none⟩ = some (.slice PA M.length pca)) := Lib.hid (HX2.out.1.cell 0)
  have HPL : Hid (p < wd.heap.size) := Lib.hid HEX.out.1.lt
  have HAFT : Hid (∀ (w3 : World) (g cap : Nat), w3.ownsRow 0 33 7 (.slice (some ⟨g, 0, none⟩) (M.length + 1) cap) (M.length + 1) (xcs (M ++ [⟨⟨id, cls, born, slot, L, gone, H⟩, A, ca, B, cb⟩])) → (wd.alloc (.cells #[.string (S id), .int .i64 cls, .int .i64 born, .int .i64 slot, .slice A L.length ca, .bool gone, .slice B H.length cb] 33)).grownBy w3 (Value.slice PA M.length pca).ownBlock → ((Value.slice PA M.length pca).ownBlock = some g ∨ (wd.alloc (.cells #[.string (S id), .int .i64 cls, .int .i64 born, .int .i64 slot, .slice A L.length ca, .bool gone, .slice B H.length cb] 33)).heap.size ≤ g) →
      (Has w3 p 29 #[.slice PA M.length pca, .slice PB st.Q.length pcb, .int .i64 st.now] ∧ EvBoxC 1 id cls born slot L.length gone H.length seq idx name size root now b0 A ca B cb w3) ∧ (EvBoxC 1 id cls born slot L.length gone H.length seq idx name size root now b0 A ca B cb (w3.setCell ⟨p, 0, none⟩ (.slice (some ⟨g, 0, none⟩) (M.length + 1) cap))) ∧ RStep w p s ot { st with P := st.P ++ [⟨id, cls, born, slot, L, gone, H⟩] } (w3.setCell ⟨p, 0, none⟩ (.slice (some ⟨g, 0, none⟩) (M.length + 1) cap))) := Lib.hid (fun w3 g cap ho hg hgb => by
    have hne : (Value.slice PA M.length pca).ownBlock ≠ some p := fun e => (List.nodup_cons.1 HNE.out.1).1 (by rw [HX2.out.2.2.2, e]; simp)
    have hnb : (Value.slice PA M.length pca).ownBlock ≠ some b0 := fun e => HBD2.out.bn (List.mem_cons_of_mem _ (by rw [HX2.out.2.2.2, e]; simp))
    have hp3 : Has w3 p 29 #[.slice PA M.length pca, .slice PB st.Q.length pcb, .int .i64 st.now] := (hg.block p HX2.out.1.lt (fun e => hne e.symm)).trans HX2.out.1
    have hb3 : EvBoxC 1 id cls born slot L.length gone H.length seq idx name size root now b0 A ca B cb w3 := by
      have m := fun (i : Nat) (x : Value) (hc : (wd.alloc (.cells #[.string (S id), .int .i64 cls, .int .i64 born, .int .i64 slot, .slice A L.length ca, .bool gone, .slice B H.length cb] 33)).cell? ⟨b0, i, none⟩ = some x) => (cell_keep (hg.block b0 HBD2.out.lt (fun e => hnb e.symm)) i).trans hc
      obtain ⟨h0, h1, h2, h3, h4, h5, h6, h7, h8, h9, h10, h11, h12, h13⟩ := hS2
      exact ⟨m _ _ h0, m _ _ h1, m _ _ h2, m _ _ h3, m _ _ h4, m _ _ h5, m _ _ h6, m _ _ h7, m _ _ h8, m _ _ h9, m _ _ h10, m _ _ h11, m _ _ h12, m _ _ h13⟩
    have hb0p : b0 ≠ p := fun e => HBD2.out.bn (by rw [e]; exact List.mem_cons_self ..)
    have hb4 : EvBoxC 1 id cls born slot L.length gone H.length seq idx name size root now b0 A ca B cb (w3.setCell ⟨p, 0, none⟩ (.slice (some ⟨g, 0, none⟩) (M.length + 1) cap)) := by
      have m := fun (i : Nat) (x : Value) (hc : w3.cell? ⟨b0, i, none⟩ = some x) => (cell_keep (Below.heap_setCell w3 ⟨p, 0, none⟩ (.slice (some ⟨g, 0, none⟩) (M.length + 1) cap) b0 hb0p) i).trans hc
      obtain ⟨h0, h1, h2, h3, h4, h5, h6, h7, h8, h9, h10, h11, h12, h13⟩ := hb3
      exact ⟨m _ _ h0, m _ _ h1, m _ _ h2, m _ _ h3, m _ _ h4, m _ _ h5, m _ _ h6, m _ _ h7, m _ _ h8, m _ _ h9, m _ _ h10, m _ _ h11, m _ _ h12, m _ _ h13⟩
    obtain ⟨s', q1, q2, q3⟩ := RefAt.pushP HX2.out.1 HX2.out.2.1 HX2.out.2.2.1 HX2.out.2.2.2 HNE.out.1 HBD2.out.ref.ents HBD2.out.ref.ul (x := ⟨⟨id, cls, born, slot, L, gone, H⟩, A, ca, B, cb⟩) HBD2.out.ent ho hg hgb
    exact ⟨⟨hp3, hb3⟩, hb4, RefS.step q1 (by rw [List.map_append, HM.out]; rfl) rfl rfl (HBD2.out.mv.trans q2) (fun y hy => (q3 y hy).imp (fun h => h) (fun h => Nat.le_trans HBD2.out.mv.size h))⟩)
  obtain ⟨wd2, hwd2⟩ : ∃ W, wd.alloc (.cells #[.string (S id), .int .i64 cls, .int .i64 born, .int .i64 slot, .slice A L.length ca, .bool gone, .slice B H.length cb] 33) = W := ⟨_, rfl⟩
  obtain ⟨b2, hb2⟩ : ∃ b, wd.heap.size = b := ⟨_, rfl⟩
  rw [hwd2] at hS2 HX2 HSL2 HAFT HMD HBD2
  rw [hb2] at HMD
  have HWD := Lib.hid hwd2
  have HB2 := Lib.hid hb2
  clear hwd2 hb2 hh1
  refine takeTwo (i := 4) (j := 7) (by kernel_rfl) rfl rfl (by rfl) (by rfl) (fun K hK => ?_) (fun K hK => ?_)
  · have hsl := HSL.out
    go_simp
    refine hK.out _ _ hS (fun hHeld => ?_)
    clear hK K
    try simp only [Act.put, setIfInBounds_toArray, set_cons_zero, set_cons_succ]
    clear hsl
    refine takeOne (i := 7) (by kernel_rfl) rfl (by rfl) (fun K hK => ?_)
    go_simp
    rw [HWD.out, HB2.out]
    refine hK.out _ _ hS2 (fun hHeld => ?_)
    clear hK K
    try simp only [Act.put, setIfInBounds_toArray, set_cons_zero, set_cons_succ]
    refine takeOne (i := 8) (by kernel_rfl) rfl (by rfl) (fun K hK => ?_)
    refine wp_pap_append (.tmp 17) (.tmp 20) rfl 21 rfl (.slice PA M.length pca) M.length M rfl HX2.out.2.1 ⟨b2, 0, none⟩ ⟨⟨id, cls, born, slot, L, gone, H⟩, A, ca, B, cb⟩ rfl HMD.out HLN.out ?_
    intro g cap' w3 hown3 hg3 hgb3 hlt3
    obtain ⟨⟨hp3, hb3⟩, hb4, hr3⟩ := HAFT.out w3 g cap' hown3 hg3 (hgb3.imp (fun h => h) (fun h => Nat.le_of_eq h.symm))
    have HR3 := Lib.hid hr3
    have hsl3 : w3.cell? ⟨p, 0, none⟩ = some (.slice PA M.length pca) := hp3.cell 0
    have hfr3 : w3.frozen? ⟨p, 0, none⟩ = false := hp3.free 0
    clear hown3 hg3 hgb3 hlt3 hp3 hr3 HAFT
    refine hK.out _ _ hb3 (fun hHeld => ?_)
    clear hK K
    try simp only [Act.put, setIfInBounds_toArray, set_cons_zero, set_cons_succ]
    simp only [Act.at, setIfInBounds_toArray, set_cons_zero, set_cons_succ]
    first
    | (refine tkW (i := 9) (v := ?_) rfl rfl ?_ ?_; rotate_left; (focus (intro w hSw; (try dsimp only at hSw); go_simp; first | done | with_reducible rfl)); (simp only [Act.at, setIfInBounds_toArray, set_cons_zero, set_cons_succ]))
    | (refine tkU (i := 9) rfl rfl ?_; (simp only [Act.at, setIfInBounds_toArray, set_cons_zero, set_cons_succ]))
    first
    | (refine tkW (i := 10) (v := ?_) rfl rfl ?_ ?_; rotate_left; (focus (intro w hSw; (try dsimp only at hSw); go_simp; first | done | with_reducible rfl)); (simp only [Act.at, setIfInBounds_toArray, set_cons_zero, set_cons_succ]))
    | (refine tkU (i := 10) rfl rfl ?_; (simp only [Act.at, setIfInBounds_toArray, set_cons_zero, set_cons_succ]))
    refine takeOne (i := 11) (by kernel_rfl) rfl (by rfl) (fun K hK => ?_)
    go_simp
    refine hK.out _ _ hb4 (fun hHeld => ?_)
    clear hK K
    try simp only [Act.put, setIfInBounds_toArray, set_cons_zero, set_cons_succ]
    refine wpAnyH_done (by kernel_rfl) ?_ _
    clear hsl3 hfr3 hb3 hb4
    go_wp2_with fail
    go_returns
    exact ⟨rfl, HR3.out⟩
  · go_simp
    rw [HWD.out, HB2.out]
    refine hK.out _ _ hS2 (fun hHeld => ?_)
    clear hK K
    try simp only [Act.put, setIfInBounds_toArray, set_cons_zero, set_cons_succ]
    refine takeOne (i := 4) (by kernel_rfl) rfl (by rfl) (fun K hK => ?_)
    have hsl := HSL2.out
    go_simp
    refine hK.out _ _ hS2 (fun hHeld => ?_)
    clear hK K
    try simp only [Act.put, setIfInBounds_toArray, set_cons_zero, set_cons_succ]
    clear hsl
    refine takeOne (i := 8) (by kernel_rfl) rfl (by rfl) (fun K hK => ?_)
    refine wp_pap_append (.tmp 17) (.tmp 20) rfl 21 rfl (.slice PA M.length pca) M.length M rfl HX2.out.2.1 ⟨b2, 0, none⟩ ⟨⟨id, cls, born, slot, L, gone, H⟩, A, ca, B, cb⟩ rfl HMD.out HLN.out ?_
    intro g cap' w3 hown3 hg3 hgb3 hlt3
    obtain ⟨⟨hp3, hb3⟩, hb4, hr3⟩ := HAFT.out w3 g cap' hown3 hg3 (hgb3.imp (fun h => h) (fun h => Nat.le_of_eq h.symm))
    have HR3 := Lib.hid hr3
    have hsl3 : w3.cell? ⟨p, 0, none⟩ = some (.slice PA M.length pca) := hp3.cell 0
    have hfr3 : w3.frozen? ⟨p, 0, none⟩ = false := hp3.free 0
    clear hown3 hg3 hgb3 hlt3 hp3 hr3 HAFT
    refine hK.out _ _ hb3 (fun hHeld => ?_)
    clear hK K
    try simp only [Act.put, setIfInBounds_toArray, set_cons_zero, set_cons_succ]
    simp only [Act.at, setIfInBounds_toArray, set_cons_zero, set_cons_succ]
    first
    | (refine tkW (i := 9) (v := ?_) rfl rfl ?_ ?_; rotate_left; (focus (intro w hSw; (try dsimp only at hSw); go_simp; first | done | with_reducible rfl)); (simp only [Act.at, setIfInBounds_toArray, set_cons_zero, set_cons_succ]))
    | (refine tkU (i := 9) rfl rfl ?_; (simp only [Act.at, setIfInBounds_toArray, set_cons_zero, set_cons_succ]))
    first
    | (refine tkW (i := 10) (v := ?_) rfl rfl ?_ ?_; rotate_left; (focus (intro w hSw; (try dsimp only at hSw); go_simp; first | done | with_reducible rfl)); (simp only [Act.at, setIfInBounds_toArray, set_cons_zero, set_cons_succ]))
    | (refine tkU (i := 10) rfl rfl ?_; (simp only [Act.at, setIfInBounds_toArray, set_cons_zero, set_cons_succ]))
    refine takeOne (i := 11) (by kernel_rfl) rfl (by rfl) (fun K hK => ?_)
    go_simp
    refine hK.out _ _ hb4 (fun hHeld => ?_)
    clear hK K
    try simp only [Act.put, setIfInBounds_toArray, set_cons_zero, set_cons_succ]
    refine wpAnyH_done (by kernel_rfl) ?_ _
    clear hsl3 hfr3 hb3 hb4
    go_wp2_with fail
    go_returns
    exact ⟨rfl, HR3.out⟩
set_option maxRecDepth 100000 in
set_option maxHeartbeats 4000000 in
theorem rapply6_any {w : World} {p : Nat} {s ot : List Nat} {st : Sta} (h : RefS w p s ot st) {v : Evt} {A B : Option Addr} {ca cb : Nat} (hin : EntIn w ((p :: s) ++ ot) v.ent A ca B cb) (hk : v.kind = 6) (hlen : st.Q.length ≤ 1000) :
    Calls Try.prog 14 #[.pointer (some ⟨p, 0, none⟩), v.val A ca B cb] w fun r w' => r = .returned (.tuple #[]) ∧ RStep w p s ot { st with Q := st.Q ++ [⟨v.size, v.root⟩] } w' := by
  obtain ⟨M, hM, hra⟩ := h
  have hbx := RBox.mk0 hra hin
  unfold Evt.val
  clear hin hra
  obtain ⟨kind, ⟨id, cls, born, slot, L, gone, H⟩, seq, idx, name, size, root, now⟩ := v
  dsimp only at *
  subst hk
  go_enter Try.func14, Try.ntmps14
  go_upto_region 1 with fail
  generalize w.alloc (.cells #[.int .i64 6, .string (S id), .int .i64 cls, .int .i64 born, .int .i64 slot, .slice A L.length ca, .bool gone, .slice B H.length cb, .int .i64 seq, .int .i64 idx, .string (S name), .int .i64 size, .string (S root), .int .i64 now] 37) = W0 at hbx ⊢
  generalize w.heap.size = b0 at hbx ⊢
  have HM := Lib.hid hM
  have HBX := Lib.hid hbx
  obtain ⟨y0, y1, y2, y3, y4, y5, y6, y7, y8, y9, y10, y11, y12, y13⟩ := hbx.bx
  clear hM hbx
  have HLM := Lib.hid hlen
  have HLN : Hid (st.Q.length ≤ 1000000) := Lib.hid (by omega)
  clear hlen
  go_upto_region 14 with fail
  have hS : EvBoxC 6 id cls born slot L.length gone H.length seq idx name size root now b0 A ca B cb W0.drew := HBX.out.drew.bx
  obtain ⟨PA, pca, PB, pcb, h1, h2, h3, h4⟩ := HBX.out.drew.ref.ex
  have HNE := Lib.hid (And.intro HBX.out.drew.ref.nd HBX.out.drew.ref.ents)
  have HSL : Hid (W0.drew.cell? ⟨p, 1, none⟩ = some (.slice PB st.Q.length pcb)) := Lib.hid (h1.cell 1)
  have HBD := Lib.hid HBX.out.drew
  have HEX := Lib.hid (And.intro h1 (And.intro h2 (And.intro h3 h4)))
  clear h1 h2 h3 h4 HBX y0 y1 y2 y3 y4 y5 y6 y7 y8 y9 y10 y11 y12 y13
  refine wp_region_held_drew (S := EvBoxC 6 id cls born slot L.length gone H.length seq idx name size root now b0 A ca B cb) (by kernel_rfl) hS (fun hHeld => ?_)
  generalize W0.drew = wd at hS hHeld HSL HEX HBD HNE ⊢
  first
  | (refine tkW (i := 0) (v := ?_) rfl rfl ?_ ?_; rotate_left; (focus (intro w hSw; (try dsimp only at hSw); go_simp; first | done | with_reducible rfl)); (simp only [Act.at, setIfInBounds_toArray, set_cons_zero, set_cons_succ]))
  | (refine tkU (i := 0) rfl rfl ?_; (simp only [Act.at, setIfInBounds_toArray, set_cons_zero, set_cons_succ]))
  first
  | (refine tkW (i := 1) (v := ?_) rfl rfl ?_ ?_; rotate_left; (focus (intro w hSw; (try dsimp only at hSw); go_simp; first | done | with_reducible rfl)); (simp only [Act.at, setIfInBounds_toArray, set_cons_zero, set_cons_succ]))
  | (refine tkU (i := 1) rfl rfl ?_; (simp only [Act.at, setIfInBounds_toArray, set_cons_zero, set_cons_succ]))
  first
  | (refine tkW (i := 2) (v := ?_) rfl rfl ?_ ?_; rotate_left; (focus (intro w hSw; (try dsimp only at hSw); go_simp; first | done | with_reducible rfl)); (simp only [Act.at, setIfInBounds_toArray, set_cons_zero, set_cons_succ]))
  | (refine tkU (i := 2) rfl rfl ?_; (simp only [Act.at, setIfInBounds_toArray, set_cons_zero, set_cons_succ]))
  first
  | (refine tkW (i := 3) (v := ?_) rfl rfl ?_ ?_; rotate_left; (focus (intro w hSw; (try dsimp only at hSw); go_simp; first | done | with_reducible rfl)); (simp only [Act.at, setIfInBounds_toArray, set_cons_zero, set_cons_succ]))
  | (refine tkU (i := 3) rfl rfl ?_; (simp only [Act.at, setIfInBounds_toArray, set_cons_zero, set_cons_succ]))
  first
  | (refine tkW (i := 5) (v := ?_) rfl rfl ?_ ?_; rotate_left; (focus (intro w hSw; (try dsimp only at hSw); go_simp; first | done | with_reducible rfl)); (simp only [Act.at, setIfInBounds_toArray, set_cons_zero, set_cons_succ]))
  | (refine tkU (i := 5) rfl rfl ?_; (simp only [Act.at, setIfInBounds_toArray, set_cons_zero, set_cons_succ]))
  first
  | (refine tkW (i := 6) (v := ?_) rfl rfl ?_ ?_; rotate_left; (focus (intro w hSw; (try dsimp only at hSw); go_simp; first | done | with_reducible rfl)); (simp only [Act.at, setIfInBounds_toArray, set_cons_zero, set_cons_succ]))
  | (refine tkU (i := 6) rfl rfl ?_; (simp only [Act.at, setIfInBounds_toArray, set_cons_zero, set_cons_succ]))
  have hh1 : Below wd.heap.size wd (wd.alloc (.cells #[.int .i64 size, .string (S root)] 35)) := (Below.refl _ wd).alloc (Nat.le_refl _) _
  have hS2 : EvBoxC 6 id cls born slot L.length gone H.length seq idx name size root now b0 A ca B cb (wd.alloc (.cells #[.int .i64 size, .string (S root)] 35)) := (HBD.out.mv' hh1).bx
  have HMD := Lib.hid (ptMade wd ⟨size, root⟩)
  have HX2 := Lib.hid (And.intro (HEX.out.1.below hh1 HEX.out.1.lt) (And.intro (HEX.out.2.1.alloc (.cells #[.int .i64 size, .string (S root)] 35)) (And.intro (HEX.out.2.2.1.alloc (.cells #[.int .i64 size, .string (S root)] 35)) HEX.out.2.2.2)))
  have HBD2 := Lib.hid (HBD.out.mv' hh1)
  have HSL2 : Hid ((wd.alloc (.cells #[.int .i64 size, .string (S root)] 35)).cell? ⟨p, 1, none⟩ = some (.slice PB st.Q.length pcb)) := Lib.hid (HX2.out.1.cell 1)
  have HPL : Hid (p < wd.heap.size) := Lib.hid HEX.out.1.lt
  have HAFT : Hid (∀ (w3 : World) (g cap : Nat), w3.ownsRow 0 35 2 (.slice (some ⟨g, 0, none⟩) (st.Q.length + 1) cap) (st.Q.length + 1) (qcs (st.Q ++ [⟨size, root⟩])) → (wd.alloc (.cells #[.int .i64 size, .string (S root)] 35)).grownBy w3 (Value.slice PB st.Q.length pcb).ownBlock → ((Value.slice PB st.Q.length pcb).ownBlock = some g ∨ (wd.alloc (.cells #[.int .i64 size, .string (S root)] 35)).heap.size ≤ g) →
      (Has w3 p 29 #[.slice PA M.length pca, .slice PB st.Q.length pcb, .int .i64 st.now] ∧ EvBoxC 6 id cls born slot L.length gone H.length seq idx name size root now b0 A ca B cb w3) ∧ (EvBoxC 6 id cls born slot L.length gone H.length seq idx name size root now b0 A ca B cb (w3.setCell ⟨p, 1, none⟩ (.slice (some ⟨g, 0, none⟩) (st.Q.length + 1) cap))) ∧ RStep w p s ot { st with Q := st.Q ++ [⟨size, root⟩] } (w3.setCell ⟨p, 1, none⟩ (.slice (some ⟨g, 0, none⟩) (st.Q.length + 1) cap))) := Lib.hid (fun w3 g cap ho hg hgb => by
    have hne : (Value.slice PB st.Q.length pcb).ownBlock ≠ some p := fun e => (List.nodup_cons.1 HNE.out.1).1 (by rw [HX2.out.2.2.2, e]; simp)
    have hnb : (Value.slice PB st.Q.length pcb).ownBlock ≠ some b0 := fun e => HBD2.out.bn (List.mem_cons_of_mem _ (by rw [HX2.out.2.2.2, e]; simp))
    have hp3 : Has w3 p 29 #[.slice PA M.length pca, .slice PB st.Q.length pcb, .int .i64 st.now] := (hg.block p HX2.out.1.lt (fun e => hne e.symm)).trans HX2.out.1
    have hb3 : EvBoxC 6 id cls born slot L.length gone H.length seq idx name size root now b0 A ca B cb w3 := by
      have m := fun (i : Nat) (x : Value) (hc : (wd.alloc (.cells #[.int .i64 size, .string (S root)] 35)).cell? ⟨b0, i, none⟩ = some x) => (cell_keep (hg.block b0 HBD2.out.lt (fun e => hnb e.symm)) i).trans hc
      obtain ⟨h0, h1, h2, h3, h4, h5, h6, h7, h8, h9, h10, h11, h12, h13⟩ := hS2
      exact ⟨m _ _ h0, m _ _ h1, m _ _ h2, m _ _ h3, m _ _ h4, m _ _ h5, m _ _ h6, m _ _ h7, m _ _ h8, m _ _ h9, m _ _ h10, m _ _ h11, m _ _ h12, m _ _ h13⟩
    have hb0p : b0 ≠ p := fun e => HBD2.out.bn (by rw [e]; exact List.mem_cons_self ..)
    have hb4 : EvBoxC 6 id cls born slot L.length gone H.length seq idx name size root now b0 A ca B cb (w3.setCell ⟨p, 1, none⟩ (.slice (some ⟨g, 0, none⟩) (st.Q.length + 1) cap)) := by
      have m := fun (i : Nat) (x : Value) (hc : w3.cell? ⟨b0, i, none⟩ = some x) => (cell_keep (Below.heap_setCell w3 ⟨p, 1, none⟩ (.slice (some ⟨g, 0, none⟩) (st.Q.length + 1) cap) b0 hb0p) i).trans hc
      obtain ⟨h0, h1, h2, h3, h4, h5, h6, h7, h8, h9, h10, h11, h12, h13⟩ := hb3
      exact ⟨m _ _ h0, m _ _ h1, m _ _ h2, m _ _ h3, m _ _ h4, m _ _ h5, m _ _ h6, m _ _ h7, m _ _ h8, m _ _ h9, m _ _ h10, m _ _ h11, m _ _ h12, m _ _ h13⟩
    obtain ⟨s', q1, q2, q3⟩ := RefAt.pushQ HX2.out.1 HX2.out.2.1 HX2.out.2.2.1 HX2.out.2.2.2 HNE.out.1 HBD2.out.ref.ents HBD2.out.ref.ul (q := ⟨size, root⟩) ho hg hgb
    exact ⟨⟨hp3, hb3⟩, hb4, RefS.step q1 HM.out rfl rfl (HBD2.out.mv.trans q2) (fun y hy => (q3 y hy).imp (fun h => h) (fun h => Nat.le_trans HBD2.out.mv.size h))⟩)
  obtain ⟨wd2, hwd2⟩ : ∃ W, wd.alloc (.cells #[.int .i64 size, .string (S root)] 35) = W := ⟨_, rfl⟩
  obtain ⟨b2, hb2⟩ : ∃ b, wd.heap.size = b := ⟨_, rfl⟩
  rw [hwd2] at hS2 HX2 HSL2 HAFT HMD HBD2
  rw [hb2] at HMD
  have HWD := Lib.hid hwd2
  have HB2 := Lib.hid hb2
  clear hwd2 hb2 hh1
  refine takeTwo (i := 4) (j := 7) (by kernel_rfl) rfl rfl (by rfl) (by rfl) (fun K hK => ?_) (fun K hK => ?_)
  · have hsl := HSL.out
    go_simp
    refine hK.out _ _ hS (fun hHeld => ?_)
    clear hK K
    try simp only [Act.put, setIfInBounds_toArray, set_cons_zero, set_cons_succ]
    clear hsl
    refine takeOne (i := 7) (by kernel_rfl) rfl (by rfl) (fun K hK => ?_)
    go_simp
    rw [HWD.out, HB2.out]
    refine hK.out _ _ hS2 (fun hHeld => ?_)
    clear hK K
    try simp only [Act.put, setIfInBounds_toArray, set_cons_zero, set_cons_succ]
    refine takeOne (i := 8) (by kernel_rfl) rfl (by rfl) (fun K hK => ?_)
    refine wp_pt_append (.tmp 106) (.tmp 109) rfl 110 rfl (.slice PB st.Q.length pcb) st.Q.length st.Q rfl HX2.out.2.2.1 ⟨b2, 0, none⟩ ⟨size, root⟩ rfl HMD.out HLN.out ?_
    intro g cap' w3 hown3 hg3 hgb3 hlt3
    obtain ⟨⟨hp3, hb3⟩, hb4, hr3⟩ := HAFT.out w3 g cap' hown3 hg3 (hgb3.imp (fun h => h) (fun h => Nat.le_of_eq h.symm))
    have HR3 := Lib.hid hr3
    have hsl3 : w3.cell? ⟨p, 1, none⟩ = some (.slice PB st.Q.length pcb) := hp3.cell 1
    have hfr3 : w3.frozen? ⟨p, 1, none⟩ = false := hp3.free 1
    clear hown3 hg3 hgb3 hlt3 hp3 hr3 HAFT
    refine hK.out _ _ hb3 (fun hHeld => ?_)
    clear hK K
    try simp only [Act.put, setIfInBounds_toArray, set_cons_zero, set_cons_succ]
    simp only [Act.at, setIfInBounds_toArray, set_cons_zero, set_cons_succ]
    first
    | (refine tkW (i := 9) (v := ?_) rfl rfl ?_ ?_; rotate_left; (focus (intro w hSw; (try dsimp only at hSw); go_simp; first | done | with_reducible rfl)); (simp only [Act.at, setIfInBounds_toArray, set_cons_zero, set_cons_succ]))
    | (refine tkU (i := 9) rfl rfl ?_; (simp only [Act.at, setIfInBounds_toArray, set_cons_zero, set_cons_succ]))
    first
    | (refine tkW (i := 10) (v := ?_) rfl rfl ?_ ?_; rotate_left; (focus (intro w hSw; (try dsimp only at hSw); go_simp; first | done | with_reducible rfl)); (simp only [Act.at, setIfInBounds_toArray, set_cons_zero, set_cons_succ]))
    | (refine tkU (i := 10) rfl rfl ?_; (simp only [Act.at, setIfInBounds_toArray, set_cons_zero, set_cons_succ]))
    refine takeOne (i := 11) (by kernel_rfl) rfl (by rfl) (fun K hK => ?_)
    go_simp
    refine hK.out _ _ hb4 (fun hHeld => ?_)
    clear hK K
    try simp only [Act.put, setIfInBounds_toArray, set_cons_zero, set_cons_succ]
    refine wpAnyH_done (by kernel_rfl) ?_ _
    clear hsl3 hfr3 hb3 hb4
    go_wp2_with fail
    go_returns
    exact ⟨rfl, HR3.out⟩
  · go_simp
    rw [HWD.out, HB2.out]
    refine hK.out _ _ hS2 (fun hHeld => ?_)
    clear hK K
    try simp only [Act.put, setIfInBounds_toArray, set_cons_zero, set_cons_succ]
    refine takeOne (i := 4) (by kernel_rfl) rfl (by rfl) (fun K hK => ?_)
    have hsl := HSL2.out
    go_simp
    refine hK.out _ _ hS2 (fun hHeld => ?_)
    clear hK K
    try simp only [Act.put, setIfInBounds_toArray, set_cons_zero, set_cons_succ]
    clear hsl
    refine takeOne (i := 8) (by kernel_rfl) rfl (by rfl) (fun K hK => ?_)
    refine wp_pt_append (.tmp 106) (.tmp 109) rfl 110 rfl (.slice PB st.Q.length pcb) st.Q.length st.Q rfl HX2.out.2.2.1 ⟨b2, 0, none⟩ ⟨size, root⟩ rfl HMD.out HLN.out ?_
    intro g cap' w3 hown3 hg3 hgb3 hlt3
    obtain ⟨⟨hp3, hb3⟩, hb4, hr3⟩ := HAFT.out w3 g cap' hown3 hg3 (hgb3.imp (fun h => h) (fun h => Nat.le_of_eq h.symm))
    have HR3 := Lib.hid hr3
    have hsl3 : w3.cell? ⟨p, 1, none⟩ = some (.slice PB st.Q.length pcb) := hp3.cell 1
    have hfr3 : w3.frozen? ⟨p, 1, none⟩ = false := hp3.free 1
    clear hown3 hg3 hgb3 hlt3 hp3 hr3 HAFT
    refine hK.out _ _ hb3 (fun hHeld => ?_)
    clear hK K
    try simp only [Act.put, setIfInBounds_toArray, set_cons_zero, set_cons_succ]
    simp only [Act.at, setIfInBounds_toArray, set_cons_zero, set_cons_succ]
    first
    | (refine tkW (i := 9) (v := ?_) rfl rfl ?_ ?_; rotate_left; (focus (intro w hSw; (try dsimp only at hSw); go_simp; first | done | with_reducible rfl)); (simp only [Act.at, setIfInBounds_toArray, set_cons_zero, set_cons_succ]))
    | (refine tkU (i := 9) rfl rfl ?_; (simp only [Act.at, setIfInBounds_toArray, set_cons_zero, set_cons_succ]))
    first
    | (refine tkW (i := 10) (v := ?_) rfl rfl ?_ ?_; rotate_left; (focus (intro w hSw; (try dsimp only at hSw); go_simp; first | done | with_reducible rfl)); (simp only [Act.at, setIfInBounds_toArray, set_cons_zero, set_cons_succ]))
    | (refine tkU (i := 10) rfl rfl ?_; (simp only [Act.at, setIfInBounds_toArray, set_cons_zero, set_cons_succ]))
    refine takeOne (i := 11) (by kernel_rfl) rfl (by rfl) (fun K hK => ?_)
    go_simp
    refine hK.out _ _ hb4 (fun hHeld => ?_)
    clear hK K
    try simp only [Act.put, setIfInBounds_toArray, set_cons_zero, set_cons_succ]
    refine wpAnyH_done (by kernel_rfl) ?_ _
    clear hsl3 hfr3 hb3 hb4
    go_wp2_with fail
    go_returns
    exact ⟨rfl, HR3.out⟩
end Go.Proofs.Ytojemaaljjibiaa
