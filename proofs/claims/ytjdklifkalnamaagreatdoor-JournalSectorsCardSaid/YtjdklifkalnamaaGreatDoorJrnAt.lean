/-
  What a journal is to the statement's law: sixty sectors from the third on, of the seed 7.
-/
import Derived.Test.YtjdklifkalnamaaGreatDoorJrnI
import Derived.Test.YtjdklifkalnamaaGreatDoorJrnTxt
import Derived.Test.YtjdklifkalnamaaGreatDoorDskN
namespace Go.Proofs.YtjdklifkalnamaaGreatDoor
open Go.RowKit
set_option linter.unusedVariables false

namespace Jrn
/-- Nothing waits: what is read is what lasts. -/
theorem rx_rs {d : Dsk.St} (hu : d.up = true) (h : ∀ (k : Nat) (x : Dsk.Sec), d.secs[k]? = some x → x.pend = none) : rx d = rs d := by
  funext k
  unfold rx
  by_cases hk : k < d.secs.length
  · have hx := List.getElem?_eq_getElem hk
    have hp := h k _ hx
    have hn : (d.secs[k]'hk).now = (d.secs[k]'hk).sure := by unfold Dsk.Sec.now; rw [hp]
    have hr : Dsk.read d (k : Int) = ((d.secs[k]'hk).sure, 0) := by
      unfold Dsk.read
      rw [if_neg (by rw [hu]; decide), if_neg (by omega), Int.toNat_natCast, hx]
      dsimp only [Option.map_some, Option.getD_some]
      rw [hn]
    rw [read_eq, hr, rs_some hx, if_neg (by simp)]
    dsimp only
    rw [Int.toNat_natCast]
  · have hx : d.secs[k]? = none := List.getElem?_eq_none (by omega)
    have hr : Dsk.read d (k : Int) = ([], 5) := by
      unfold Dsk.read
      rw [if_neg (by rw [hu]; decide), if_pos (by omega)]
    rw [read_eq, hr, if_pos (by simp)]
    unfold rs
    rw [hx]
    rfl
theorem waits_none {L : List Dsk.Sec} (h : ∀ (k : Nat) (x : Dsk.Sec), L[k]? = some x → x.pend = none) : Dsk.waits L = [] := by
  cases hw : Dsk.waits L with
  | nil => rfl
  | cons a r =>
    have hm := (Dsk.waits_mem L a).1 (by rw [hw]; exact List.mem_cons_self ..)
    cases hx : L[a]? with
    | none => rw [hx] at hm; cases hm
    | some x =>
      rw [hx] at hm
      have := h a x hx
      rw [Option.bind_some, this] at hm
      cases hm
/-- All lasts: every sector is firm. -/
theorem up_firm {b wn : Nat} {P : List Rec} {d : Dsk.St} (h : JUp b wn P [] d) : rx d = rs d ∧ ∀ i, i < usedL P → firmAt (rx d) (Dsk.waits d.secs) 3 (sts P) i = true := by
  obtain ⟨B, hm, _⟩ := h.mid
  have hfree : ∀ (k : Nat) (x : Dsk.Sec), d.secs[k]? = some x → x.pend = none := fun k x hx => hm.free k x hx (by have : usedL [] = 0 := rfl; omega)
  have hrx := rx_rs h.up hfree
  refine ⟨hrx, fun i hi => ?_⟩
  have hl := sts_len P hm.pre
  have hag : Agree (rx d) 3 (secs 7 P) := by rw [hrx]; exact hm.agr
  have hr := sts_read hag i (by omega)
  unfold firmAt
  rw [waits_none hfree, List.getD_eq_getElem?_getD, List.getElem?_eq_getElem (by omega : i < (sts P).length)]
  have e : ((some ((sts P)[i]'(by omega))).getD 0) = (rx d (3 + i)).2.1 := hr
  rw [e]
  simp
/-- What waits is not firm. -/
theorem up_waits {b wn : Nat} {P N : List Rec} {d : Dsk.St} (h : JUp b wn P N d) (hN : N ≠ []) (r : Nat → X) (ts : List Nat) : firmAt r (Dsk.waits d.secs) 3 ts (usedL P) = false := by
  obtain ⟨B, hm, _⟩ := h.mid
  have hpos : 0 < usedL N := by
    cases N with
    | nil => exact absurd rfl hN
    | cons q N => rw [usedL_cons]; have := need_pos q.1.length; omega
  have hl := secs_len' hm
  obtain ⟨x, a, hx, hp⟩ := hm.pend 0 _ hpos (List.getElem?_eq_getElem (by omega : 0 < (secs (lastL 7 P) N).length))
  have hin : 3 + usedL P ∈ Dsk.waits d.secs := by
    rw [Dsk.waits_mem]
    rw [Nat.add_zero] at hx
    rw [hx, Option.bind_some, hp]
    rfl
  unfold firmAt
  have : (Dsk.waits d.secs).contains (3 + usedL P) = true := List.contains_iff_mem.2 hin
  rw [this]
  simp
theorem up_shp {b wn : Nat} {P N : List Rec} {d : Dsk.St} (h : JUp b wn P N d) : (∀ q ∈ P ++ N, Shp q) ∧ usedL (P ++ N) ≤ 60 := by
  obtain ⟨B, hm, _⟩ := h.mid
  refine ⟨fun q hq => ?_, by rw [usedL_append]; exact hm.room⟩
  rcases List.mem_append.1 hq with hq | hq
  · exact hm.pre q hq
  · exact (hm.new q hq).shp
/-- Nothing more has become durable. -/
theorem up_still {b wn : Nat} {P N : List Rec} {d : Dsk.St} (h : JUp b wn P N d) : Still (P ++ N) P.length (usedL P) 3 d := by
  cases N with
  | nil => exact Or.inl (by rw [List.append_nil])
  | cons q N =>
    have hlt : P.length < (P ++ q :: N).length := by rw [List.length_append, List.length_cons]; omega
    have hq : (P ++ q :: N)[P.length]'hlt = q := by rw [List.getElem_append_right (Nat.le_refl _)]; simp
    refine Or.inr ⟨hlt, ?_, ?_⟩
    · rw [hq, usedL_append, usedL_cons]; omega
    · rw [hq]
      unfold durB
      rw [decide_eq_false_iff_not]
      intro hc
      have h1 := hc (usedL P) (by have := need_pos q.1.length; omega) (Nat.le_refl _)
      rw [up_waits h (by simp)] at h1
      cases h1
end Jrn
/-- A journal's blocks: itself, its guard, the disk's three, the rows of its texts and of its stamps (or itself). -/
structure JB where
  gj : Nat
  gg : Nat
  g : Nat
  bd : Nat
  mb : Nat
  row : Nat
  stp : Nat
def JB.all (J : JB) : List Nat := [J.gj, J.gg, J.g, J.bd, J.mb, J.row, J.stp]
/-- Only the rows may be others. -/
def JB.on (J J' : JB) (W : World) : Prop := J'.gj = J.gj ∧ J'.gg = J.gg ∧ J'.g = J.g ∧ J'.bd = J.bd ∧ J'.mb = J.mb ∧ (J'.row = J.row ∨ W.heap.size ≤ J'.row) ∧ (J'.stp = J.stp ∨ W.heap.size ≤ J'.stp)
def JB.K (J : JB) (b : Nat) : JK := ⟨J.gj, J.gg, J.g, J.bd, J.mb, 3, 60, 7, b⟩
def JInner (W : World) (J : JB) (b wn : Nat) (P N : List Jrn.Rec) (d : Dsk.St) : Prop :=
  ∃ vs vr, JnAt W (J.K b) vs vr (P ++ N) P.length (Jrn.usedL P) false wn d ∧ (∀ k, vs.ownBlock = some k → k = J.stp) ∧ (∀ k, vr.ownBlock = some k → k = J.row)
/-- Behind w0 a journal was opened. -/
structure JAt (w0 W : World) (J : JB) (b wn : Nat) (P N : List Jrn.Rec) (d : Dsk.St) : Prop where
  gw : GW w0 W J.gg J.g J.bd J.mb b wn d
  up : Jrn.JUp b wn P N d
  inner : JInner W J b wn P N d
  lts : ∀ k ∈ J.all, k < W.heap.size
  los : ∀ k ∈ J.all, w0.heap.size ≤ k
theorem JB.sub {J : JB} {b : Nat} {vs vr : Value} (h1 : ∀ k, vs.ownBlock = some k → k = J.stp) (h2 : ∀ k, vr.ownBlock = some k → k = J.row) : ∀ k ∈ (J.K b).all vs vr, k ∈ J.all := by
  intro k hk
  unfold JK.all at hk
  unfold JB.all
  rcases List.mem_append.1 hk with hk | hk
  · have hk' : k ∈ [J.gj, J.gg, J.g, J.bd, J.mb] := hk
    simp only [List.mem_cons, List.not_mem_nil, or_false] at hk' ⊢
    omega
  · rcases List.mem_append.1 hk with hk | hk
    · have := h1 k (by simpa using hk)
      simp only [List.mem_cons, List.not_mem_nil, or_false]
      omega
    · have := h2 k (by simpa using hk)
      simp only [List.mem_cons, List.not_mem_nil, or_false]
      omega
section
variable {w0 w W W' : World} {J : JB} {b wn : Nat} {P N : List Jrn.Rec} {d d' : Dsk.St}
theorem JAt.below (h : JAt w0 W J b wn P N d) (hb : Below W.heap.size W W') : JAt w0 W' J b wn P N d := by
  obtain ⟨vs, vr, h1, h2⟩ := h.inner
  exact ⟨h.gw.below hb, h.up, ⟨vs, vr, h1.below hb, h2⟩, fun k hk => Nat.lt_of_lt_of_le (h.lts k hk) hb.size, h.los⟩
/-- What stands elsewhere has turned. -/
theorem JAt.apart {s : List Nat} (h : JAt w0 W J b wn P N d) (hm : Mv W W' s) (hs : ∀ k ∈ s, k ∉ J.all) (hl : ∀ k ∈ s, w0.heap.size ≤ k) : JAt w0 W' J b wn P N d := by
  obtain ⟨vs, vr, h1, h2, h3⟩ := h.inner
  have hj := h1.mv hm fun k hk hn => hs k hk (JB.sub h2 h3 k hn)
  exact ⟨⟨hj.gd, hm.below h.gw.bel h.gw.bel.size hl, h.gw.lo⟩, h.up, ⟨vs, vr, hj, h2, h3⟩, fun k hk => Nat.lt_of_lt_of_le (h.lts k hk) hm.size, h.los⟩
theorem JAt.armed (h : JAt w0 W J b wn P N d) (hd : DiskAt W' J.g J.bd J.mb d') (hm : Mv W W' [J.g, J.bd, J.mb]) (hs : d'.secs = d.secs) (hu : d'.up = true) : JAt w0 W' J b wn P N d' := by
  obtain ⟨vs, vr, h1, h2, h3⟩ := h.inner
  have hg := h1.gd.turn (d' := d') hd hm
  have hm2 : Mv W W' [J.gg, J.g, J.bd, J.mb] := hm.wide (by simp)
  have hj : JnAt W' (J.K b) vs vr (P ++ N) P.length (Jrn.usedL P) false wn d' := h1.turn hg hm2
  exact ⟨h.gw.mvd hg hm, Jrn.j_same h.up hs hu, ⟨vs, vr, hj, h2, h3⟩, fun k hk => Nat.lt_of_lt_of_le (h.lts k hk) hm.size, h.los⟩
theorem jrecords_any (h : JAt w0 w J b wn P N d) :
    Calls Tryz.prog 23 #[.pointer (some ⟨J.gj, 0, none⟩)] w fun e w' => ∃ v, e = .returned v ∧ JRow w' v (Jrn.txts P N) ∧ Below w.heap.size w w' := by
  obtain ⟨vs, vr, h1, -⟩ := h.inner
  exact (jnrecords_any h1).mono fun e w' ⟨u, he, hr, hb⟩ => ⟨u, he, hr.row, hb⟩
theorem usedL_le8 {P N : List Jrn.Rec} (h : Jrn.usedL (P ++ N) ≤ 60) : Jrn.usedL P ≤ 60 := by rw [Jrn.usedL_append] at h; omega
theorem jsure_any (h : JAt w0 w J b wn P N d) :
    Calls Tryz.prog 26 #[.pointer (some ⟨J.gj, 0, none⟩)] w fun e w' => e = .returned (.int .i64 (P.length : Int)) ∧ Below w.heap.size w w' := by
  obtain ⟨vs, vr, h1, -⟩ := h.inner
  have hu := usedL_le8 (Jrn.up_shp h.up).2
  have hst : Still (P ++ N) P.length (Jrn.usedL P) (J.K b).base d := Jrn.up_still h.up
  have h8 : Jrn.usedL P ≤ 8192 := Nat.le_trans hu (by decide)
  have hl : P.length ≤ (P ++ N).length := by rw [List.length_append]; omega
  have hq := jnsure_any h1 hl h8 hst
  exact hq
theorem jusedj_any (h : JAt w0 w J b wn P N d) :
    Calls Tryz.prog 20 #[.pointer (some ⟨J.gj, 0, none⟩)] w fun e w' => e = .returned (.int .i64 (Jrn.usedT (Jrn.txts P N) : Int)) ∧ Below w.heap.size w w' := by
  obtain ⟨vs, vr, h1, -⟩ := h.inner
  rw [Jrn.usedT_txts, ← Jrn.usedL_append]
  exact (jnused_any h1).mono fun e w' hq => ⟨hq.1, by rw [hq.2]; exact Below.refl _ _⟩
theorem jleft_any (h : JAt w0 w J b wn P N d) :
    Calls Tryz.prog 24 #[.pointer (some ⟨J.gj, 0, none⟩)] w fun e w' => e = .returned (.int .i64 (60 - (Jrn.usedT (Jrn.txts P N) : Int))) ∧ Below w.heap.size w w' := by
  obtain ⟨vs, vr, h1, -⟩ := h.inner
  rw [Jrn.usedT_txts, ← Jrn.usedL_append]
  have := jnleft_any h1
  have e : ((J.K b).size : Int) = 60 := rfl
  rw [e] at this
  exact this
/-- What becomes of a journal whose call may end in a loss. -/
def JDone (w0 W w' : World) (J : JB) (b : Nat) (d : Dsk.St) (P N P1 N1 : List Jrn.Rec) (c : Int) : Prop :=
  Mv W w' J.all ∧ ∃ d', d'.acts ≤ d.acts + 400 ∧ d'.falls ≤ d.falls + 1 ∧
    ((c = 0 ∧ ∃ J' wn', J.on J' W ∧ JAt w0 w' J' b wn' P1 N1 d') ∨ (c = 8 ∧ DiskAt w' J.g J.bd J.mb d' ∧ Below w0.heap.size w0 w' ∧ Jrn.JDown b P N d'))
/-- A journal's blocks behind a call. -/
theorem JAt.grown {vs' vr' : Value} {wn' : Nat} {P1 N1 : List Jrn.Rec} (h : JAt w0 w J b wn P N d) {vs vr : Value} (e1 : ∀ k, vs.ownBlock = some k → k = J.stp) (e2 : ∀ k, vr.ownBlock = some k → k = J.row) (hj : JnAt W (J.K b) vs' vr' (P1 ++ N1) P1.length (Jrn.usedL P1) false wn' d') (hu : Jrn.JUp b wn' P1 N1 d') (hm : Mv w W J.all)
    (ho1 : vs'.ownBlock = vs.ownBlock ∨ ∀ k, vs'.ownBlock = some k → w.heap.size ≤ k) (ho2 : vr'.ownBlock = vr.ownBlock ∨ ∀ k, vr'.ownBlock = some k → w.heap.size ≤ k) : ∃ J', J.on J' w ∧ JAt w0 W J' b wn' P1 N1 d' := by
  have hgj : J.gj < w.heap.size := h.lts _ (by unfold JB.all; simp)
  have hl := hj.lts
  refine ⟨⟨J.gj, J.gg, J.g, J.bd, J.mb, (vr'.ownBlock).getD J.row, (vs'.ownBlock).getD J.stp⟩, ⟨rfl, rfl, rfl, rfl, rfl, ?_, ?_⟩, ⟨hj.gd, hm.below h.gw.bel h.gw.bel.size h.los, h.gw.lo⟩, hu, ⟨vs', vr', hj, fun k hk => by show k = (vs'.ownBlock).getD J.stp; rw [hk]; rfl, fun k hk => by show k = (vr'.ownBlock).getD J.row; rw [hk]; rfl⟩, ?_, ?_⟩
  · show (vr'.ownBlock).getD J.row = J.row ∨ _
    cases hq : vr'.ownBlock with
    | none => exact Or.inl rfl
    | some k =>
      rcases ho2 with ho | ho
      · rw [ho] at hq; exact Or.inl (e2 k hq)
      · exact Or.inr (ho k hq)
  · show (vs'.ownBlock).getD J.stp = J.stp ∨ _
    cases hq : vs'.ownBlock with
    | none => exact Or.inl rfl
    | some k =>
      rcases ho1 with ho | ho
      · rw [ho] at hq; exact Or.inl (e1 k hq)
      · exact Or.inr (ho k hq)
  · have hlt := h.lts
    intro k hk
    unfold JB.all at hk hlt
    simp only [List.mem_cons, List.not_mem_nil, or_false] at hk hlt
    have hsz := hm.size
    have a1 : (vr'.ownBlock).getD J.row < W.heap.size := by
      cases hq : vr'.ownBlock with
      | none => exact Nat.lt_of_lt_of_le (hlt _ (by simp)) hsz
      | some k => exact hj.rc.lt k hq
    have a2 : (vs'.ownBlock).getD J.stp < W.heap.size := by
      cases hq : vs'.ownBlock with
      | none => exact Nat.lt_of_lt_of_le (hlt _ (by simp)) hsz
      | some k => exact hj.st.lt k hq
    rcases hk with rfl | rfl | rfl | rfl | rfl | rfl | rfl
    all_goals first | exact a1 | exact a2 | exact Nat.lt_of_lt_of_le (hlt _ (by simp)) hsz
  · have hlo := h.los
    intro k hk
    unfold JB.all at hk hlo
    simp only [List.mem_cons, List.not_mem_nil, or_false] at hk hlo
    have hsz := h.gw.bel.size
    have a1 : w0.heap.size ≤ (vr'.ownBlock).getD J.row := by
      cases hq : vr'.ownBlock with
      | none => exact hlo _ (by simp)
      | some k =>
        rcases ho2 with ho | ho
        · rw [ho] at hq; rw [e2 k hq]; exact hlo _ (by simp)
        · exact Nat.le_trans hsz (ho k hq)
    have a2 : w0.heap.size ≤ (vs'.ownBlock).getD J.stp := by
      cases hq : vs'.ownBlock with
      | none => exact hlo _ (by simp)
      | some k =>
        rcases ho1 with ho | ho
        · rw [ho] at hq; rw [e1 k hq]; exact hlo _ (by simp)
        · exact Nat.le_trans hsz (ho k hq)
    rcases hk with rfl | rfl | rfl | rfl | rfl | rfl | rfl
    all_goals first | exact a1 | exact a2 | exact hlo _ (by simp)
theorem jappend_any (h : JAt w0 w J b wn P N d) (ha : d.acts < 900000000000) (hf : d.falls < 900000000000) (s : Jrn.T) (hs : s.length ≤ 6000) (hr : Jrn.usedT (Jrn.txts P N) + Jrn.need s.length ≤ 60) :
    Calls Tryz.prog 16 #[.pointer (some ⟨J.gj, 0, none⟩), .string (S s)] w fun e w' => ∃ (c : Int) (ts : List Nat), e = .returned (.int .i64 c) ∧ JDone w0 w w' J b d P (N ++ [(s, ts)]) P (N ++ [(s, ts)]) c := by
  obtain ⟨vs, vr, h1, h2, h3⟩ := h.inner
  rw [Jrn.usedT_txts] at hr
  have hwn := h.up.wn
  have hnd : Jrn.need s.length ≤ 200 := by unfold Jrn.need; omega
  have hJ := Jrn.j_append h.up hs hr _ rfl
  have e3 : (((J.K b).base + Jrn.usedL (P ++ N) : Nat) : Int) = ((3 + (Jrn.usedL P + Jrn.usedL N) : Nat) : Int) := by rw [Jrn.usedL_append]; rfl
  have hA : Calls Tryz.prog 16 #[.pointer (some ⟨J.gj, 0, none⟩), .string (S s)] w (AppPost w (J.K b) vs vr (P ++ N) P.length (Jrn.usedL P) wn s (Jrn.putAll b (Jrn.datas (Jrn.lastL 7 (P ++ N)) s b wn) ((3 + (Jrn.usedL P + Jrn.usedL N) : Nat) : Int) wn d)) := by
    have := jnappend_any h1 s hs (by show Jrn.usedL (P ++ N) + _ ≤ 60; rw [Jrn.usedL_append]; exact hr) (by omega) (by omega) (by omega)
    rw [e3] at this
    exact this
  generalize Jrn.putAll b (Jrn.datas (Jrn.lastL 7 (P ++ N)) s b wn) ((3 + (Jrn.usedL P + Jrn.usedL N) : Nat) : Int) wn d = R at hA hJ
  refine hA.mono fun e w' hq => ?_
  obtain ⟨he, hm, hq⟩ := hq
  have hm2 : Mv w w' J.all := hm.wide (JB.sub h2 h3)
  refine ⟨R.1, Jrn.stamps b wn (Jrn.need s.length), he, hm2, R.2.2, ?_⟩
  rcases hJ with ⟨j1, j2, j3, j4, j5⟩ | ⟨j1, j2, j3, j4⟩
  · rcases hq with ⟨q, _⟩ | ⟨_, vs', vr', q2, q3, q4⟩
    · exact absurd j1 q
    · refine ⟨by rw [j3]; omega, by rw [j4]; omega, Or.inl ⟨j1, ?_⟩⟩
      rw [List.append_assoc] at q2
      obtain ⟨J', o1, o2⟩ := h.grown (P1 := P) (N1 := N ++ [(s, Jrn.stamps b wn (Jrn.need s.length))]) h2 h3 q2 (by rw [← j2] at j5; exact j5) hm2 q3 q4
      exact ⟨J', _, o1, o2⟩
  · rcases hq with ⟨_, q2⟩ | ⟨q, _⟩
    · refine ⟨Nat.le_trans j2 (by omega), by rw [j3]; exact Nat.le_refl _, Or.inr ⟨j1, q2.gd.disk, hm2.below h.gw.bel h.gw.bel.size h.los, j4⟩⟩
    · rw [j1] at q; cases q
theorem jappend_long (h : JAt w0 w J b wn P N d) (s : Jrn.T) (hs : 6000 < s.length) (hl : s.length ≤ 1000000) :
    Calls Tryz.prog 16 #[.pointer (some ⟨J.gj, 0, none⟩), .string (S s)] w fun e w' => e = .returned (.int .i64 3) ∧ Below w.heap.size w w' := by
  obtain ⟨vs, vr, h1, h2, h3⟩ := h.inner
  have hq := jnappend_long h1 s hs
  exact hq
theorem jappend_full (h : JAt w0 w J b wn P N d) (s : Jrn.T) (hs : s.length ≤ 6000) (hr : 60 < Jrn.usedT (Jrn.txts P N) + Jrn.need s.length) :
    Calls Tryz.prog 16 #[.pointer (some ⟨J.gj, 0, none⟩), .string (S s)] w fun e w' => e = .returned (.int .i64 6) ∧ Below w.heap.size w w' := by
  obtain ⟨vs, vr, h1, h2, h3⟩ := h.inner
  rw [Jrn.usedT_txts, ← Jrn.usedL_append] at hr
  have hq := jnappend_full h1 s hs hr
  exact hq
theorem jflush_any (h : JAt w0 w J b wn P N d) (ha : d.acts < 900000000000) (hf : d.falls < 900000000000) :
    Calls Tryz.prog 10 #[.pointer (some ⟨J.gj, 0, none⟩)] w fun e w' => ∃ c : Int, e = .returned (.int .i64 c) ∧ JDone w0 w w' J b d P N (P ++ N) [] c := by
  have hu := usedL_le8 (Jrn.up_shp h.up).2
  obtain ⟨vs, vr, h1, h2, h3⟩ := h.inner
  cases N with
  | nil =>
    have h1' := h1
    rw [List.append_nil] at h1'
    refine (jnflush_none h1' (by omega)).mono fun e w' hq => ⟨0, hq.1, Mv.of_below hq.2 _, d, by omega, by omega, Or.inl ⟨rfl, J, wn, ⟨rfl, rfl, rfl, rfl, rfl, Or.inl rfl, Or.inl rfl⟩, ?_⟩⟩
    have := h.below hq.2
    rw [List.append_nil]
    exact this
  | cons q N =>
    have hlt : P.length < (P ++ q :: N).length := by rw [List.length_append, List.length_cons]; omega
    have hJ := Jrn.j_flush h.up
    refine (jnflush_any h1 hlt (by rw [List.take_left]) (Jrn.up_still h.up) (by omega) (by omega) ?_).mono fun e w' hq => ?_
    · intro hc
      rcases hJ with ⟨_, _, _, j4⟩ | ⟨j1, _⟩
      · exact (Jrn.up_firm j4).2
      · rw [j1] at hc; cases hc
    · obtain ⟨he, hm, hq⟩ := hq
      have hm2 : Mv w w' J.all := hm.wide (JB.sub h2 h3)
      refine ⟨(Dsk.flush d).1, he, hm2, (Dsk.flush d).2, ?_⟩
      rcases hJ with ⟨j1, j2, j3, j4⟩ | ⟨j1, j2, j3, j4⟩
      · rcases hq with ⟨q1, _⟩ | ⟨_, q2⟩
        · exact absurd j1 q1
        · refine ⟨by rw [j2]; omega, by rw [j3]; omega, Or.inl ⟨j1, ?_⟩⟩
          have q3 : JnAt w' (J.K b) vs vr ((P ++ q :: N) ++ []) (P ++ q :: N).length (Jrn.usedL (P ++ q :: N)) false wn (Dsk.flush d).2 := by rw [List.append_nil]; exact q2
          obtain ⟨J', o1, o2⟩ := h.grown (P1 := P ++ q :: N) (N1 := []) h2 h3 q3 j4 hm2 (Or.inl rfl) (Or.inl rfl)
          exact ⟨J', _, o1, o2⟩
      · rcases hq with ⟨_, q2⟩ | ⟨q1, _⟩
        · refine ⟨Nat.le_trans j2 (by omega), by rw [j3]; exact Nat.le_refl _, Or.inr ⟨j1, q2.gd.disk, hm2.below h.gw.bel h.gw.bel.size h.los, j4⟩⟩
        · rw [j1] at q1; cases q1
theorem jawakeJ_any (w : World) : Calls Tryz.prog 15 #[] w fun e w' => e = .returned (.bool true) ∧ Below w.heap.size w w' := by
  have H36 : Hid (∀ W, Calls Tryz.prog 37 #[.int .i64 36] W fun e w' => e = .returned (.int .i64 1) ∧ w' = W) := Lib.hid (fun W => jnneed_any 36 (by decide) W)
  have H37 : Hid (∀ W, Calls Tryz.prog 37 #[.int .i64 37] W fun e w' => e = .returned (.int .i64 2) ∧ w' = W) := Lib.hid (fun W => jnneed_any 37 (by decide) W)
  have H0 : Hid (∀ W, Calls Tryz.prog 37 #[.int .i64 0] W fun e w' => e = .returned (.int .i64 1) ∧ w' = W) := Lib.hid (fun W => jnneed_any 0 (by decide) W)
  go_enter Tryz.func15, Tryz.ntmps15
  go_wp2_with fail
  refine (H36.out _).mono ?_
  rintro r w1 ⟨rfl, rfl⟩
  go_wp2_with fail
  refine (H37.out _).mono ?_
  rintro r w2 ⟨rfl, rfl⟩
  go_wp2_with fail
  refine (H0.out _).mono ?_
  rintro r w3 ⟨rfl, rfl⟩
  go_wp2_with fail
  go_ret
  exact ⟨rfl, Below.refl _ _⟩
/-- The law's own opening. -/
theorem jopen_any {w0 w : World} {g bd mb b : Nat} {L' : List Jrn.Rec} {d : Dsk.St} (h : DiskAt w g bd mb d) (hb0 : Below w0.heap.size w0 w) (hlo : ∀ k ∈ [g, bd, mb], w0.heap.size ≤ k) (hu : Jrn.JUp b 0 L' [] d) (hb : 1 ≤ b) (hb2 : b ≤ 255) :
    Calls Tryz.prog 8 #[.pointer (some ⟨g, 0, none⟩), .int .i64 (b : Int)] w fun e w' => ∃ J : JB, J.g = g ∧ J.bd = bd ∧ J.mb = mb ∧ e = .returned (.pointer (some ⟨J.gj, 0, none⟩)) ∧ JAt w0 w' J b 0 L' [] d ∧ Below w.heap.size w w' ∧ ∀ k ∈ [J.gj, J.gg, J.row, J.stp], w.heap.size ≤ k := by
  have HG := Lib.hid (gnew_any h b hb (by omega))
  obtain ⟨hrx, hfirm⟩ := Jrn.up_firm hu
  obtain ⟨B, hm, -⟩ := hu.mid
  have hroom := (Jrn.up_shp hu).2
  rw [List.append_nil] at hroom
  have HO : Hid (∀ W gg, GuardAt W gg g bd mb b 0 d → Calls Tryz.prog 22 #[.pointer (some ⟨gg, 0, none⟩), .int .i64 3, .int .i64 60, .int .i64 7] W (OpenPost W gg g bd mb 3 60 7 b 0 L' L'.length (Jrn.usedL L') d)) := Lib.hid (fun W gg hg => by
    refine jnopen_any (base := 3) (size := 60) (seed := 7) hg hu.up (by decide) (by decide) (by decide) (by rw [hm.len]; decide) hm.pre (by rw [hrx]; exact hm.agr) hroom ?_ (Or.inl ⟨rfl, rfl, hfirm⟩)
    rw [hrx]
    exact Jrn.nextP_none (by rw [← hrx]; exact Jrn.rx_room d) hm.fin)
  have HU := Lib.hid (And.intro hu (And.intro hb0 hlo))
  unfold NewGPost at HG
  unfold OpenPost at HO
  clear h hb0 hlo hu hm hrx hfirm hroom
  go_enter Tryz.func8, Tryz.ntmps8
  go_wp2_with fail
  refine HG.out.mono ?_
  rintro r w1 ⟨gg, rfl, hg, hb1, hgg⟩
  have HO2 := Lib.hid (HO.out w1 gg hg)
  have HB1 := Lib.hid hb1
  clear hg hb1 HO HG
  go_wp2_with fail
  refine HO2.out.mono ?_
  rintro r w2 ⟨gj, vs, vr, rfl, hj, hb2', hgj, hvs, hvr⟩
  have HJ := Lib.hid (And.intro hj (And.intro (HB1.out.trans (hb2'.mono HB1.out.size)) (And.intro hvs hvr)))
  have hs1 := HB1.out.size
  clear hj hb2' hvs hvr HO2
  go_wp2_with fail
  go_ret
  obtain ⟨hj, hbel, hvs, hvr⟩ := HJ.out
  obtain ⟨hup, hb0, hlo⟩ := HU.out
  have hsz0 := hb0.size
  have a1 : w.heap.size ≤ (vr.ownBlock).getD gj := by
    cases hq : vr.ownBlock with
    | none => show w.heap.size ≤ gj; omega
    | some k => exact Nat.le_trans hs1 (hvr k hq)
  have a2 : w.heap.size ≤ (vs.ownBlock).getD gj := by
    cases hq : vs.ownBlock with
    | none => show w.heap.size ≤ gj; omega
    | some k => exact Nat.le_trans hs1 (hvs k hq)
  have b1 : (vr.ownBlock).getD gj < w2.heap.size := by
    cases hq : vr.ownBlock with
    | none => exact hj.has.lt
    | some k => exact hj.rc.lt k hq
  have b2 : (vs.ownBlock).getD gj < w2.heap.size := by
    cases hq : vs.ownBlock with
    | none => exact hj.has.lt
    | some k => exact hj.st.lt k hq
  have hl := hj.lts
  have hgjlt := hj.has.lt
  have hgglt := hj.gd.cells.lt
  have hdlt := hj.gd.disk.lt
  refine ⟨⟨gj, gg, g, bd, mb, (vr.ownBlock).getD gj, (vs.ownBlock).getD gj⟩, rfl, rfl, rfl, rfl, ⟨⟨hj.gd, hb0.trans (hbel.mono hb0.size), ?_⟩, hup, ⟨vs, vr, by rw [List.append_nil]; exact hj, fun k hk => by show k = (vs.ownBlock).getD gj; rw [hk]; rfl, fun k hk => by show k = (vr.ownBlock).getD gj; rw [hk]; rfl⟩, ?_, ?_⟩, hbel, ?_⟩
  · intro k hk
    simp only [List.mem_cons, List.not_mem_nil, or_false] at hk hlo
    rcases hk with rfl | rfl | rfl | rfl
    all_goals first | exact hlo _ (by simp) | omega
  · intro k hk
    unfold JB.all at hk
    simp only [List.mem_cons, List.not_mem_nil, or_false] at hk
    rcases hk with rfl | rfl | rfl | rfl | rfl | rfl | rfl
    all_goals first | exact b1 | exact b2 | exact hgjlt | exact hgglt | exact hdlt.1 | exact hdlt.2.1 | exact hdlt.2.2
  · intro k hk
    unfold JB.all at hk
    simp only [List.mem_cons, List.not_mem_nil, or_false] at hk hlo
    rcases hk with rfl | rfl | rfl | rfl | rfl | rfl | rfl
    all_goals first | exact hlo _ (by simp) | omega
  · intro k hk
    simp only [List.mem_cons, List.not_mem_nil, or_false] at hk
    rcases hk with rfl | rfl | rfl | rfl
    all_goals omega
end
end Go.Proofs.YtjdklifkalnamaaGreatDoor
