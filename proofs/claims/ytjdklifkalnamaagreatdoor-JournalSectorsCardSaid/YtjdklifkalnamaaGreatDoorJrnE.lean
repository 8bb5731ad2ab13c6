/-
  A record is noted: the journal's add.
-/
import Derived.Test.YtjdklifkalnamaaGreatDoorJrnC
namespace Go.Proofs.YtjdklifkalnamaaGreatDoor
open Go.RowKit
set_option linter.unusedVariables false

/-- A journal's memory alone: the stamps, the texts. -/
structure JnH (w : World) (K : JK) (vs vr : Value) (SS : List Nat) (T : List (List UInt8)) (sure firm : Nat) (dead : Bool) (wr : Nat) (d : Dsk.St) : Prop where
  has : Has w K.gj 62 (jcs K vs vr sure firm dead)
  gd : GuardAt w K.gg K.g K.bd K.mb K.boot wr d
  st : IRow w vs SS
  rc : JRow w vr T
  nj : K.gj ∉ [K.gg, K.g, K.bd, K.mb]
  ns : ∀ k, vs.ownBlock = some k → k ∉ [K.gj, K.gg, K.g, K.bd, K.mb]
  nr : ∀ k, vr.ownBlock = some k → k ∉ [K.gj, K.gg, K.g, K.bd, K.mb]
  nsr : ∀ k, vs.ownBlock = some k → vr.ownBlock ≠ some k
section
variable {w w' : World} {K : JK} {vs vr : Value} {L : List Jrn.Rec} {SS : List Nat} {T : List (List UInt8)} {sure firm : Nat} {dead : Bool} {wr : Nat} {d : Dsk.St}
theorem JnAt.mem (h : JnAt w K vs vr L sure firm dead wr d) : JnH w K vs vr (Jrn.sts L) (L.map Prod.fst) sure firm dead wr d := ⟨h.has, h.gd, h.st, h.rc, h.nj, h.ns, h.nr, h.nsr⟩
theorem JnH.lt5 (h : JnH w K vs vr SS T sure firm dead wr d) : ∀ k ∈ [K.gj, K.gg, K.g, K.bd, K.mb], k < w.heap.size := by
  intro k hk
  have h1 := h.gd.disk.lt
  have h2 := h.gd.cells.lt
  have h3 := h.has.lt
  simp only [List.mem_cons, List.not_mem_nil, or_false] at hk
  omega
/-- The texts' row has grown, and its slice is stored. -/
theorem JnH.texts {vr' : Value} {T' : List (List UInt8)} (h : JnH w K vs vr SS T sure firm dead wr d) (hr : JRow w' vr' T') (hm : Mv w w' vr.ownBlock.toList) (ho : vr'.ownBlock = vr.ownBlock ∨ ∀ k, vr'.ownBlock = some k → w.heap.size ≤ k) :
    Has w' K.gj 62 (jcs K vs vr sure firm dead) ∧ JnH (w'.setCell ⟨K.gj, 5, none⟩ vr') K vs vr' SS T' sure firm dead wr d ∧ Mv w (w'.setCell ⟨K.gj, 5, none⟩ vr') (K.own vs vr) := by
  have m5 : ∀ k, k ∈ [K.gj, K.gg, K.g, K.bd, K.mb] → k ∉ vr.ownBlock.toList := fun k hk hn => h.nr k (by simpa using hn) hk
  have hg := hm.has h.has (m5 _ (by simp))
  have ho2 := Only.set w' K.gj 5 vr'
  have hm2 : Mv w' (w'.setCell ⟨K.gj, 5, none⟩ vr') [K.gj] := Mv.of_only ho2 (by simp)
  have n5 := h.nj
  simp only [List.mem_cons, List.not_mem_nil, or_false, not_or] at n5
  have lt5 := h.lt5
  have hnr : ∀ k, vr'.ownBlock = some k → k ∉ [K.gj, K.gg, K.g, K.bd, K.mb] := fun k hk hn => by
    rcases ho with ho | ho
    · rw [ho] at hk; exact h.nr k hk hn
    · have h1 := ho k hk
      have h2 := lt5 k hn
      omega
  have hst : IRow w' vs SS := h.st.mv hm fun k hk hn => h.nsr k hk (by simpa using hn)
  have hgd : GuardAt w' K.gg K.g K.bd K.mb K.boot wr d := ⟨hm.has h.gd.cells (m5 _ (by simp)), h.gd.disk.mv hm (m5 _ (by simp)) (m5 _ (by simp)) (m5 _ (by simp)), h.gd.n1, h.gd.n2, h.gd.n3, h.gd.lo, h.gd.hi⟩
  refine ⟨hg, ⟨?_, ⟨hm2.has hgd.cells (by simp only [List.mem_singleton]; omega), hgd.disk.mv hm2 (by simp only [List.mem_singleton]; omega) (by simp only [List.mem_singleton]; omega) (by simp only [List.mem_singleton]; omega), h.gd.n1, h.gd.n2, h.gd.n3, h.gd.lo, h.gd.hi⟩, hst.mv hm2 fun k hk hn => ?_, hr.mv hm2 fun k hk hn => ?_, h.nj, h.ns, hnr, fun k hk hv => ?_⟩, ?_⟩
  · have := hg.set 5 vr'
    exact this
  · exact h.ns k hk (by rw [List.mem_singleton.1 hn]; simp)
  · exact hnr k hk (by rw [List.mem_singleton.1 hn]; simp)
  · rcases ho with ho | ho
    · rw [ho] at hv; exact h.nsr k hk hv
    · have h1 := h.st.lt k hk
      have h2 := ho k hv
      omega
  · refine (hm.wide ?_).trans (hm2.wide ?_)
    · intro x hx; unfold JK.own; exact List.mem_cons_of_mem _ (List.mem_append_right _ hx)
    · intro x hx; unfold JK.own; rw [List.mem_singleton.1 hx]; simp
/-- The stamps' row has grown, and its slice is stored. -/
theorem JnH.nums {vs' : Value} {S' : List Nat} (h : JnH w K vs vr SS T sure firm dead wr d) (hr : IRow w' vs' S') (hm : Mv w w' vs.ownBlock.toList) (ho : vs'.ownBlock = vs.ownBlock ∨ ∀ k, vs'.ownBlock = some k → w.heap.size ≤ k) :
    Has w' K.gj 62 (jcs K vs vr sure firm dead) ∧ JnH (w'.setCell ⟨K.gj, 4, none⟩ vs') K vs' vr S' T sure firm dead wr d ∧ Mv w (w'.setCell ⟨K.gj, 4, none⟩ vs') (K.gj :: vs.ownBlock.toList) := by
  have m5 : ∀ k, k ∈ [K.gj, K.gg, K.g, K.bd, K.mb] → k ∉ vs.ownBlock.toList := fun k hk hn => h.ns k (by simpa using hn) hk
  have hg := hm.has h.has (m5 _ (by simp))
  have ho2 := Only.set w' K.gj 4 vs'
  have hm2 : Mv w' (w'.setCell ⟨K.gj, 4, none⟩ vs') [K.gj] := Mv.of_only ho2 (by simp)
  have n5 := h.nj
  simp only [List.mem_cons, List.not_mem_nil, or_false, not_or] at n5
  have lt5 := h.lt5
  have hns : ∀ k, vs'.ownBlock = some k → k ∉ [K.gj, K.gg, K.g, K.bd, K.mb] := fun k hk hn => by
    rcases ho with ho | ho
    · rw [ho] at hk; exact h.ns k hk hn
    · have h1 := ho k hk
      have h2 := lt5 k hn
      omega
  have hrc : JRow w' vr T := h.rc.mv hm fun k hk hn => h.nsr k (by simpa using hn) hk
  have hgd : GuardAt w' K.gg K.g K.bd K.mb K.boot wr d := ⟨hm.has h.gd.cells (m5 _ (by simp)), h.gd.disk.mv hm (m5 _ (by simp)) (m5 _ (by simp)) (m5 _ (by simp)), h.gd.n1, h.gd.n2, h.gd.n3, h.gd.lo, h.gd.hi⟩
  refine ⟨hg, ⟨?_, ⟨hm2.has hgd.cells (by simp only [List.mem_singleton]; omega), hgd.disk.mv hm2 (by simp only [List.mem_singleton]; omega) (by simp only [List.mem_singleton]; omega) (by simp only [List.mem_singleton]; omega), h.gd.n1, h.gd.n2, h.gd.n3, h.gd.lo, h.gd.hi⟩, hr.mv hm2 fun k hk hn => ?_, hrc.mv hm2 fun k hk hn => ?_, h.nj, hns, h.nr, fun k hk hv => ?_⟩, ?_⟩
  · have := hg.set 4 vs'
    exact this
  · exact hns k hk (by rw [List.mem_singleton.1 hn]; simp)
  · exact h.nr k hk (by rw [List.mem_singleton.1 hn]; simp)
  · rcases ho with ho | ho
    · rw [ho] at hk; exact h.nsr k hk hv
    · have h1 := h.rc.lt k hv
      have h2 := ho k hk
      omega
  · exact (hm.wide (fun x hx => List.mem_cons_of_mem _ hx)).trans (hm2.wide (fun x hx => by rw [List.mem_singleton.1 hx]; simp))
theorem alloc_size (w : World) (o : Obj) : (w.alloc o).heap.size = w.heap.size + 1 := by simp
/-- A record came behind. -/
def AddPost (w : World) (K : JK) (vs vr : Value) (L : List Jrn.Rec) (sure firm : Nat) (dead : Bool) (wr : Nat) (d : Dsk.St) (e : Ending) (w' : World) : Prop :=
  e = .returned (.tuple #[]) ∧ ∃ vs' vr', JnAt w' K vs' vr' L sure firm dead wr d ∧ Mv w w' (K.own vs vr) ∧ (vs'.ownBlock = vs.ownBlock ∨ ∀ k, vs'.ownBlock = some k → w.heap.size ≤ k) ∧ (vr'.ownBlock = vr.ownBlock ∨ ∀ k, vr'.ownBlock = some k → w.heap.size ≤ k)
set_option maxRecDepth 100000 in
set_option maxHeartbeats 4000000 in
theorem jnadd_any (h : JnAt w K vs vr L sure firm dead wr d) {s : List UInt8} {ts : List Nat} {vt : Value} (hq : Jrn.Shp (s, ts)) (hroom : Jrn.usedL L + Jrn.need s.length ≤ K.size) (hlt : ∀ t ∈ ts, t < 9223372036854775808) (ht : IRow w vt ts) (hvt : ∀ k, vt.ownBlock = some k → k ∉ K.all vs vr) :
    Calls Tryz.prog 39 #[.pointer (some ⟨K.gj, 0, none⟩), .string (S s), vt] w (AddPost w K vs vr (L ++ [(s, ts)]) sure firm dead wr d) := by
  have hcn : ts.length = Jrn.need s.length := hq.cnt
  have hnp := Jrn.need_pos s.length
  have hne : ts ≠ [] := by intro e; rw [e, List.length_nil] at hcn; omega
  have htop := h.top
  have hTl : (L.map Prod.fst).length ≤ 1000000 := by
    have := Jrn.len_used L
    rw [List.length_map]
    omega
  have hSl : (Jrn.sts L).length ≤ 1000000 := by rw [Jrn.sts_len L h.shp]; omega
  have htl : ts.length ≤ 1000000 := by omega
  have hup := (Below.refl _ w).alloc (Nat.le_refl _) (.cells #[.string (S s)] 9)
  have h1 := (h.below hup).mem
  have HM := Lib.hid (two_text w s)
  have HEND : Hid (∀ w' vs' vr', JnH w' K vs' vr' (Jrn.sts L ++ ts) (L.map Prod.fst ++ [s]) sure firm dead wr d → JnAt w' K vs' vr' (L ++ [(s, ts)]) sure firm dead wr d) := Lib.hid (fun w' vs' vr' q => by
    refine ⟨q.has, q.gd, by rw [Jrn.sts_snoc]; exact q.st, by rw [List.map_append]; exact q.rc, q.nj, q.ns, q.nr, q.nsr, ?_, by rw [Jrn.usedL_snoc]; exact hroom, h.top, h.sd, ?_⟩
    · intro x hx
      rcases List.mem_append.1 hx with hx | hx
      · exact h.shp x hx
      · rw [List.mem_singleton.1 hx]; exact hq
    · intro t ht
      rw [Jrn.sts_snoc] at ht
      rcases List.mem_append.1 ht with ht | ht
      · exact h.stl t ht
      · exact hlt t ht)
  have HVT := Lib.hid (And.intro (ht.below hup) hvt)
  have HUP := Lib.hid hup
  obtain ⟨-, -, -, -, -, c5, -⟩ := h.cs
  have H1 := Lib.hid h1
  obtain ⟨g4, c4, hv4⟩ : ∃ g4 c4, vt = .slice (some ⟨g4, 0, none⟩) ts.length c4 := by
    rcases ht.open_ with ⟨_, e⟩ | ⟨g, cap, e, _⟩
    · exact absurd e hne
    · exact ⟨g, cap, e⟩
  subst hv4
  clear h h1 hup ht hvt hq hroom hlt hcn hnp htop
  go_enter Tryz.func39, Tryz.ntmps39
  go_wp2_with (first
    | (at_builtin; refine wpList_append_pl rfl (.tmp 10) (.tmp 12) rfl _ (L.map Prod.fst) s w.heap.size rfl rfl H1.out.rc HM.out hTl ?_; intro v' w6 hrow hmv hob; obtain ⟨A', n', cap', e'⟩ : ∃ A' n' cap', v' = .slice A' n' cap' := (by obtain ⟨A', cap', e', _⟩ := hrow.any; exact ⟨A', _, cap', e'⟩); subst e'; obtain ⟨hh6, hH, hm6⟩ := H1.out.texts hrow hmv hob; have c5' : w6.cell? ⟨K.gj, 5, none⟩ = some vr := hh6.cell 5; have f5 := hh6.free 5; have c4' : w6.cell? ⟨K.gj, 4, none⟩ = some vs := hh6.cell 4; have hin : IRow (w6.setCell ⟨K.gj, 5, none⟩ (.slice A' n' cap')) (.slice (some ⟨g4, 0, none⟩) ts.length c4) ts := HVT.out.1.mv hm6 (fun k hk hn => HVT.out.2 k hk (K.own_all vs vr k hn)); have hin2 : ∀ j (hj : j < ts.length), (w6.setCell ⟨K.gj, 5, none⟩ (.slice A' n' cap')).cell? ⟨g4, j, none⟩ = some (.int .i64 ((ts[j]'hj : Nat) : Int)) := (fun j hj => by obtain ⟨g, e, hc⟩ := hin.at_ j hj; injection e with e; injection e with e1 _ _; subst e1; exact hc); have HH := Lib.hid (And.intro hH (And.intro hm6 (And.intro hob hin2))); clear hrow hmv hob hh6 hH hm6 hin hin2)
    | (at_builtin; refine wpList_append_iv rfl (.tmp 20) (.tmp 21) rfl _ (Jrn.sts L) ts g4 c4 rfl rfl HH.out.1.st HH.out.2.2.2 hSl htl hne ?_; intro v2 w8 hrow hmv hob; obtain ⟨A2, n2, cap2, e2⟩ : ∃ A2 n2 cap2, v2 = .slice A2 n2 cap2 := (by obtain ⟨A2, cap2, e2, _⟩ := hrow.any; exact ⟨A2, _, cap2, e2⟩); subst e2; obtain ⟨hh8, hH8, hm8⟩ := HH.out.1.nums hrow hmv hob; have c4'' : w8.cell? ⟨K.gj, 4, none⟩ = some vs := hh8.cell 4; have f4 := hh8.free 4; have HH8 := Lib.hid (And.intro hH8 (And.intro hm8 hob)); clear hrow hmv hob hh8 hH8 hm8))
  go_returns
  have hs1 := HUP.out.size
  refine ⟨rfl, _, _, HEND.out _ _ _ HH8.out.1, ?_, ?_, ?_⟩
  · exact (Mv.of_below HUP.out _).trans (HH.out.2.1.trans (HH8.out.2.1.wide (fun x hx => by
      unfold JK.own
      rcases List.mem_cons.1 hx with rfl | hx
      · simp
      · exact List.mem_cons_of_mem _ (List.mem_append_left _ hx))))
  · rcases HH8.out.2.2 with q | q
    · exact Or.inl q
    · exact Or.inr fun k hk => by
        have h1 := q k hk
        have h2 := HH.out.2.1.size
        omega
  · rcases HH.out.2.2.1 with q | q
    · exact Or.inl q
    · exact Or.inr fun k hk => by
        have h1 := q k hk
        omega
end
end Go.Proofs.YtjdklifkalnamaaGreatDoor
