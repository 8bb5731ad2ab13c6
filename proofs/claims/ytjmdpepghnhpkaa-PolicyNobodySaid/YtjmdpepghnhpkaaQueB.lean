/-
  A queue in memory: Add.
-/
import Derived.Test.YtjmdpepghnhpkaaQueA
import Derived.Test.YtjmdpepghnhpkaaDueB
namespace Go.Proofs.Ytjmdpepghnhpkaa
open Go.RowKit
set_option linter.unusedVariables false

theorem dvs_at {h : List Du} {i : Nat} (hi : i < h.length) : (dvs h)[i * 2]? = some (.int .i64 h[i].seq) ∧ (dvs h)[i * 2 + 1]? = some (.int .i64 h[i].due) :=
  ⟨(flat_get Du.cs 2 Du.cs_len h i hi 0 (by omega)).trans rfl, (flat_get Du.cs 2 Du.cs_len h i hi 1 (by omega)).trans rfl⟩
theorem HAt.own {w : World} {q B cap : Nat} {h : List Du} (H : HAt w q B h cap) : w.ownsRow 0 34 2 (.slice (some ⟨B, 0, none⟩) h.length cap) h.length (dvs h) := by
  obtain ⟨cur, hh, hs, hc⟩ := H.row
  refine ⟨dvs_len h, .inr ⟨B, cap, cur, rfl, Nat.zero_le _, hh, H.le, H.cm, hs, ?_⟩⟩
  apply List.ext_getElem?
  intro j
  by_cases hj : j < h.length * 2
  · rw [List.getElem?_take_of_lt hj]
    obtain ⟨h1, h2⟩ := hc (j / 2) (by omega)
    obtain ⟨g1, g2⟩ := dvs_at (h := h) (i := j / 2) (by omega)
    have hp : j = j / 2 * 2 ∨ j = j / 2 * 2 + 1 := by omega
    rcases hp with e | e
    · rw [e, g1, Array.getElem?_toList, h1]
    · rw [e, g2, Array.getElem?_toList, h2]
  · rw [List.getElem?_eq_none (by rw [List.length_take]; omega), List.getElem?_eq_none (by rw [dvs_len]; omega)]
theorem HAt.of_own {w : World} {q g cap : Nat} {h : List Du} (hq : Has w q 32 #[.slice (some ⟨g, 0, none⟩) h.length cap]) (hne : q ≠ g) (ho : w.ownsRow 0 34 2 (.slice (some ⟨g, 0, none⟩) h.length cap) h.length (dvs h)) : HAt w q g h cap := by
  obtain ⟨_, ⟨e, _⟩ | ⟨g', cap', cur, e, _, hg, h1, h2, h3, h4⟩⟩ := ho
  · cases e
  · injection e with e1 e2 e3
    injection e1 with e1
    injection e1 with e1
    subst e1
    subst e3
    refine ⟨hne, hq, ⟨cur, hg, h3, fun i hi => ?_⟩, h1, h2⟩
    obtain ⟨g1, g2⟩ := dvs_at hi
    rw [← h4, List.getElem?_take_of_lt (by omega), Array.getElem?_toList] at g1 g2
    exact ⟨g1, g2⟩
theorem QRep.own {w : World} {q : Nat} {s : List Nat} {h : List Du} (H : QRep w q s h) : ∃ A cap, Has w q 32 #[.slice A h.length cap] ∧ w.ownsRow 0 34 2 (.slice A h.length cap) h.length (dvs h) ∧ (Value.slice A h.length cap).ownBlock.toList = s ∧ q ∉ s := by
  rcases H with ⟨rfl, rfl, h1⟩ | ⟨B, cap, rfl, h1⟩
  · exact ⟨none, 0, h1, World.ownsRow_nil _ _ _ _, rfl, by simp⟩
  · exact ⟨some ⟨B, 0, none⟩, cap, h1.qh, h1.own, rfl, by simpa using h1.ne⟩
theorem wp_due_append {op : Oper} {a : Act} {w : World} {K : Act → World → Prop} {Q : Exit → Act → World → Prop} (s x : Operand) (ho : op.op = .call { callee := .builtin .append, args := #[s, x], argTypes := #[30, 30] }) (t : Nat) (hd : op.dst = some t)
    (v : Value) (n : Nat) (h : List Du) (hs : a.eval s = v) (hown : w.ownsRow 0 34 2 v n (dvs h)) (ad : Addr) (d : Du) (hx : a.eval x = .slice (some ad) 1 1) (hnews : ∀ j u, d.cs[j]? = some u → w.cell? (ad.add j) = some u) (hn : n ≤ 1000000)
    (hk : ∀ g cap w', w'.ownsRow 0 34 2 (.slice (some ⟨g, 0, none⟩) (n + 1) cap) (n + 1) (dvs (h ++ [d])) → w.grownBy w' v.ownBlock → (v.ownBlock = some g ∨ g = w.heap.size) → g < w'.heap.size → K (Act.at a t (.slice (some ⟨g, 0, none⟩) (n + 1) cap)) w') : op.wp Try.prog a w K Q := by
  obtain ⟨i0, hi0, hz0, hz1, hz2⟩ := info_parts duInfo
  refine wp_append_lies _ s x 30 ho 0 34 i0 (.agg #[.int .i64 0, .int .i64 0]) 2 16 Try.underlying30 hi0 hz0 hz1 hz2 rfl (by decide) v n (dvs h) hs hown ad 1 1 d.cs hx rfl hnews (by intro u hu; simp [Du.cs] at hu; rcases hu with rfl | rfl <;> rfl) (by decide) (by simp only [maxLen]; omega) (by omega) (Nat.zero_le _) _ rfl ?_
  intro g cap' w3 h1 h2 h3 h4
  rw [hd]
  rw [dvs_snoc] at h1
  exact hk g cap' w3 h1 h2 h3 h4
theorem own_set {w : World} {e n : Nat} {g cap : Nat} {xs : List Value} (h : w.ownsRow 0 e 2 (.slice (some ⟨g, 0, none⟩) n cap) n xs) {q : Nat} (hne : q ≠ g) (u : Value) : (w.setCell ⟨q, 0, none⟩ u).ownsRow 0 e 2 (.slice (some ⟨g, 0, none⟩) n cap) n xs := by
  refine ⟨h.1, ?_⟩
  rcases h.2 with hn | ⟨g', cap', cur, e1, hb, hg, rest⟩
  · exact .inl hn
  · refine .inr ⟨g', cap', cur, e1, hb, ?_, rest⟩
    have e2 : g = g' := by injection e1 with e1; injection e1 with e1; injection e1
    rw [Below.heap_setCell w ⟨q, 0, none⟩ u g' (by rw [← e2]; exact fun e => hne e.symm)]
    exact hg
/-- The new due's own variable. -/
abbrev BoxS (b : Nat) (d : Du) (W : World) : Prop := W.cell? ⟨b, 0, none⟩ = some (.int .i64 d.seq) ∧ W.cell? ⟨b, 1, none⟩ = some (.int .i64 d.due)
set_option maxRecDepth 100000 in
set_option maxHeartbeats 8000000 in
theorem qradd_any {w : World} {q : Nat} {s : List Nat} {h : List Du} (H : QRep w q s h) (hh : Du.Heap h) (hl : h.length ≤ 1000) (d : Du) :
    Calls Try.prog 10 #[.pointer (some ⟨q, 0, none⟩), .agg #[.int .i64 d.seq, .int .i64 d.due]] w fun r w' => r = .returned (.tuple #[]) ∧ ∃ h' s', h'.Perm (d :: h) ∧ Du.Heap h' ∧ QRep w' q s' h' ∧ Mv w w' (q :: s) ∧ ∀ x ∈ s', x ∈ s ∨ w.heap.size ≤ x := by
  obtain ⟨ds, dd⟩ := d
  dsimp only
  have hb : Below w.heap.size w (w.alloc (.cells #[.int .i64 ds, .int .i64 dd] 34)) := (Below.refl _ w).alloc (Nat.le_refl _) _
  have hz := Has.made w 34 #[.int .i64 ds, .int .i64 dd]
  have HQL := Lib.hid H.lt
  obtain ⟨A, cap, q1, q2, q3, q4⟩ := (H.below hb).own
  have HLL := Lib.hid hl
  have HP := Lib.hid hh
  obtain ⟨i0, hi0, hz0, hz1, hz2⟩ := info_parts duInfo
  have HI := Lib.hid (And.intro hi0 (And.intro hz0 (And.intro hz1 hz2)))
  clear hi0 hz0 hz1 hz2 H hl hh
  go_enter Try.func10, Try.ntmps10
  go_upto_region 1 with fail
  generalize w.alloc (.cells #[.int .i64 ds, .int .i64 dd] 34) = W0 at hb hz q1 q2 ⊢
  obtain ⟨b0, hq0⟩ : ∃ b0, w.heap.size = b0 := ⟨_, rfl⟩
  rw [hq0] at hz ⊢
  have HB0 := Lib.hid hq0
  have hS : BoxS b0 ⟨ds, dd⟩ W0.drew := ⟨hz.cell 0, hz.cell 1⟩
  have HBX : Hid (Has W0.drew b0 34 #[.int .i64 ds, .int .i64 dd]) := Lib.hid hz
  have HSL : Hid (W0.drew.cell? ⟨q, 0, none⟩ = some (.slice A h.length cap)) := Lib.hid (q1.cell 0)
  have HOW := Lib.hid (own_mv q2 (Mv.of_below (Below.refl W0.heap.size W0).drew []) (by simp))
  have HM := Lib.hid (Mv.of_below hb.drew [])
  have HHQ : Hid (Has W0.drew q 32 #[.slice A h.length cap]) := Lib.hid q1
  have HOB := Lib.hid (And.intro q3 q4)
  have HNB : Hid (b0 ∉ s ∧ b0 ≠ q) := Lib.hid ⟨fun hx => by have := HQL.out.2 _ hx; omega, by have := HQL.out.1; omega⟩
  clear hb hz q1 q2 q3 q4 hq0
  go_upto_region 2 with fail
  refine wp_region_held_drew (S := BoxS b0 ⟨ds, dd⟩) (by kernel_rfl) hS (fun hHeld => ?_)
  generalize W0.drew = wd at hS hHeld HSL HOW HM HHQ HBX ⊢
  first
  | (refine take_wanted (i := 0) (v := ?_) rfl rfl (by kernel_rfl) (by kernel_rfl) (by kernel_rfl) (fun _ _ _ h => h) (by rfl) (by assumption) ?_ ?_; rotate_left; (focus (intro w hSw; (try dsimp only at hSw); go_simp; first | done | with_reducible rfl)); (simp only [Act.at, List.setIfInBounds_toArray, List.set_cons_zero, List.set_cons_succ]))
  | (refine take_unwanted (i := 0) rfl rfl (by kernel_rfl) (by kernel_rfl) (by kernel_rfl) (fun _ _ _ h => h) (by rfl) (by assumption) ?_; (simp only [Act.at, List.setIfInBounds_toArray, List.set_cons_zero, List.set_cons_succ]))
  first
  | (refine take_wanted (i := 1) (v := ?_) rfl rfl (by kernel_rfl) (by kernel_rfl) (by kernel_rfl) (fun _ _ _ h => h) (by rfl) (by assumption) ?_ ?_; rotate_left; (focus (intro w hSw; (try dsimp only at hSw); go_simp; first | done | with_reducible rfl)); (simp only [Act.at, List.setIfInBounds_toArray, List.set_cons_zero, List.set_cons_succ]))
  | (refine take_unwanted (i := 1) rfl rfl (by kernel_rfl) (by kernel_rfl) (by kernel_rfl) (fun _ _ _ h => h) (by rfl) (by assumption) ?_; (simp only [Act.at, List.setIfInBounds_toArray, List.set_cons_zero, List.set_cons_succ]))
  first
  | (refine take_wanted (i := 2) (v := ?_) rfl rfl (by kernel_rfl) (by kernel_rfl) (by kernel_rfl) (fun _ _ _ h => h) (by rfl) (by assumption) ?_ ?_; rotate_left; (focus (intro w hSw; (try dsimp only at hSw); go_simp; first | done | with_reducible rfl)); (simp only [Act.at, List.setIfInBounds_toArray, List.set_cons_zero, List.set_cons_succ]))
  | (refine take_unwanted (i := 2) rfl rfl (by kernel_rfl) (by kernel_rfl) (by kernel_rfl) (fun _ _ _ h => h) (by rfl) (by assumption) ?_; (simp only [Act.at, List.setIfInBounds_toArray, List.set_cons_zero, List.set_cons_succ]))
  first
  | (refine take_wanted (i := 3) (v := ?_) rfl rfl (by kernel_rfl) (by kernel_rfl) (by kernel_rfl) (fun _ _ _ h => h) (by rfl) (by assumption) ?_ ?_; rotate_left; (focus (intro w hSw; (try dsimp only at hSw); go_simp; first | done | with_reducible rfl)); (simp only [Act.at, List.setIfInBounds_toArray, List.set_cons_zero, List.set_cons_succ]))
  | (refine take_unwanted (i := 3) rfl rfl (by kernel_rfl) (by kernel_rfl) (by kernel_rfl) (fun _ _ _ h => h) (by rfl) (by assumption) ?_; (simp only [Act.at, List.setIfInBounds_toArray, List.set_cons_zero, List.set_cons_succ]))
  first
  | (refine take_wanted (i := 5) (v := ?_) rfl rfl (by kernel_rfl) (by kernel_rfl) (by kernel_rfl) (fun _ _ _ h => h) (by rfl) (by assumption) ?_ ?_; rotate_left; (focus (intro w hSw; (try dsimp only at hSw); go_simp; first | done | with_reducible rfl)); (simp only [Act.at, List.setIfInBounds_toArray, List.set_cons_zero, List.set_cons_succ]))
  | (refine take_unwanted (i := 5) rfl rfl (by kernel_rfl) (by kernel_rfl) (by kernel_rfl) (fun _ _ _ h => h) (by rfl) (by assumption) ?_; (simp only [Act.at, List.setIfInBounds_toArray, List.set_cons_zero, List.set_cons_succ]))
  refine wpTwoH (i := 4) (j := 6) (by kernel_rfl) rfl rfl (by rfl) (by rfl) (fun K hK => ?_) (fun K hK => ?_)
  · have hsl := HSL.out
    go_simp
    refine hK.out _ _ hS (fun hHeld => ?_)
    clear hK K
    try simp only [Act.put, List.setIfInBounds_toArray, List.set_cons_zero, List.set_cons_succ]
    clear hsl
    refine wpOneH (i := 6) (by kernel_rfl) rfl (by rfl) (fun K hK => ?_)
    go_simp
    have hS2 : BoxS b0 ⟨ds, dd⟩ (wd.alloc (.cells #[.int .i64 ds, .int .i64 dd] 34)) := ⟨(HBX.out.of_alloc _).cell 0, (HBX.out.of_alloc _).cell 1⟩
    have HBX2 := Lib.hid (HBX.out.of_alloc (.cells #[.int .i64 ds, .int .i64 dd] 34))
    have HHQ2 := Lib.hid (HHQ.out.of_alloc (.cells #[.int .i64 ds, .int .i64 dd] 34))
    have HOW2 := Lib.hid (HOW.out.alloc (.cells #[.int .i64 ds, .int .i64 dd] 34))
    have HMD := Lib.hid (duMade wd ds dd)
    have HM2 := Lib.hid (HM.out.alloc (.cells #[.int .i64 ds, .int .i64 dd] 34))
    have HWL : Hid (q < wd.heap.size ∧ b0 < wd.heap.size) := Lib.hid ⟨HHQ.out.lt, HBX.out.lt⟩
    generalize wd.alloc (.cells #[.int .i64 ds, .int .i64 dd] 34) = wd2 at hS2 HBX2 HHQ2 HOW2 HMD HM2 ⊢
    obtain ⟨b2, hb2⟩ : ∃ b2, wd.heap.size = b2 := ⟨_, rfl⟩
    rw [hb2] at HMD HWL ⊢
    clear hb2
    refine hK.out _ _ hS2 (fun hHeld => ?_)
    clear hK K
    try simp only [Act.put, List.setIfInBounds_toArray, List.set_cons_zero, List.set_cons_succ]
    refine wpOneH (i := 7) (by kernel_rfl) rfl (by rfl) (fun K hK => ?_)
    refine wp_due_append (.tmp 10) (.tmp 12) rfl 13 rfl (.slice A h.length cap) h.length h rfl HOW2.out ⟨b2, 0, none⟩ ⟨ds, dd⟩ rfl HMD.out (by have := HLL.out; omega) ?_
    intro g cap' w3 hown3 hg3 hgb3 hlt3
    have hm3 : Mv wd2 w3 s := Mv.of_grown hg3 (fun k hk => by rw [← HOB.out.1, hk]; simp)
    have hbx3 := hm3.has HBX2.out HNB.out.1
    have hhq3 := hm3.has HHQ2.out HOB.out.2
    have hS3 : BoxS b0 ⟨ds, dd⟩ w3 := ⟨hbx3.cell 0, hbx3.cell 1⟩
    have hqg : q ≠ g := by
      rcases hgb3 with e | e
      · intro e2
        have := HOB.out.1
        rw [e] at this
        exact HOB.out.2 (by rw [← this, e2]; simp)
      · have := HHQ2.out.lt; omega
    have hsg : g ∈ s ∨ w.heap.size ≤ g := by
      rcases hgb3 with e | e
      · left; rw [← HOB.out.1, e]; simp
      · right; rw [e]; exact HM2.out.size
    have HAT := Lib.hid (HAt.of_own (h := h ++ [⟨ds, dd⟩]) (w := w3.setCell ⟨q, 0, none⟩ (.slice (some ⟨g, 0, none⟩) (h.length + 1) cap')) (q := q) (g := g) (cap := cap') (by rw [List.length_append]; exact hhq3.set 0 _) hqg (by rw [List.length_append]; exact own_set hown3 hqg _))
    have HM3 := Lib.hid (((HM2.out.wide (t := q :: s) (by simp)).trans (hm3.wide (t := q :: s) (fun x hx => List.mem_cons_of_mem _ hx))).trans (Mv.of_only (Only.set w3 q 0 (.slice (some ⟨g, 0, none⟩) (h.length + 1) cap')) (s := q :: s) (by simp)))
    have HSG := Lib.hid hsg
    have hS4 : BoxS b0 ⟨ds, dd⟩ (w3.setCell ⟨q, 0, none⟩ (.slice (some ⟨g, 0, none⟩) (h.length + 1) cap')) := by
      have hx4 := hbx3.other (p := ⟨q, 0, none⟩) HNB.out.2 (.slice (some ⟨g, 0, none⟩) (h.length + 1) cap')
      exact ⟨hx4.cell 0, hx4.cell 1⟩
    have hsl3 : w3.cell? ⟨q, 0, none⟩ = some (.slice A h.length cap) := hhq3.cell 0
    have hfr3 : w3.frozen? ⟨q, 0, none⟩ = false := hhq3.free 0
    refine hK.out _ _ hS3 (fun hHeld => ?_)
    clear hK K
    try simp only [Act.put, List.setIfInBounds_toArray, List.set_cons_zero, List.set_cons_succ]
    simp only [Act.at, List.setIfInBounds_toArray, List.set_cons_zero, List.set_cons_succ]
    clear hown3 hg3 hgb3 hlt3 hm3 hbx3 hhq3 hqg hsg hS2 hS
    first
    | (refine take_wanted (i := 8) (v := ?_) rfl rfl (by kernel_rfl) (by kernel_rfl) (by kernel_rfl) (fun _ _ _ h => h) (by rfl) (by assumption) ?_ ?_; rotate_left; (focus (intro w hSw; (try dsimp only at hSw); go_simp; first | done | with_reducible rfl)); (simp only [Act.at, List.setIfInBounds_toArray, List.set_cons_zero, List.set_cons_succ]))
    | (refine take_unwanted (i := 8) rfl rfl (by kernel_rfl) (by kernel_rfl) (by kernel_rfl) (fun _ _ _ h => h) (by rfl) (by assumption) ?_; (simp only [Act.at, List.setIfInBounds_toArray, List.set_cons_zero, List.set_cons_succ]))
    first
    | (refine take_wanted (i := 9) (v := ?_) rfl rfl (by kernel_rfl) (by kernel_rfl) (by kernel_rfl) (fun _ _ _ h => h) (by rfl) (by assumption) ?_ ?_; rotate_left; (focus (intro w hSw; (try dsimp only at hSw); go_simp; first | done | with_reducible rfl)); (simp only [Act.at, List.setIfInBounds_toArray, List.set_cons_zero, List.set_cons_succ]))
    | (refine take_unwanted (i := 9) rfl rfl (by kernel_rfl) (by kernel_rfl) (by kernel_rfl) (fun _ _ _ h => h) (by rfl) (by assumption) ?_; (simp only [Act.at, List.setIfInBounds_toArray, List.set_cons_zero, List.set_cons_succ]))
    refine wpOneH (i := 10) (by kernel_rfl) rfl (by rfl) (fun K hK => ?_)
    go_simp
    refine hK.out _ _ hS4 (fun hHeld => ?_)
    clear hK K
    try simp only [Act.put, List.setIfInBounds_toArray, List.set_cons_zero, List.set_cons_succ]
    refine wpAnyH_done (by kernel_rfl) ?_ _
    clear hsl3 hfr3 hS3 hS4
    generalize w3.setCell ⟨q, 0, none⟩ (.slice (some ⟨g, 0, none⟩) (h.length + 1) cap') = W4 at HAT HM3 ⊢
    have HUP := Lib.hid (rise_any (i := h.length) HAT.out (by simp) (by have := HLL.out; simp; omega))
    have hsl4 : W4.cell? ⟨q, 0, none⟩ = some (.slice (some ⟨g, 0, none⟩) (h.length + 1) cap') := by
      have := HAT.out.slice
      rwa [List.length_append] at this
    obtain ⟨N, hN⟩ : ∃ N, h.length + 1 = N := ⟨_, rfl⟩
    rw [hN] at hsl4 ⊢
    have hw1 : IntKind.i64.wrap ((N : Int) - 1) = (h.length : Int) := by have := HLL.out; rw [IntKind.wrap_i64]; omega
    clear hN
    go_wp2_with fail
    refine HUP.out.mono ?_
    rintro r w5 ⟨rfl, h5, hp5, hu5, hs5, hat5, hm5⟩
    have hd5 := hu5 (Du.up_push HP.out)
    have HFIN := Lib.hid (And.intro hp5 (And.intro hd5 (And.intro hat5 hm5)))
    clear hp5 hd5 hu5 hs5 hat5 hm5 HUP hsl4 hw1
    go_wp2_with fail
    go_returns
    obtain ⟨e1, e2, e3, e4⟩ := HFIN.out
    have hmf : Mv w w5 (q :: s) := ⟨e4.os.trans HM3.out.os, e4.tape.trans HM3.out.tape, e4.output.trans HM3.out.output, Nat.le_trans HM3.out.size e4.size, fun k hk hn => (e4.block k (Nat.lt_of_lt_of_le hk HM3.out.size) (fun hx => by
      rw [List.mem_singleton] at hx
      rcases HSG.out with h1 | h1
      · exact hn (by rw [hx]; exact List.mem_cons_of_mem _ h1)
      · omega)).trans (HM3.out.block k hk hn)⟩
    exact ⟨rfl, h5, [g], e1.trans (List.perm_append_singleton _ _), e2, .inr ⟨g, cap', rfl, e3⟩, hmf, fun x hx => by rw [List.mem_singleton.1 hx]; exact HSG.out⟩
  · go_simp
    have hS2 : BoxS b0 ⟨ds, dd⟩ (wd.alloc (.cells #[.int .i64 ds, .int .i64 dd] 34)) := ⟨(HBX.out.of_alloc _).cell 0, (HBX.out.of_alloc _).cell 1⟩
    have HBX2 := Lib.hid (HBX.out.of_alloc (.cells #[.int .i64 ds, .int .i64 dd] 34))
    have HHQ2 := Lib.hid (HHQ.out.of_alloc (.cells #[.int .i64 ds, .int .i64 dd] 34))
    have HOW2 := Lib.hid (HOW.out.alloc (.cells #[.int .i64 ds, .int .i64 dd] 34))
    have HMD := Lib.hid (duMade wd ds dd)
    have HM2 := Lib.hid (HM.out.alloc (.cells #[.int .i64 ds, .int .i64 dd] 34))
    have HWL : Hid (q < wd.heap.size ∧ b0 < wd.heap.size) := Lib.hid ⟨HHQ.out.lt, HBX.out.lt⟩
    generalize wd.alloc (.cells #[.int .i64 ds, .int .i64 dd] 34) = wd2 at hS2 HBX2 HHQ2 HOW2 HMD HM2 ⊢
    obtain ⟨b2, hb2⟩ : ∃ b2, wd.heap.size = b2 := ⟨_, rfl⟩
    rw [hb2] at HMD HWL ⊢
    clear hb2
    refine hK.out _ _ hS2 (fun hHeld => ?_)
    clear hK K
    try simp only [Act.put, List.setIfInBounds_toArray, List.set_cons_zero, List.set_cons_succ]
    have hsl := HHQ2.out.cell 0
    refine wpOneH (i := 4) (by kernel_rfl) rfl (by rfl) (fun K hK => ?_)
    go_simp
    refine hK.out _ _ hS2 (fun hHeld => ?_)
    clear hK K
    try simp only [Act.put, List.setIfInBounds_toArray, List.set_cons_zero, List.set_cons_succ]
    clear hsl
    refine wpOneH (i := 7) (by kernel_rfl) rfl (by rfl) (fun K hK => ?_)
    refine wp_due_append (.tmp 10) (.tmp 12) rfl 13 rfl (.slice A h.length cap) h.length h rfl HOW2.out ⟨b2, 0, none⟩ ⟨ds, dd⟩ rfl HMD.out (by have := HLL.out; omega) ?_
    intro g cap' w3 hown3 hg3 hgb3 hlt3
    have hm3 : Mv wd2 w3 s := Mv.of_grown hg3 (fun k hk => by rw [← HOB.out.1, hk]; simp)
    have hbx3 := hm3.has HBX2.out HNB.out.1
    have hhq3 := hm3.has HHQ2.out HOB.out.2
    have hS3 : BoxS b0 ⟨ds, dd⟩ w3 := ⟨hbx3.cell 0, hbx3.cell 1⟩
    have hqg : q ≠ g := by
      rcases hgb3 with e | e
      · intro e2
        have := HOB.out.1
        rw [e] at this
        exact HOB.out.2 (by rw [← this, e2]; simp)
      · have := HHQ2.out.lt; omega
    have hsg : g ∈ s ∨ w.heap.size ≤ g := by
      rcases hgb3 with e | e
      · left; rw [← HOB.out.1, e]; simp
      · right; rw [e]; exact HM2.out.size
    have HAT := Lib.hid (HAt.of_own (h := h ++ [⟨ds, dd⟩]) (w := w3.setCell ⟨q, 0, none⟩ (.slice (some ⟨g, 0, none⟩) (h.length + 1) cap')) (q := q) (g := g) (cap := cap') (by rw [List.length_append]; exact hhq3.set 0 _) hqg (by rw [List.length_append]; exact own_set hown3 hqg _))
    have HM3 := Lib.hid (((HM2.out.wide (t := q :: s) (by simp)).trans (hm3.wide (t := q :: s) (fun x hx => List.mem_cons_of_mem _ hx))).trans (Mv.of_only (Only.set w3 q 0 (.slice (some ⟨g, 0, none⟩) (h.length + 1) cap')) (s := q :: s) (by simp)))
    have HSG := Lib.hid hsg
    have hS4 : BoxS b0 ⟨ds, dd⟩ (w3.setCell ⟨q, 0, none⟩ (.slice (some ⟨g, 0, none⟩) (h.length + 1) cap')) := by
      have hx4 := hbx3.other (p := ⟨q, 0, none⟩) HNB.out.2 (.slice (some ⟨g, 0, none⟩) (h.length + 1) cap')
      exact ⟨hx4.cell 0, hx4.cell 1⟩
    have hsl3 : w3.cell? ⟨q, 0, none⟩ = some (.slice A h.length cap) := hhq3.cell 0
    have hfr3 : w3.frozen? ⟨q, 0, none⟩ = false := hhq3.free 0
    refine hK.out _ _ hS3 (fun hHeld => ?_)
    clear hK K
    try simp only [Act.put, List.setIfInBounds_toArray, List.set_cons_zero, List.set_cons_succ]
    simp only [Act.at, List.setIfInBounds_toArray, List.set_cons_zero, List.set_cons_succ]
    clear hown3 hg3 hgb3 hlt3 hm3 hbx3 hhq3 hqg hsg hS2 hS
    first
    | (refine take_wanted (i := 8) (v := ?_) rfl rfl (by kernel_rfl) (by kernel_rfl) (by kernel_rfl) (fun _ _ _ h => h) (by rfl) (by assumption) ?_ ?_; rotate_left; (focus (intro w hSw; (try dsimp only at hSw); go_simp; first | done | with_reducible rfl)); (simp only [Act.at, List.setIfInBounds_toArray, List.set_cons_zero, List.set_cons_succ]))
    | (refine take_unwanted (i := 8) rfl rfl (by kernel_rfl) (by kernel_rfl) (by kernel_rfl) (fun _ _ _ h => h) (by rfl) (by assumption) ?_; (simp only [Act.at, List.setIfInBounds_toArray, List.set_cons_zero, List.set_cons_succ]))
    first
    | (refine take_wanted (i := 9) (v := ?_) rfl rfl (by kernel_rfl) (by kernel_rfl) (by kernel_rfl) (fun _ _ _ h => h) (by rfl) (by assumption) ?_ ?_; rotate_left; (focus (intro w hSw; (try dsimp only at hSw); go_simp; first | done | with_reducible rfl)); (simp only [Act.at, List.setIfInBounds_toArray, List.set_cons_zero, List.set_cons_succ]))
    | (refine take_unwanted (i := 9) rfl rfl (by kernel_rfl) (by kernel_rfl) (by kernel_rfl) (fun _ _ _ h => h) (by rfl) (by assumption) ?_; (simp only [Act.at, List.setIfInBounds_toArray, List.set_cons_zero, List.set_cons_succ]))
    refine wpOneH (i := 10) (by kernel_rfl) rfl (by rfl) (fun K hK => ?_)
    go_simp
    refine hK.out _ _ hS4 (fun hHeld => ?_)
    clear hK K
    try simp only [Act.put, List.setIfInBounds_toArray, List.set_cons_zero, List.set_cons_succ]
    refine wpAnyH_done (by kernel_rfl) ?_ _
    clear hsl3 hfr3 hS3 hS4
    generalize w3.setCell ⟨q, 0, none⟩ (.slice (some ⟨g, 0, none⟩) (h.length + 1) cap') = W4 at HAT HM3 ⊢
    have HUP := Lib.hid (rise_any (i := h.length) HAT.out (by simp) (by have := HLL.out; simp; omega))
    have hsl4 : W4.cell? ⟨q, 0, none⟩ = some (.slice (some ⟨g, 0, none⟩) (h.length + 1) cap') := by
      have := HAT.out.slice
      rwa [List.length_append] at this
    obtain ⟨N, hN⟩ : ∃ N, h.length + 1 = N := ⟨_, rfl⟩
    rw [hN] at hsl4 ⊢
    have hw1 : IntKind.i64.wrap ((N : Int) - 1) = (h.length : Int) := by have := HLL.out; rw [IntKind.wrap_i64]; omega
    clear hN
    go_wp2_with fail
    refine HUP.out.mono ?_
    rintro r w5 ⟨rfl, h5, hp5, hu5, hs5, hat5, hm5⟩
    have hd5 := hu5 (Du.up_push HP.out)
    have HFIN := Lib.hid (And.intro hp5 (And.intro hd5 (And.intro hat5 hm5)))
    clear hp5 hd5 hu5 hs5 hat5 hm5 HUP hsl4 hw1
    go_wp2_with fail
    go_returns
    obtain ⟨e1, e2, e3, e4⟩ := HFIN.out
    have hmf : Mv w w5 (q :: s) := ⟨e4.os.trans HM3.out.os, e4.tape.trans HM3.out.tape, e4.output.trans HM3.out.output, Nat.le_trans HM3.out.size e4.size, fun k hk hn => (e4.block k (Nat.lt_of_lt_of_le hk HM3.out.size) (fun hx => by
      rw [List.mem_singleton] at hx
      rcases HSG.out with h1 | h1
      · exact hn (by rw [hx]; exact List.mem_cons_of_mem _ h1)
      · omega)).trans (HM3.out.block k hk hn)⟩
    exact ⟨rfl, h5, [g], e1.trans (List.perm_append_singleton _ _), e2, .inr ⟨g, cap', rfl, e3⟩, hmf, fun x hx => by rw [List.mem_singleton.1 hx]; exact HSG.out⟩
end Go.Proofs.Ytjmdpepghnhpkaa
