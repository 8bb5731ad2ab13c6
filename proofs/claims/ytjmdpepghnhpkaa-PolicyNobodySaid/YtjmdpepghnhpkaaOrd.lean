/-
  The program's order of dues: numbers compared, the first that is not nought.
-/
import Derived.Test.YtjmdpepghnhpkaaDueA
import Derived.Test.YtjmdpepghnhpkaaMv
import Derived.Test.YtjmdpepghnhpkaaTake
import Derived.Deep.MidRow
import Derived.Deep.QuietTactic
import Derived.Deep.LoopGhost
import Derived.Deep.DeepCutAuto
import Derived.Deep.CutBlock
import Derived.Sort.Grow
namespace Go.Proofs.Ytjmdpepghnhpkaa
open Go.RowKit
set_option linter.unusedVariables false

section
variable {P : Program} {ops : Array Oper} {Q : Exit → Act → World → Prop} {md : Region.Mode} {S : World → Prop}
theorem wpOneH {i : Nat} {oi : Oper} {fuel : Nat} {listed : Array Bool} {a : Act} {w : World} (hr : Region.ready md ops listed = [i]) (hi : ops[i]? = some oi) (hwi : Region.wanted oi (yielded ops a.tmps) = true)
    (h1 : ∀ K : Act → World → Prop, Shut (∀ a w, S w → (S w → wpAnyH P md ops Q S fuel (listed.setIfInBounds i true) a w) → K a w) → Oper.wp P oi a w K Q) : wpAnyH P md ops Q S (fuel + 1) listed a w :=
  wpAnyH_ready hr (by simp) (AllReadyH.cons hi (fun K hK => by rw [if_pos hwi]; exact h1 K hK) AllReadyH.nil)
theorem wpTwoH {i j : Nat} {oi oj : Oper} {fuel : Nat} {listed : Array Bool} {a : Act} {w : World} (hr : Region.ready md ops listed = [i, j]) (hi : ops[i]? = some oi) (hj : ops[j]? = some oj)
    (hwi : Region.wanted oi (yielded ops a.tmps) = true) (hwj : Region.wanted oj (yielded ops a.tmps) = true)
    (h1 : ∀ K : Act → World → Prop, Shut (∀ a w, S w → (S w → wpAnyH P md ops Q S fuel (listed.setIfInBounds i true) a w) → K a w) → Oper.wp P oi a w K Q)
    (h2 : ∀ K : Act → World → Prop, Shut (∀ a w, S w → (S w → wpAnyH P md ops Q S fuel (listed.setIfInBounds j true) a w) → K a w) → Oper.wp P oj a w K Q) : wpAnyH P md ops Q S (fuel + 1) listed a w :=
  wpAnyH_ready hr (by simp) (AllReadyH.cons hi (fun K hK => by rw [if_pos hwi]; exact h1 K hK) (AllReadyH.cons hj (fun K hK => by rw [if_pos hwj]; exact h2 K hK) AllReadyH.nil))
end
namespace Du
/-- Two numbers compared. -/
def c3 (x y : Int) : Int := if x < y then -1 else if y < x then 1 else 0
/-- The first that is not nought. -/
def or2 (a c : Int) : Int := if a = 0 then c else a
def cf (a b : Du) : Int := or2 (c3 a.due b.due) (c3 a.seq b.seq)
theorem cf_lt (a b : Du) : decide (cf a b < 0) = lt a b := by
  rw [Bool.eq_iff_iff, decide_eq_true_iff, lt_iff]
  unfold cf or2 c3
  split <;> split <;> (try split) <;> (try split) <;> omega
theorem cf_zero {a b : Du} (h1 : lt a b = false) (h2 : lt b a = false) : a = b := le_antisymm h2 h1
end Du
set_option maxRecDepth 100000 in
theorem nan3_any (x : Int) (w : World) : Calls Try.prog 52 #[.int .i64 x] w fun r w' => r = .returned (.bool false) ∧ w' = w := by
  go_enter Try.func52, Try.ntmps52
  go_wp2_with fail
  go_ret
  exact ⟨by simp, rfl⟩
set_option maxRecDepth 100000 in
theorem cmp3_any (x y : Int) (w : World) : Calls Try.prog 42 #[.int .i64 x, .int .i64 y] w fun r w' => r = .returned (.int .i64 (Du.c3 x y)) ∧ w' = w := by
  have HN := Lib.hid nan3_any
  obtain ⟨res, hres⟩ : ∃ res, Du.c3 x y = res := ⟨_, rfl⟩
  rw [hres]
  by_cases c1 : x < y
  · obtain rfl : res = -1 := by rw [← hres]; unfold Du.c3; rw [if_pos c1]
    clear hres
    go_enter Try.func42, Try.ntmps42
    go_wp2_with (first | (go_at_call 52; refine (HN.out _ _).mono ?_; rintro r w' ⟨rfl, rfl⟩))
    go_ret
    exact ⟨rfl, rfl⟩
  · by_cases c2 : y < x
    · obtain rfl : res = 1 := by rw [← hres]; unfold Du.c3; rw [if_neg c1, if_pos c2]
      clear hres
      go_enter Try.func42, Try.ntmps42
      go_wp2_with (first | (go_at_call 52; refine (HN.out _ _).mono ?_; rintro r w' ⟨rfl, rfl⟩))
      go_ret
      exact ⟨rfl, rfl⟩
    · obtain rfl : res = 0 := by rw [← hres]; unfold Du.c3; rw [if_neg c1, if_neg c2]
      clear hres
      go_enter Try.func42, Try.ntmps42
      go_wp2_with (first | (go_at_call 52; refine (HN.out _ _).mono ?_; rintro r w' ⟨rfl, rfl⟩))
      go_ret
      exact ⟨rfl, rfl⟩
set_option maxRecDepth 100000 in
theorem or2_any {w : World} {b : Nat} {x y : Int} (h0 : w.cell? ⟨b, 0, none⟩ = some (.int .i64 x)) (h1 : w.cell? ⟨b, 1, none⟩ = some (.int .i64 y)) :
    Calls Try.prog 41 #[.slice (some ⟨b, 0, none⟩) 2 2] w fun r w' => r = .returned (.int .i64 (Du.or2 x y)) ∧ w' = w := by
  obtain ⟨res, hres⟩ : ∃ res, Du.or2 x y = res := ⟨_, rfl⟩
  rw [hres]
  by_cases hx : x = 0
  · obtain rfl : res = y := by rw [← hres]; unfold Du.or2; rw [if_pos hx]
    subst hx
    clear hres
    by_cases hy : res = 0
    · subst hy
      go_enter Try.func41, Try.ntmps41
      go_wp2_with fail
      refine wp_loop_rounds 3 ?_
      rw [rounds_succ]
      go_wp2_with fail
      rw [rounds_succ]
      go_wp2_with fail
      rw [rounds_succ]
      go_wp2_with fail
      go_ret
      exact ⟨rfl, rfl⟩
    · have hyb : (res != 0) = true := by simpa using hy
      go_enter Try.func41, Try.ntmps41
      go_wp2_with fail
      refine wp_loop_rounds 3 ?_
      rw [rounds_succ]
      go_wp2_with fail
      rw [rounds_succ]
      go_wp2_with fail
      go_ret
      exact ⟨rfl, rfl⟩
  · obtain rfl : res = x := by rw [← hres]; unfold Du.or2; rw [if_neg hx]
    clear hres
    have hyb : (res != 0) = true := by simpa using hx
    go_enter Try.func41, Try.ntmps41
    go_wp2_with fail
    refine wp_loop_rounds 3 ?_
    rw [rounds_succ]
    go_wp2_with fail
    go_ret
    exact ⟨rfl, rfl⟩
/-- Worlds that have grown by blocks alone, and by so many draws. -/
structure GrownBy (q : Nat) (w W : World) : Prop where
  bel : Below w.heap.size w W
  drawn : W.drawn = w.drawn + q
theorem GrownBy.alloc {q : Nat} {w W : World} (h : GrownBy q w W) (o : Obj) : GrownBy q w (W.alloc o) := ⟨h.bel.alloc h.bel.size o, h.drawn⟩
theorem GrownBy.eq {q : Nat} {w W : World} (h : GrownBy q w W) : ∃ os, W = Go.Sort.grow (w.drewN q) os := by
  obtain ⟨⟨h1, h2, h3, h4, h5⟩, h6⟩ := h
  obtain ⟨hp, tp, dr, o, out⟩ := W
  dsimp only at *
  subst h1 h2 h3 h6
  refine ⟨hp.extract w.heap.size hp.size, ?_⟩
  have e : hp = w.heap ++ hp.extract w.heap.size hp.size := by
    apply Array.ext_getElem?
    intro i
    by_cases hi : i < w.heap.size
    · rw [h5 i hi, Array.getElem?_append_left hi]
    · rw [Array.getElem?_append_right (by omega), Array.getElem?_extract]
      by_cases h2 : i < hp.size
      · rw [if_pos (by omega)]
        congr 1
        omega
      · rw [if_neg (by omega), Array.getElem?_eq_none (by omega)]
  show World.mk hp _ _ _ _ = World.mk (w.heap ++ hp.extract w.heap.size hp.size) _ _ _ _
  rw [← e]
  rfl
/-- The two dues' own variables. -/
abbrev TwoBox (b0 b1 : Nat) (s1 d1 s2 d2 : Int) (W : World) : Prop := W.cell? ⟨b0, 0, none⟩ = some (.int .i64 s1) ∧ W.cell? ⟨b0, 1, none⟩ = some (.int .i64 d1) ∧ W.cell? ⟨b1, 0, none⟩ = some (.int .i64 s2) ∧ W.cell? ⟨b1, 1, none⟩ = some (.int .i64 d2)
set_option maxRecDepth 100000 in
set_option maxHeartbeats 2000000 in
theorem order_grown (a b : Du) (w : World) : Calls Try.prog 27 #[.agg #[.int .i64 a.seq, .int .i64 a.due], .agg #[.int .i64 b.seq, .int .i64 b.due]] w fun r w' => r = .returned (.int .i64 (Du.cf a b)) ∧ GrownBy 1 w w' := by
  have hres : Du.or2 (Du.c3 a.due b.due) (Du.c3 a.seq b.seq) = Du.cf a b := rfl
  obtain ⟨s1, d1⟩ := a
  obtain ⟨s2, d2⟩ := b
  dsimp only at *
  have HC := Lib.hid cmp3_any
  have HC1 := Lib.hid (HC.out d1 d2)
  have HC2 := Lib.hid (HC.out s1 s2)
  generalize Du.c3 d1 d2 = x at hres HC1
  generalize Du.c3 s1 s2 = y at hres HC2
  have HO := Lib.hid (fun (W : World) (b : Nat) (h0 : W.cell? ⟨b, 0, none⟩ = some (.int .i64 x)) (h1 : W.cell? ⟨b, 1, none⟩ = some (.int .i64 y)) => or2_any h0 h1)
  rw [hres] at HO
  generalize Du.cf _ _ = res at hres HO ⊢
  clear hres HC
  go_enter Try.func27, Try.ntmps27
  go_upto_region 1 with fail
  have hb : Below w.heap.size w ((w.alloc (.cells #[.int .i64 s1, .int .i64 d1] 34)).alloc (.cells #[.int .i64 s2, .int .i64 d2] 34)) := duTwo _ _ _
  have hd : ((w.alloc (.cells #[.int .i64 s1, .int .i64 d1] 34)).alloc (.cells #[.int .i64 s2, .int .i64 d2] 34)).drew.drawn = w.drawn + 1 := rfl
  have h1 := (Has.made w 34 #[.int .i64 s1, .int .i64 d1]).of_alloc (.cells #[.int .i64 s2, .int .i64 d2] 34)
  have h2 := Has.made (w.alloc (.cells #[.int .i64 s1, .int .i64 d1] 34)) 34 #[.int .i64 s2, .int .i64 d2]
  rw [show (w.alloc (.cells #[.int .i64 s1, .int .i64 d1] 34)).heap.size = w.heap.size + 1 from by rw [asize]] at h2
  generalize (w.alloc (.cells #[.int .i64 s1, .int .i64 d1] 34)).alloc (.cells #[.int .i64 s2, .int .i64 d2] 34) = W0 at hb hd h1 h2 ⊢
  obtain ⟨b0, hb0⟩ : ∃ b0, w.heap.size = b0 := ⟨_, rfl⟩
  rw [hb0] at h1 h2 ⊢
  obtain ⟨b1, hb1⟩ : ∃ b1, b0 + 1 = b1 := ⟨_, rfl⟩
  rw [hb1] at h2 ⊢
  have HB : Hid (GrownBy 1 w W0.drew) := Lib.hid ⟨hb.drew, hd⟩
  have hS : TwoBox b0 b1 s1 d1 s2 d2 W0.drew := ⟨h1.cell 0, h1.cell 1, h2.cell 0, h2.cell 1⟩
  have HLT : Hid (b0 < W0.drew.heap.size ∧ b1 < W0.drew.heap.size) := Lib.hid ⟨h1.lt, h2.lt⟩
  clear h1 h2 hb hd hb0 hb1
  refine wp_region_held_drew (S := TwoBox b0 b1 s1 d1 s2 d2) (by kernel_rfl) hS (fun hHeld => ?_)
  generalize W0.drew = wd at hS hHeld HB HLT ⊢
  first
  | (refine take_wanted (i := 0) (v := ?_) rfl rfl (by kernel_rfl) (by kernel_rfl) (by kernel_rfl) (fun _ _ _ h => h) (by rfl) (by assumption) ?_ ?_; rotate_left; (focus (intro w hSw; (try dsimp only at hSw); go_simp; first | done | with_reducible rfl)); (simp only [Act.at, List.setIfInBounds_toArray, List.set_cons_zero, List.set_cons_succ]))
  | (refine take_unwanted (i := 0) rfl rfl (by kernel_rfl) (by kernel_rfl) (by kernel_rfl) (fun _ _ _ h => h) (by rfl) (by assumption) ?_; (simp only [Act.at, List.setIfInBounds_toArray, List.set_cons_zero, List.set_cons_succ]))
  first
  | (refine take_wanted (i := 1) (v := ?_) rfl rfl (by kernel_rfl) (by kernel_rfl) (by kernel_rfl) (fun _ _ _ h => h) (by rfl) (by assumption) ?_ ?_; rotate_left; (focus (intro w hSw; (try dsimp only at hSw); go_simp; first | done | with_reducible rfl)); (simp only [Act.at, List.setIfInBounds_toArray, List.set_cons_zero, List.set_cons_succ]))
  | (refine take_unwanted (i := 1) rfl rfl (by kernel_rfl) (by kernel_rfl) (by kernel_rfl) (fun _ _ _ h => h) (by rfl) (by assumption) ?_; (simp only [Act.at, List.setIfInBounds_toArray, List.set_cons_zero, List.set_cons_succ]))
  first
  | (refine take_wanted (i := 2) (v := ?_) rfl rfl (by kernel_rfl) (by kernel_rfl) (by kernel_rfl) (fun _ _ _ h => h) (by rfl) (by assumption) ?_ ?_; rotate_left; (focus (intro w hSw; (try dsimp only at hSw); go_simp; first | done | with_reducible rfl)); (simp only [Act.at, List.setIfInBounds_toArray, List.set_cons_zero, List.set_cons_succ]))
  | (refine take_unwanted (i := 2) rfl rfl (by kernel_rfl) (by kernel_rfl) (by kernel_rfl) (fun _ _ _ h => h) (by rfl) (by assumption) ?_; (simp only [Act.at, List.setIfInBounds_toArray, List.set_cons_zero, List.set_cons_succ]))
  first
  | (refine take_wanted (i := 3) (v := ?_) rfl rfl (by kernel_rfl) (by kernel_rfl) (by kernel_rfl) (fun _ _ _ h => h) (by rfl) (by assumption) ?_ ?_; rotate_left; (focus (intro w hSw; (try dsimp only at hSw); go_simp; first | done | with_reducible rfl)); (simp only [Act.at, List.setIfInBounds_toArray, List.set_cons_zero, List.set_cons_succ]))
  | (refine take_unwanted (i := 3) rfl rfl (by kernel_rfl) (by kernel_rfl) (by kernel_rfl) (fun _ _ _ h => h) (by rfl) (by assumption) ?_; (simp only [Act.at, List.setIfInBounds_toArray, List.set_cons_zero, List.set_cons_succ]))
  first
  | (refine take_wanted (i := 5) (v := ?_) rfl rfl (by kernel_rfl) (by kernel_rfl) (by kernel_rfl) (fun _ _ _ h => h) (by rfl) (by assumption) ?_ ?_; rotate_left; (focus (intro w hSw; (try dsimp only at hSw); go_simp; first | done | with_reducible rfl)); (simp only [Act.at, List.setIfInBounds_toArray, List.set_cons_zero, List.set_cons_succ]))
  | (refine take_unwanted (i := 5) rfl rfl (by kernel_rfl) (by kernel_rfl) (by kernel_rfl) (fun _ _ _ h => h) (by rfl) (by assumption) ?_; (simp only [Act.at, List.setIfInBounds_toArray, List.set_cons_zero, List.set_cons_succ]))
  first
  | (refine take_wanted (i := 6) (v := ?_) rfl rfl (by kernel_rfl) (by kernel_rfl) (by kernel_rfl) (fun _ _ _ h => h) (by rfl) (by assumption) ?_ ?_; rotate_left; (focus (intro w hSw; (try dsimp only at hSw); go_simp; first | done | with_reducible rfl)); (simp only [Act.at, List.setIfInBounds_toArray, List.set_cons_zero, List.set_cons_succ]))
  | (refine take_unwanted (i := 6) rfl rfl (by kernel_rfl) (by kernel_rfl) (by kernel_rfl) (fun _ _ _ h => h) (by rfl) (by assumption) ?_; (simp only [Act.at, List.setIfInBounds_toArray, List.set_cons_zero, List.set_cons_succ]))
  first
  | (refine take_wanted (i := 7) (v := ?_) rfl rfl (by kernel_rfl) (by kernel_rfl) (by kernel_rfl) (fun _ _ _ h => h) (by rfl) (by assumption) ?_ ?_; rotate_left; (focus (intro w hSw; (try dsimp only at hSw); go_simp; first | done | with_reducible rfl)); (simp only [Act.at, List.setIfInBounds_toArray, List.set_cons_zero, List.set_cons_succ]))
  | (refine take_unwanted (i := 7) rfl rfl (by kernel_rfl) (by kernel_rfl) (by kernel_rfl) (fun _ _ _ h => h) (by rfl) (by assumption) ?_; (simp only [Act.at, List.setIfInBounds_toArray, List.set_cons_zero, List.set_cons_succ]))
  first
  | (refine take_wanted (i := 8) (v := ?_) rfl rfl (by kernel_rfl) (by kernel_rfl) (by kernel_rfl) (fun _ _ _ h => h) (by rfl) (by assumption) ?_ ?_; rotate_left; (focus (intro w hSw; (try dsimp only at hSw); go_simp; first | done | with_reducible rfl)); (simp only [Act.at, List.setIfInBounds_toArray, List.set_cons_zero, List.set_cons_succ]))
  | (refine take_unwanted (i := 8) rfl rfl (by kernel_rfl) (by kernel_rfl) (by kernel_rfl) (fun _ _ _ h => h) (by rfl) (by assumption) ?_; (simp only [Act.at, List.setIfInBounds_toArray, List.set_cons_zero, List.set_cons_succ]))
  refine wpOneH (i := 4) (by kernel_rfl) rfl (by rfl) (fun K hK => ?_)
  go_simp
  refine (HC1.out _).mono ?_
  rintro r w1 ⟨rfl, e1⟩
  rw [e1]
  clear e1 w1
  refine hK.out _ _ hS (fun hHeld => ?_)
  clear hK K
  try simp only [Act.put, List.setIfInBounds_toArray, List.set_cons_zero, List.set_cons_succ]
  refine wpOneH (i := 9) (by kernel_rfl) rfl (by rfl) (fun K hK => ?_)
  go_simp
  refine (HC2.out _).mono ?_
  rintro r w1 ⟨rfl, e1⟩
  rw [e1]
  clear e1 w1
  refine hK.out _ _ hS (fun hHeld => ?_)
  clear hK K
  try simp only [Act.put, List.setIfInBounds_toArray, List.set_cons_zero, List.set_cons_succ]
  refine wpOneH (i := 10) (by kernel_rfl) rfl (by rfl) (fun K hK => ?_)
  go_simp
  have hS2 : TwoBox b0 b1 s1 d1 s2 d2 (wd.alloc (.cells #[.int .i64 x, .int .i64 y] 3)) := by
    have ho := fun (p : Addr) (h : p.block < wd.heap.size) => World.cell?_of_block (a := p) (Below.heap_alloc wd (.cells #[.int .i64 x, .int .i64 y] 3) p.block h)
    exact ⟨(ho ⟨b0, 0, none⟩ HLT.out.1).trans hS.1, (ho ⟨b0, 1, none⟩ HLT.out.1).trans hS.2.1, (ho ⟨b1, 0, none⟩ HLT.out.2).trans hS.2.2.1, (ho ⟨b1, 1, none⟩ HLT.out.2).trans hS.2.2.2⟩
  have hN := Has.made wd 3 #[.int .i64 x, .int .i64 y]
  have HB2 := Lib.hid (HB.out.alloc (.cells #[.int .i64 x, .int .i64 y] 3))
  generalize wd.alloc (.cells #[.int .i64 x, .int .i64 y] 3) = wd2 at hS2 hN HB2 ⊢
  generalize wd.heap.size = b2 at hN ⊢
  have HOR := Lib.hid (HO.out wd2 b2 (hN.cell 0) (hN.cell 1))
  clear hN
  refine hK.out _ _ hS2 (fun hHeld => ?_)
  clear hK K
  try simp only [Act.put, List.setIfInBounds_toArray, List.set_cons_zero, List.set_cons_succ]
  refine wpOneH (i := 11) (by kernel_rfl) rfl (by rfl) (fun K hK => ?_)
  go_simp
  refine HOR.out.mono ?_
  rintro r w1 ⟨rfl, e1⟩
  rw [e1]
  clear e1 w1
  refine hK.out _ _ hS2 (fun hHeld => ?_)
  clear hK K
  try simp only [Act.put, List.setIfInBounds_toArray, List.set_cons_zero, List.set_cons_succ]
  first
  | (refine take_wanted (i := 12) (v := ?_) rfl rfl (by kernel_rfl) (by kernel_rfl) (by kernel_rfl) (fun _ _ _ h => h) (by rfl) (by assumption) ?_ ?_; rotate_left; (focus (intro w hSw; (try dsimp only at hSw); go_simp; first | done | with_reducible rfl)); (simp only [Act.at, List.setIfInBounds_toArray, List.set_cons_zero, List.set_cons_succ]))
  | (refine take_unwanted (i := 12) rfl rfl (by kernel_rfl) (by kernel_rfl) (by kernel_rfl) (fun _ _ _ h => h) (by rfl) (by assumption) ?_; (simp only [Act.at, List.setIfInBounds_toArray, List.set_cons_zero, List.set_cons_succ]))
  refine wpAnyH_done (by kernel_rfl) ?_ _
  go_wp2_with fail
  go_ret
  exact ⟨rfl, HB2.out⟩
theorem order_any (a b : Du) (w : World) : Calls Try.prog 27 #[.agg #[.int .i64 a.seq, .int .i64 a.due], .agg #[.int .i64 b.seq, .int .i64 b.due]] w fun r w' => r = .returned (.int .i64 (Du.cf a b)) ∧ Below w.heap.size w w' :=
  (order_grown a b w).mono fun _ _ ⟨he, hb⟩ => ⟨he, hb.bel⟩
end Go.Proofs.Ytjmdpepghnhpkaa
