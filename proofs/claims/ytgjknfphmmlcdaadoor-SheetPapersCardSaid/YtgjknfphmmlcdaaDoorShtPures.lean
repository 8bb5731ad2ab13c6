/-
  ShtPures: the texts ShtSpec, ShtMore, ShtPart in one.
-/
import Derived.Test.YtgjknfphmmlcdaaDoorMkPures
namespace Go.Proofs.YtgjknfphmmlcdaaDoor
set_option linter.unusedVariables false

namespace Sht
open Mk
/-- Does a place stand in a part? -/
def inr (at_ n : Nat) (p : Int) : Bool := decide ((at_ : Int) ≤ p) && decide (p < (at_ : Int) + n)
theorem inr_iff {at_ n : Nat} {p : Int} : inr at_ n p = true ↔ (at_ : Int) ≤ p ∧ p < (at_ : Int) + n := by
  unfold inr; rw [Bool.and_eq_true, decide_eq_true_eq, decide_eq_true_eq]
def has (pick : List Int) (at_ n : Nat) : Bool := pick.any (inr at_ n)
def cnt (pick : List Int) (at_ n : Nat) : Nat := (pick.filter (inr at_ n)).length
def Rise (pick : List Int) : Prop := pick.Pairwise (· < ·)
theorem cnt_zero {pick : List Int} {at_ n : Nat} (h : has pick at_ n = false) : pick.filter (inr at_ n) = [] := by
  unfold has at h
  rw [List.any_eq_false] at h
  exact List.filter_eq_nil_iff.mpr h
theorem has_of {pick : List Int} {at_ n : Nat} (h : has pick at_ n = true) : pick.filter (inr at_ n) ≠ [] := by
  unfold has at h
  rw [List.any_eq_true] at h
  obtain ⟨p, hp, hi⟩ := h
  intro e
  have : p ∈ pick.filter (inr at_ n) := List.mem_filter.mpr ⟨hp, hi⟩
  rw [e] at this
  cases this
theorem split (at_ k n : Nat) (hk : k ≤ n) : ∀ pick : List Int, Rise pick → pick.filter (inr at_ n) = pick.filter (inr at_ k) ++ pick.filter (inr (at_ + k) (n - k)) := by
  intro pick
  induction pick with
  | nil => intro _; rfl
  | cons p ps ih =>
    intro h
    obtain ⟨h1, h2⟩ := List.pairwise_cons.mp h
    have ih := ih h2
    by_cases c1 : inr at_ k p = true
    · have c3 : inr at_ n p = true := by rw [inr_iff] at c1 ⊢; omega
      have c2 : ¬ inr (at_ + k) (n - k) p = true := by rw [inr_iff] at c1 ⊢; omega
      rw [List.filter_cons_of_pos c3, List.filter_cons_of_pos c1, List.filter_cons_of_neg c2, ih]
      rfl
    · by_cases c2 : inr (at_ + k) (n - k) p = true
      · have c3 : inr at_ n p = true := by rw [inr_iff] at c2 ⊢; omega
        have hl : ps.filter (inr at_ k) = [] := by
          rw [List.filter_eq_nil_iff]
          intro q hq hc
          have := h1 q hq
          rw [inr_iff] at hc c2
          omega
        rw [List.filter_cons_of_pos c3, List.filter_cons_of_neg c1, List.filter_cons_of_pos c2, ih, hl]
        rfl
      · have c3 : ¬ inr at_ n p = true := by rw [inr_iff] at c1 c2 ⊢; omega
        rw [List.filter_cons_of_neg c3, List.filter_cons_of_neg c1, List.filter_cons_of_neg c2, ih]
/-- In a part of one place there is one picked place, at most. -/
theorem one (at_ : Nat) : ∀ pick : List Int, Rise pick → has pick at_ 1 = true → pick.filter (inr at_ 1) = [(at_ : Int)] := by
  intro pick
  induction pick with
  | nil => intro _ h; cases h
  | cons p ps ih =>
    intro h hh
    obtain ⟨h1, h2⟩ := List.pairwise_cons.mp h
    by_cases c : inr at_ 1 p = true
    · have hp : p = (at_ : Int) := by rw [inr_iff] at c; omega
      have hl : ps.filter (inr at_ 1) = [] := by
        rw [List.filter_eq_nil_iff]
        intro q hq hc
        have := h1 q hq
        rw [inr_iff] at hc
        omega
      rw [List.filter_cons_of_pos c, hl, hp]
    · rw [List.filter_cons_of_neg c]
      apply ih h2
      unfold has at hh ⊢
      rw [List.any_cons] at hh
      rw [Bool.or_eq_true] at hh
      rcases hh with hh | hh
      · exact absurd hh c
      · exact hh

/-- The roots beside picked places of leaves from a place on. -/
def beside (l : List Mill.En) (L : List T) (at_ : Nat) (pick : List Int) : List T :=
  if has pick at_ L.length = false then [root l L]
  else if h : 2 ≤ L.length then beside l (L.take (below L.length)) at_ pick ++ beside l (L.drop (below L.length)) (at_ + below L.length) pick
  else []
termination_by L.length
decreasing_by
  · rw [List.length_take]; have := below_lt h; omega
  · rw [List.length_drop]; have := below_pos L.length; omega
/-- How many roots are beside. -/
def siblings (pick : List Int) (at_ n : Nat) : Nat :=
  if has pick at_ n = false then 1
  else if h : 2 ≤ n then siblings pick at_ (below n) + siblings pick (at_ + below n) (n - below n)
  else 0
termination_by n
decreasing_by
  · exact below_lt h
  · have := below_pos n; omega
/-- What is built: the root, and what is left of leaves and roots; none: too few. -/
def build (l : List Mill.En) (pick : List Int) (at_ n : Nat) (lf nd : List T) : Option (T × List T × List T) :=
  if has pick at_ n = false then nd.head?.map (fun x => (x, lf, nd.tail))
  else if h : 2 ≤ n then
    (build l pick at_ (below n) lf nd).bind fun t => (build l pick (at_ + below n) (n - below n) t.2.1 t.2.2).bind fun u => some (node l t.1 u.1, u.2.1, u.2.2)
  else lf.head?.map (fun x => (x, lf.tail, nd))
termination_by n
decreasing_by
  · exact below_lt h
  · have := below_pos n; omega
def buildAsks (l : List Mill.En) (pick : List Int) (at_ n : Nat) (lf nd : List T) : List T :=
  if has pick at_ n = false then []
  else if h : 2 ≤ n then
    ((build l pick at_ (below n) lf nd).bind fun t => (build l pick (at_ + below n) (n - below n) t.2.1 t.2.2).bind fun u => some (buildAsks l pick at_ (below n) lf nd ++ buildAsks l pick (at_ + below n) (n - below n) t.2.1 t.2.2 ++ [(1 :: t.1) ++ u.1])).getD []
  else []
termination_by n
decreasing_by
  · exact below_lt h
  · have := below_pos n; omega
theorem build_not (l : List Mill.En) (pick : List Int) (at_ n : Nat) (lf nd : List T) (h : has pick at_ n = false) : build l pick at_ n lf nd = nd.head?.map (fun x => (x, lf, nd.tail)) := by rw [build, if_pos h]
theorem build_leaf (l : List Mill.En) (pick : List Int) (at_ n : Nat) (lf nd : List T) (h : has pick at_ n = true) (h2 : ¬ 2 ≤ n) : build l pick at_ n lf nd = lf.head?.map (fun x => (x, lf.tail, nd)) := by rw [build, if_neg (by simp [h]), dif_neg h2]
theorem build_more (l : List Mill.En) (pick : List Int) (at_ n : Nat) (lf nd : List T) (h : has pick at_ n = true) (h2 : 2 ≤ n) : build l pick at_ n lf nd = (build l pick at_ (below n) lf nd).bind fun t => (build l pick (at_ + below n) (n - below n) t.2.1 t.2.2).bind fun u => some (node l t.1 u.1, u.2.1, u.2.2) := by
  rw [build, if_neg (by simp [h]), dif_pos h2]
theorem build_parts {l : List Mill.En} {pick : List Int} {at_ n : Nat} {lf nd lf2 nd2 : List T} {r : T} (h : has pick at_ n = true) (h2 : 2 ≤ n) (hb : build l pick at_ n lf nd = some (r, lf2, nd2)) :
    ∃ a b lf1 nd1, build l pick at_ (below n) lf nd = some (a, lf1, nd1) ∧ build l pick (at_ + below n) (n - below n) lf1 nd1 = some (b, lf2, nd2) ∧ r = node l a b ∧ buildAsks l pick at_ n lf nd = buildAsks l pick at_ (below n) lf nd ++ buildAsks l pick (at_ + below n) (n - below n) lf1 nd1 ++ [(1 :: a) ++ b] := by
  rw [build_more l pick at_ n lf nd h h2, Option.bind_eq_some_iff] at hb
  obtain ⟨⟨a, lf1, nd1⟩, e1, hb⟩ := hb
  rw [Option.bind_eq_some_iff] at hb
  obtain ⟨⟨b, lf3, nd3⟩, e2, hb⟩ := hb
  injection hb with hb
  injection hb with e3 hb
  injection hb with e4 e5
  dsimp only at e2 e3 e4 e5
  subst e4; subst e5
  refine ⟨a, b, lf1, nd1, e1, e2, e3.symm, ?_⟩
  rw [buildAsks, if_neg (by simp [h]), dif_pos h2, e1, Option.bind_some, e2, Option.bind_some]
  rfl
/-- What is built takes the leaves of the picked places. -/
theorem build_takes (l : List Mill.En) (pick : List Int) (hp : Rise pick) : ∀ (n at_ : Nat) (lf nd lf1 nd1 : List T) (r : T), 1 ≤ n → build l pick at_ n lf nd = some (r, lf1, nd1) → lf1 = lf.drop (cnt pick at_ n) ∧ cnt pick at_ n ≤ lf.length ∧ nd1 = nd.drop (siblings pick at_ n) ∧ siblings pick at_ n ≤ nd.length := by
  intro n
  induction n using Nat.strongRecOn with
  | ind n ih =>
    intro at_ lf nd lf1 nd1 r h1 hb
    by_cases h : has pick at_ n = true
    · by_cases h2 : 2 ≤ n
      · obtain ⟨a, b, lf2, nd2, e1, e2, _⟩ := build_parts h h2 hb
        have hbl := below_lt h2
        have hpos := below_pos n
        obtain ⟨t1, t2, t3, t4⟩ := ih (below n) hbl at_ _ _ _ _ _ hpos e1
        obtain ⟨t5, t6, t7, t8⟩ := ih (n - below n) (by omega) _ _ _ _ _ _ (by omega) e2
        have hc : cnt pick at_ n = cnt pick at_ (below n) + cnt pick (at_ + below n) (n - below n) := by
          unfold cnt
          rw [split at_ (below n) n (by omega) pick hp, List.length_append]
        have hs : siblings pick at_ n = siblings pick at_ (below n) + siblings pick (at_ + below n) (n - below n) := by
          rw [siblings, if_neg (by simp [h]), dif_pos h2]
        subst t1; subst t3
        rw [List.length_drop] at t6 t8
        rw [hc, hs, t5, t7, List.drop_drop, List.drop_drop]
        exact ⟨rfl, by omega, rfl, by omega⟩
      · have hn : n = 1 := by omega
        subst hn
        rw [build_leaf l pick at_ 1 lf nd h h2] at hb
        have hs : siblings pick at_ 1 = 0 := by rw [siblings, if_neg (by simp [h]), dif_neg h2]
        have hc : cnt pick at_ 1 = 1 := by unfold cnt; rw [one at_ pick hp h]; rfl
        match lf, hb with
        | x :: rr, hb =>
          rw [List.head?_cons, Option.map_some] at hb
          injection hb with hb
          injection hb with e3 hb
          injection hb with e4 e5
          rw [hs, hc, ← e4, ← e5]
          exact ⟨rfl, by simp, rfl, by simp⟩
    · have h : has pick at_ n = false := by simpa using h
      rw [build_not l pick at_ n lf nd h] at hb
      have hs : siblings pick at_ n = 1 := by rw [siblings, if_pos h]
      have hc : cnt pick at_ n = 0 := by unfold cnt; rw [cnt_zero h]; rfl
      match nd, hb with
      | x :: rr, hb =>
        rw [List.head?_cons, Option.map_some] at hb
        injection hb with hb
        injection hb with e3 hb
        injection hb with e4 e5
        rw [hs, hc, ← e4, ← e5]
        exact ⟨rfl, by simp, rfl, by simp⟩
theorem build_len (l : List Mill.En) (hr : Mill.right l = true) (pick : List Int) : ∀ (n at_ : Nat) (lf nd lf1 nd1 : List T) (r : T), Sums lf → Sums nd → build l pick at_ n lf nd = some (r, lf1, nd1) → r.length = 32 := by
  intro n at_ lf nd lf1 nd1 r sl sn hb
  by_cases h : has pick at_ n = true
  · by_cases h2 : 2 ≤ n
    · obtain ⟨a, b, lf2, nd2, e1, e2, e3, _⟩ := build_parts h h2 hb
      rw [e3]; exact node_len l hr _ _
    · rw [build_leaf l pick at_ n lf nd h h2] at hb
      match lf, hb, sl with
      | x :: rr, hb, sl =>
        rw [List.head?_cons, Option.map_some] at hb
        injection hb with hb
        injection hb with e3 hb
        rw [← e3]; exact sl x (by simp)
  · have h : has pick at_ n = false := by simpa using h
    rw [build_not l pick at_ n lf nd h] at hb
    match nd, hb, sn with
    | x :: rr, hb, sn =>
      rw [List.head?_cons, Option.map_some] at hb
      injection hb with hb
      injection hb with e3 hb
      rw [← e3]; exact sn x (by simp)
/-- Leaves that come to one root are one. -/
theorem build_inj (l : List Mill.En) (hr : Mill.right l = true) (S : List T) (pick : List Int) (hp : Rise pick) : ∀ (n at_ : Nat) (lf nd lg ne lf1 nd1 lg1 ne1 : List T) (r : T), 1 ≤ n → Sums lf → Sums nd → Sums lg → Sums ne →
    (∀ x, x ∈ buildAsks l pick at_ n lf nd → x ∈ S) → (∀ x, x ∈ buildAsks l pick at_ n lg ne → x ∈ S) →
    build l pick at_ n lf nd = some (r, lf1, nd1) → build l pick at_ n lg ne = some (r, lg1, ne1) → lf.take (cnt pick at_ n) = lg.take (cnt pick at_ n) ∨ Coll l S := by
  intro n
  induction n using Nat.strongRecOn with
  | ind n ih =>
    intro at_ lf nd lg ne lf1 nd1 lg1 ne1 r h1 sl sn tl tn qa qb ha hb
    by_cases h : has pick at_ n = true
    · by_cases h2 : 2 ≤ n
      · obtain ⟨a, b, lf2, nd2, e1, e2, e3, e4⟩ := build_parts h h2 ha
        obtain ⟨c, d, lg2, ne2, f1, f2, f3, f4⟩ := build_parts h h2 hb
        have hbl := below_lt h2
        have hpos := below_pos n
        rw [e4] at qa
        rw [f4] at qb
        rcases node_inj (build_len l hr pick _ _ _ _ _ _ _ sl sn e1) (build_len l hr pick _ _ _ _ _ _ _ tl tn f1) (qa _ (by simp)) (qb _ (by simp)) (e3.symm.trans f3) with ⟨g1, g2⟩ | hc
        · subst g1; subst g2
          have k1 := build_takes l pick hp _ _ _ _ _ _ _ hpos e1
          have k2 := build_takes l pick hp _ _ _ _ _ _ _ hpos f1
          rcases ih (below n) hbl at_ lf nd lg ne _ _ _ _ _ hpos sl sn tl tn (fun x hx => qa x (by simp [hx])) (fun x hx => qb x (by simp [hx])) e1 f1 with m1 | hc
          · obtain ⟨rfl, _, rfl, _⟩ := k1
            obtain ⟨rfl, _, rfl, _⟩ := k2
            rcases ih (n - below n) (by omega) (at_ + below n) _ _ _ _ _ _ _ _ _ (by omega) (sums_drop sl _) (sums_drop sn _) (sums_drop tl _) (sums_drop tn _) (fun x hx => qa x (by simp [hx])) (fun x hx => qb x (by simp [hx])) e2 f2 with m2 | hc
            · left
              have hc : cnt pick at_ n = cnt pick at_ (below n) + cnt pick (at_ + below n) (n - below n) := by
                unfold cnt
                rw [split at_ (below n) n (by omega) pick hp, List.length_append]
              rw [hc, List.take_add, List.take_add, m1, m2]
            · exact Or.inr hc
          · exact Or.inr hc
        · exact Or.inr hc
      · left
        have hn : n = 1 := by omega
        subst hn
        have hc : cnt pick at_ 1 = 1 := by unfold cnt; rw [one at_ pick hp h]; rfl
        rw [build_leaf l pick at_ 1 _ _ h h2] at ha hb
        match lf, ha, lg, hb with
        | x :: xs, ha, y :: ys, hb =>
          rw [List.head?_cons, Option.map_some] at ha hb
          injection ha with ha
          injection ha with e3 _
          injection hb with hb
          injection hb with e4 _
          rw [hc, e3, e4]
          rfl
    · left
      have h : has pick at_ n = false := by simpa using h
      have hc : cnt pick at_ n = 0 := by unfold cnt; rw [cnt_zero h]; rfl
      rw [hc]; rfl
/-- The leaves of the picked places of a part. -/
def sel (pick : List Int) (at_ : Nat) (L : List T) : List T := (pick.filter (inr at_ L.length)).map (fun p => L.getD (p - (at_ : Int)).toNat [])
theorem sel_split (pick : List Int) (hp : Rise pick) (at_ k : Nat) (L : List T) (hk : k ≤ L.length) : sel pick at_ L = sel pick at_ (L.take k) ++ sel pick (at_ + k) (L.drop k) := by
  unfold sel
  rw [split at_ k L.length hk pick hp, List.map_append, List.length_take, List.length_drop, Nat.min_eq_left hk]
  congr 1
  · apply List.map_congr_left
    intro p hpm
    have := (List.mem_filter.mp hpm).2
    rw [inr_iff] at this
    rw [List.getD_eq_getElem?_getD, List.getD_eq_getElem?_getD, List.getElem?_take, if_pos (by omega)]
  · apply List.map_congr_left
    intro p hpm
    have := (List.mem_filter.mp hpm).2
    rw [inr_iff] at this
    rw [List.getD_eq_getElem?_getD, List.getD_eq_getElem?_getD, List.getElem?_drop]
    congr 2
    omega
/-- What stands beside the picked leaves builds the root with them. -/
theorem build_beside (l : List Mill.En) (pick : List Int) (hp : Rise pick) : ∀ (n at_ : Nat) (L lf nd : List T), 1 ≤ n → L.length = n → build l pick at_ n (sel pick at_ L ++ lf) (beside l L at_ pick ++ nd) = some (root l L, lf, nd) := by
  intro n
  induction n using Nat.strongRecOn with
  | ind n ih =>
    intro at_ L lf nd h1 hn
    by_cases h : has pick at_ n = true
    · by_cases h2 : 2 ≤ n
      · have hbl := below_lt h2
        have hpos := below_pos n
        have e1 : beside l L at_ pick = beside l (L.take (below n)) at_ pick ++ beside l (L.drop (below n)) (at_ + below n) pick := by
          rw [beside, if_neg (by rw [hn]; simp [h]), dif_pos (by omega), hn]
        rw [build_more l pick at_ n _ _ h h2, e1, sel_split pick hp at_ (below n) L (by omega), List.append_assoc, List.append_assoc, ih (below n) hbl at_ (L.take (below n)) _ _ hpos (by rw [List.length_take]; omega)]
        rw [Option.bind_some]
        dsimp only
        rw [ih (n - below n) (by omega) (at_ + below n) (L.drop (below n)) _ _ (by omega) (by rw [List.length_drop]; omega), Option.bind_some, root_more l L (by omega), hn]
      · have h1n : n = 1 := by omega
        subst h1n
        match L, hn with
        | [a], _ =>
          have e1 : beside l [a] at_ pick = [] := by rw [beside, if_neg (by simp [h]), dif_neg (by simp)]
          have e2 : sel pick at_ [a] = [a] := by
            unfold sel
            rw [show ([a] : List T).length = 1 from rfl, one at_ pick hp h]
            simp
          rw [build_leaf l pick at_ 1 _ _ h h2, e1, e2, root_one]
          rfl
    · have h : has pick at_ n = false := by simpa using h
      have e1 : beside l L at_ pick = [root l L] := by rw [beside, if_pos (by rw [hn]; exact h)]
      have e2 : sel pick at_ L = [] := by unfold sel; rw [hn, cnt_zero h]; rfl
      rw [build_not l pick at_ n _ _ h, e1, e2]
      rfl
theorem beside_len (l : List Mill.En) (pick : List Int) : ∀ (n at_ : Nat) (L : List T), L.length = n → (beside l L at_ pick).length = siblings pick at_ n := by
  intro n
  induction n using Nat.strongRecOn with
  | ind n ih =>
    intro at_ L hn
    rw [beside, siblings, hn]
    by_cases h : has pick at_ n = false
    · rw [if_pos h, if_pos h]; rfl
    · rw [if_neg h, if_neg h]
      by_cases h2 : 2 ≤ n
      · have hbl := below_lt h2
        have hpos := below_pos n
        rw [dif_pos h2, dif_pos h2, List.length_append, ih (below n) hbl at_ _ (by rw [List.length_take]; omega), ih (n - below n) (by omega) _ _ (by rw [List.length_drop]; omega)]
      · rw [dif_neg h2, dif_neg h2]; rfl
end Sht
end Go.Proofs.YtgjknfphmmlcdaaDoor

namespace Go.Proofs.YtgjknfphmmlcdaaDoor
set_option linter.unusedVariables false

namespace Sht
open Mk
/-- What is left of a proof while a tree is built: leaves, roots, and whether there were too few. -/
structure Left where
  lf : List T
  nd : List T
  bad : Bool
/-- The root of a part, and what is left. -/
def run (l : List Mill.En) (pick : List Int) (at_ n : Nat) (s : Left) : T × Left :=
  if has pick at_ n = false then (match s.nd with | [] => ([], { s with bad := true }) | x :: r => (x, { s with nd := r }))
  else if h : 2 ≤ n then
    (node l (run l pick at_ (below n) s).1 (run l pick (at_ + below n) (n - below n) (run l pick at_ (below n) s).2).1, (run l pick (at_ + below n) (n - below n) (run l pick at_ (below n) s).2).2)
  else (match s.lf with | [] => ([], { s with bad := true }) | x :: r => (x, { s with lf := r }))
termination_by n
decreasing_by
  all_goals first
    | exact below_lt h
    | (have := below_pos n; omega)
theorem run_not (l : List Mill.En) (pick : List Int) (at_ n : Nat) (s : Left) (h : has pick at_ n = false) : run l pick at_ n s = (match s.nd with | [] => ([], { s with bad := true }) | x :: r => (x, { s with nd := r })) := by
  rw [run, if_pos h]
theorem run_leaf (l : List Mill.En) (pick : List Int) (at_ n : Nat) (s : Left) (h : has pick at_ n = true) (h2 : ¬ 2 ≤ n) : run l pick at_ n s = (match s.lf with | [] => ([], { s with bad := true }) | x :: r => (x, { s with lf := r })) := by
  rw [run, if_neg (by simp [h]), dif_neg h2]
theorem run_more (l : List Mill.En) (pick : List Int) (at_ n : Nat) (s : Left) (h : has pick at_ n = true) (h2 : 2 ≤ n) : run l pick at_ n s =
    (node l (run l pick at_ (below n) s).1 (run l pick (at_ + below n) (n - below n) (run l pick at_ (below n) s).2).1, (run l pick (at_ + below n) (n - below n) (run l pick at_ (below n) s).2).2) := by
  rw [run, if_neg (by simp [h]), dif_pos h2]
/-- What was too little stays so. -/
theorem run_bad (l : List Mill.En) (pick : List Int) : ∀ (n at_ : Nat) (s : Left), s.bad = true → (run l pick at_ n s).2.bad = true := by
  intro n
  induction n using Nat.strongRecOn with
  | ind n ih =>
    intro at_ s hs
    cases h : has pick at_ n with
    | false =>
      rw [run_not l pick at_ n s h]
      obtain ⟨lf, nd, bad⟩ := s
      cases nd with
      | nil => rfl
      | cons x r => exact hs
    | true =>
      by_cases h2 : 2 ≤ n
      · rw [run_more l pick at_ n s h h2]
        exact ih (n - below n) (by have := below_pos n; omega) _ _ (ih (below n) (below_lt h2) _ _ hs)
      · rw [run_leaf l pick at_ n s h h2]
        obtain ⟨lf, nd, bad⟩ := s
        cases lf with
        | nil => rfl
        | cons x r => exact hs
/-- Where there is enough, both tell one. -/
theorem run_some (l : List Mill.En) (pick : List Int) : ∀ (n at_ : Nat) (lf nd lf1 nd1 : List T) (r : T) (b : Bool), build l pick at_ n lf nd = some (r, lf1, nd1) → run l pick at_ n ⟨lf, nd, b⟩ = (r, ⟨lf1, nd1, b⟩) := by
  intro n
  induction n using Nat.strongRecOn with
  | ind n ih =>
    intro at_ lf nd lf1 nd1 r b hb
    cases h : has pick at_ n with
    | false =>
      rw [build_not l pick at_ n lf nd h] at hb
      rw [run_not l pick at_ n _ h]
      cases nd with
      | nil => cases hb
      | cons x q =>
        injection hb with hb
        injection hb with e1 hb
        injection hb with e2 e3
        subst e1; subst e2; subst e3
        rfl
    | true =>
      by_cases h2 : 2 ≤ n
      · obtain ⟨x, y, lf2, nd2, h1, h3, rfl, _⟩ := build_parts h h2 hb
        have k1 := ih (below n) (below_lt h2) at_ lf nd lf2 nd2 x b h1
        have k2 := ih (n - below n) (by have := below_pos n; omega) (at_ + below n) lf2 nd2 lf1 nd1 y b h3
        rw [run_more l pick at_ n _ h h2, k1, k2]
      · rw [build_leaf l pick at_ n lf nd h h2] at hb
        rw [run_leaf l pick at_ n _ h h2]
        cases lf with
        | nil => cases hb
        | cons x q =>
          injection hb with hb
          injection hb with e1 hb
          injection hb with e2 e3
          subst e1; subst e2; subst e3
          rfl
/-- Where there is too little, it is told. -/
theorem run_none (l : List Mill.En) (pick : List Int) : ∀ (n at_ : Nat) (lf nd : List T) (b : Bool), build l pick at_ n lf nd = none → (run l pick at_ n ⟨lf, nd, b⟩).2.bad = true := by
  intro n
  induction n using Nat.strongRecOn with
  | ind n ih =>
    intro at_ lf nd b hb
    cases h : has pick at_ n with
    | false =>
      rw [build_not l pick at_ n lf nd h] at hb
      rw [run_not l pick at_ n _ h]
      cases nd with
      | nil => rfl
      | cons x q => cases hb
    | true =>
      by_cases h2 : 2 ≤ n
      · rw [run_more l pick at_ n _ h h2]
        rw [build_more l pick at_ n lf nd h h2] at hb
        cases h1 : build l pick at_ (below n) lf nd with
        | none => exact run_bad l pick _ _ _ (ih (below n) (below_lt h2) at_ lf nd b h1)
        | some t =>
          obtain ⟨x, lf2, nd2⟩ := t
          rw [run_some l pick (below n) at_ lf nd lf2 nd2 x b h1]
          rw [h1] at hb
          cases h3 : build l pick (at_ + below n) (n - below n) lf2 nd2 with
          | none => exact ih (n - below n) (by have := below_pos n; omega) _ lf2 nd2 b h3
          | some u =>
            exfalso
            have hb' : ((build l pick (at_ + below n) (n - below n) lf2 nd2).bind fun u => some (node l x u.1, u.2.1, u.2.2)) = none := hb
            rw [h3] at hb'
            cases hb'
      · rw [build_leaf l pick at_ n lf nd h h2] at hb
        rw [run_leaf l pick at_ n _ h h2]
        cases lf with
        | nil => rfl
        | cons x q => cases hb

/-- Places rise, and lie below n. -/
def riseAt (p : List Int) (n : Int) (i : Nat) : Bool := decide (0 ≤ p.getD i 0) && decide (p.getD i 0 < n) && (decide (i = 0) || decide (p.getD (i - 1) 0 < p.getD i 0))
def riseTo (p : List Int) (n : Int) (k : Nat) : Bool := (List.range k).all (riseAt p n)
def rising (p : List Int) (n : Int) : Bool := riseTo p n p.length
theorem riseTo_zero (p : List Int) (n : Int) : riseTo p n 0 = true := rfl
theorem riseTo_succ (p : List Int) (n : Int) (k : Nat) : riseTo p n (k + 1) = (riseTo p n k && riseAt p n k) := by
  unfold riseTo
  rw [List.range_succ, List.all_append]
  simp
theorem riseTo_le {p : List Int} {n : Int} {k : Nat} (h : riseTo p n k = true) {i : Nat} (hi : i < k) : riseAt p n i = true := by
  unfold riseTo at h
  rw [List.all_eq_true] at h
  exact h i (List.mem_range.2 hi)
theorem rising_not {p : List Int} {n : Int} {i : Nat} (hi : i < p.length) (h : riseAt p n i = false) : rising p n = false := by
  cases hr : rising p n with
  | false => rfl
  | true => rw [riseTo_le hr hi] at h; cases h
theorem rising_pos {p : List Int} {n : Int} (h : rising p n = true) : (∀ x ∈ p, 0 ≤ x ∧ x < n) ∧ Rise p := by
  have hat : ∀ i (hi : i < p.length), 0 ≤ p[i] ∧ p[i] < n ∧ (i = 0 ∨ p.getD (i - 1) 0 < p[i]) := fun i hi => by
    have := riseTo_le h hi
    unfold riseAt at this
    rw [Bool.and_eq_true, Bool.and_eq_true, Bool.or_eq_true, decide_eq_true_eq, decide_eq_true_eq, decide_eq_true_eq, decide_eq_true_eq] at this
    have hg : p.getD i 0 = p[i] := by simp [List.getD, hi]
    rw [hg] at this
    exact ⟨this.1.1, this.1.2, this.2⟩
  refine ⟨fun x hx => ?_, ?_⟩
  · obtain ⟨i, hi, rfl⟩ := List.getElem_of_mem hx
    exact ⟨(hat i hi).1, (hat i hi).2.1⟩
  · unfold Rise
    rw [List.pairwise_iff_getElem]
    have step : ∀ d i (hj : i + d + 1 < p.length), p[i]'(by omega) < p[i + d + 1]'hj := by
      intro d
      induction d with
      | zero =>
        intro i hj
        rcases (hat (i + 1) (by omega)).2.2 with h0 | h0
        · omega
        · have hg : p.getD (i + 1 - 1) 0 = p[i]'(by omega) := by simp [List.getD, show i < p.length from by omega]
          rw [hg] at h0
          exact h0
      | succ d ih =>
        intro i hj
        have h1 := ih i (by omega)
        rcases (hat (i + (d + 1) + 1) hj).2.2 with h0 | h0
        · omega
        · have hg : p.getD (i + (d + 1) + 1 - 1) 0 = p[i + d + 1]'(by omega) := by simp [List.getD, show i + (d + 1) < p.length from by omega, Nat.add_assoc]
          rw [hg] at h0
          exact Int.lt_trans h1 h0
    intro i j hi hj hij
    obtain ⟨d, rfl⟩ := Nat.exists_eq_add_of_lt hij
    exact step d i hj
end Sht
end Go.Proofs.YtgjknfphmmlcdaaDoor

namespace Go.Proofs.YtgjknfphmmlcdaaDoor
set_option linter.unusedVariables false

namespace Sht
open Mk
/-- The parts of a tree without a picked place, from left to right: where each begins, how many leaves it has. -/
def parts (pick : List Int) (at_ n : Nat) : List (Nat × Nat) :=
  if has pick at_ n = false then [(at_, n)]
  else if h : 2 ≤ n then parts pick at_ (below n) ++ parts pick (at_ + below n) (n - below n)
  else []
termination_by n
decreasing_by
  · exact below_lt h
  · have := below_pos n; omega
theorem parts_not {pick : List Int} {at_ n : Nat} (h : has pick at_ n = false) : parts pick at_ n = [(at_, n)] := by rw [parts, if_pos h]
theorem parts_leaf {pick : List Int} {at_ n : Nat} (h : has pick at_ n = true) (h2 : ¬ 2 ≤ n) : parts pick at_ n = [] := by rw [parts, if_neg (by simp [h]), dif_neg h2]
theorem parts_more {pick : List Int} {at_ n : Nat} (h : has pick at_ n = true) (h2 : 2 ≤ n) : parts pick at_ n = parts pick at_ (below n) ++ parts pick (at_ + below n) (n - below n) := by rw [parts, if_neg (by simp [h]), dif_pos h2]
theorem parts_len (pick : List Int) : ∀ (n at_ : Nat), (parts pick at_ n).length = siblings pick at_ n := by
  intro n
  induction n using Nat.strongRecOn with
  | ind n ih =>
    intro at_
    rw [parts, siblings]
    by_cases h : has pick at_ n = false
    · rw [if_pos h, if_pos h]; rfl
    · rw [if_neg h, if_neg h]
      by_cases h2 : 2 ≤ n
      · have hbl := below_lt h2
        have hpos := below_pos n
        rw [dif_pos h2, dif_pos h2, List.length_append, ih (below n) hbl, ih (n - below n) (by omega)]
      · rw [dif_neg h2, dif_neg h2]; rfl
theorem parts_in (pick : List Int) : ∀ (n at_ : Nat), 1 ≤ n → ∀ p ∈ parts pick at_ n, at_ ≤ p.1 ∧ p.1 + p.2 ≤ at_ + n ∧ 1 ≤ p.2 := by
  intro n
  induction n using Nat.strongRecOn with
  | ind n ih =>
    intro at_ h1 p hp
    rw [parts] at hp
    by_cases h : has pick at_ n = false
    · rw [if_pos h, List.mem_singleton] at hp
      subst hp
      exact ⟨Nat.le_refl _, Nat.le_refl _, h1⟩
    · rw [if_neg h] at hp
      by_cases h2 : 2 ≤ n
      · have hbl := below_lt h2
        have hpos := below_pos n
        rw [dif_pos h2] at hp
        rcases List.mem_append.1 hp with hp | hp
        · have := ih (below n) hbl at_ hpos p hp
          omega
        · have := ih (n - below n) (by omega) (at_ + below n) (by omega) p hp
          omega
      · rw [dif_neg h2] at hp; cases hp
/-- How many parts there are, at most. -/
theorem parts_le (pick : List Int) : ∀ (n at_ : Nat), 1 ≤ n → (parts pick at_ n).length ≤ n := by
  intro n
  induction n using Nat.strongRecOn with
  | ind n ih =>
    intro at_ h1
    rw [parts]
    by_cases h : has pick at_ n = false
    · rw [if_pos h]; exact h1
    · rw [if_neg h]
      by_cases h2 : 2 ≤ n
      · have hbl := below_lt h2
        have hpos := below_pos n
        rw [dif_pos h2, List.length_append]
        have := ih (below n) hbl at_ hpos
        have := ih (n - below n) (by omega) (at_ + below n) (by omega)
        omega
      · rw [dif_neg h2]; exact Nat.zero_le _
/-- What stands beside is these parts' roots. -/
theorem beside_parts (l : List Mill.En) (pick : List Int) (F : List T) : ∀ (n at_ : Nat), at_ + n ≤ F.length → beside l ((F.drop at_).take n) at_ pick = (parts pick at_ n).map fun p => root l ((F.drop p.1).take p.2) := by
  intro n
  induction n using Nat.strongRecOn with
  | ind n ih =>
    intro at_ hn
    have hl : ((F.drop at_).take n).length = n := by rw [List.length_take, List.length_drop]; omega
    rw [beside, parts, hl]
    by_cases h : has pick at_ n = false
    · rw [if_pos h, if_pos h]; rfl
    · rw [if_neg h, if_neg h]
      by_cases h2 : 2 ≤ n
      · have hbl := below_lt h2
        have hpos := below_pos n
        have e1 : ((F.drop at_).take n).take (below n) = (F.drop at_).take (below n) := by rw [List.take_take, Nat.min_eq_left (by omega)]
        have e2 : ((F.drop at_).take n).drop (below n) = (F.drop (at_ + below n)).take (n - below n) := by rw [List.drop_take, List.drop_drop]
        rw [dif_pos h2, dif_pos h2, e1, e2, ih (below n) hbl at_ (by omega), ih (n - below n) (by omega) (at_ + below n) (by omega), List.map_append]
      · rw [dif_neg h2, dif_neg h2]; rfl
theorem beside_all (l : List Mill.En) (pick : List Int) (F : List T) : beside l F 0 pick = (parts pick 0 F.length).map fun p => root l ((F.drop p.1).take p.2) := by
  have h := beside_parts l pick F F.length 0 (by omega)
  rwa [List.drop_zero, List.take_length] at h

/-- Places that rise lie all in the whole. -/
theorem all_in {pick : List Int} {n : Nat} (h : ∀ x ∈ pick, 0 ≤ x ∧ x < (n : Int)) : pick.filter (inr 0 n) = pick := by
  apply List.filter_eq_self.2
  intro x hx
  rw [inr_iff]
  have := h x hx
  omega
theorem rising_in {pick : List Int} {n : Nat} (h : rising pick (n : Int) = true) : pick.filter (inr 0 n) = pick := all_in (rising_pos h).1
theorem rising_cnt {pick : List Int} {n : Nat} (h : rising pick (n : Int) = true) : cnt pick 0 n = pick.length := by unfold cnt; rw [rising_in h]
theorem has_iff {pick : List Int} {at_ n : Nat} : has pick at_ n = false ↔ (pick.filter (inr at_ n)).length = 0 := by
  constructor
  · intro h; rw [cnt_zero h]; rfl
  · intro h
    cases hh : has pick at_ n with
    | false => rfl
    | true => exact absurd (List.eq_nil_of_length_eq_zero h) (has_of hh)
/-- Where what is smaller ends. -/
theorem end_of {A B : List Int} {x : Int} {i : Nat} (ha : ∀ y ∈ A, y < x) (hb : ∀ y ∈ B, x ≤ y) (hi : i ≤ (A ++ B).length) (h1 : ∀ j (h : j < (A ++ B).length), j < i → (A ++ B)[j] < x) (h2 : ∀ j (h : j < (A ++ B).length), i ≤ j → x ≤ (A ++ B)[j]) : i = A.length := by
  rcases Nat.lt_trichotomy i A.length with h | h | h
  · exfalso
    have hl : i < (A ++ B).length := by rw [List.length_append]; omega
    have := h2 i hl (Nat.le_refl _)
    rw [List.getElem_append_left h] at this
    have := ha _ (List.getElem_mem h)
    omega
  · exact h
  · exfalso
    have hl : A.length < (A ++ B).length := by omega
    have := h1 A.length hl h
    rw [List.getElem_append_right (Nat.le_refl _)] at this
    have := hb _ (List.getElem_mem (by rw [List.length_append] at hl; omega : A.length - A.length < B.length))
    omega
theorem filt_lt (pick : List Int) (at_ k : Nat) : ∀ y ∈ pick.filter (inr at_ k), y < ((at_ + k : Nat) : Int) := fun y hy => by
  have := (List.mem_filter.1 hy).2
  rw [inr_iff] at this
  omega
theorem filt_ge (pick : List Int) (at_ k : Nat) : ∀ y ∈ pick.filter (inr at_ k), (at_ : Int) ≤ y := fun y hy => by
  have := (List.mem_filter.1 hy).2
  rw [inr_iff] at this
  omega
theorem filt_rise {pick : List Int} (h : Rise pick) (at_ k : Nat) : Rise (pick.filter (inr at_ k)) := List.Pairwise.filter _ h
theorem cnt_le (pick : List Int) (hp : Rise pick) : ∀ (n at_ : Nat), 1 ≤ n → cnt pick at_ n ≤ n := by
  intro n
  induction n using Nat.strongRecOn with
  | ind n ih =>
    intro at_ h1
    by_cases h2 : 2 ≤ n
    · have hbl := below_lt h2
      have hpos := below_pos n
      have h3 := ih (below n) hbl at_ hpos
      have h4 := ih (n - below n) (by omega) (at_ + below n) (by omega)
      unfold cnt at *
      rw [split at_ (below n) n (by omega) pick hp, List.length_append]
      omega
    · have hn : n = 1 := by omega
      subst hn
      cases h : has pick at_ 1 with
      | false => unfold cnt; rw [cnt_zero h]; exact Nat.zero_le _
      | true => unfold cnt; rw [one at_ pick hp h]; exact Nat.le_refl _

/-- A place behind the last one. -/
def lastOf (p : List Int) (k : Nat) : Int := if k = 0 then -1 else p.getD (k - 1) 0
theorem lastOf_zero (p : List Int) : lastOf p 0 = -1 := rfl
theorem lastOf_succ (p : List Int) (k : Nat) (hk : k < p.length) : lastOf p (k + 1) = p[k] := by
  unfold lastOf
  rw [if_neg (by omega), Nat.add_sub_cancel, List.getD_eq_getElem?_getD, List.getElem?_eq_getElem hk]
  rfl
theorem last_ge (p : List Int) (n : Int) (k : Nat) (h : riseTo p n k = true) : -1 ≤ lastOf p k := by
  unfold lastOf
  split
  · omega
  · have := riseTo_le h (i := k - 1) (by omega)
    unfold riseAt at this
    rw [Bool.and_eq_true, Bool.and_eq_true, decide_eq_true_eq] at this
    omega
theorem rise_step {p : List Int} {n : Int} {k : Nat} (hk : k < p.length) (h : riseTo p n k = true) (h1 : lastOf p k < p[k]) (h2 : p[k] < n) : riseTo p n (k + 1) = true := by
  have hg : p.getD k 0 = p[k] := by rw [List.getD_eq_getElem?_getD, List.getElem?_eq_getElem hk]; rfl
  have hl := last_ge p n k h
  rw [riseTo_succ, h, Bool.true_and]
  unfold riseAt
  rw [hg, Bool.and_eq_true, Bool.and_eq_true, Bool.or_eq_true, decide_eq_true_eq, decide_eq_true_eq, decide_eq_true_eq, decide_eq_true_eq]
  refine ⟨⟨by omega, h2⟩, ?_⟩
  by_cases h0 : k = 0
  · exact Or.inl h0
  · right
    unfold lastOf at h1
    rwa [if_neg h0] at h1
theorem rise_stop {p : List Int} {n : Int} {k : Nat} (hk : k < p.length) (h : p[k] ≤ lastOf p k ∨ n ≤ p[k]) : rising p n = false := by
  have hg : p.getD k 0 = p[k] := by rw [List.getD_eq_getElem?_getD, List.getElem?_eq_getElem hk]; rfl
  apply rising_not hk
  unfold riseAt
  rw [hg]
  unfold lastOf at h
  rw [Bool.and_eq_false_iff, Bool.and_eq_false_iff, Bool.or_eq_false_iff, decide_eq_false_iff_not, decide_eq_false_iff_not, decide_eq_false_iff_not, decide_eq_false_iff_not]
  by_cases h0 : k = 0
  · rw [if_pos h0] at h; omega
  · rw [if_neg h0] at h; omega
theorem rise_end {p : List Int} {n : Int} (h : riseTo p n p.length = true) : rising p n = true := h
theorem lastOf_pos (p : List Int) (k : Nat) (h0 : 0 < k) (hk : k ≤ p.length) : lastOf p k = p[k - 1]'(by omega) := by
  obtain ⟨j, rfl⟩ : ∃ j, k = j + 1 := ⟨k - 1, by omega⟩
  exact lastOf_succ p j (by omega)
end Sht
end Go.Proofs.YtgjknfphmmlcdaaDoor
