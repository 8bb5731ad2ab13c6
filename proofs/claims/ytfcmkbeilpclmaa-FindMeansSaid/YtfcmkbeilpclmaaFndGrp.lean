/-
  Counts of values, least and greatest, plain. No program stands here.
-/
import Derived.Test.YtfcmkbeilpclmaaFndSpec
namespace Go.Proofs.Ytfcmkbeilpclmaa
set_option linter.unusedVariables false
namespace Fnd

/-- The values that a field has. -/
def vals (n : List UInt8) (L : List (List Fld)) : List Val := L.filterMap fun P => field P n
theorem vals_snoc (n : List UInt8) (L : List (List Fld)) (P : List Fld) : vals n (L ++ [P]) = vals n L ++ (field P n).toList := by
  unfold vals
  rw [List.filterMap_append]
  cases h : field P n <;> simp [h]
/-- Each of distinct values as often as it is there: together all, if all that are there are among them. -/
theorem sum_one {v : Val} : ∀ {G : List Val}, G.Nodup → v ∈ G → (G.map fun g => if v = g then 1 else 0).sum = 1 := by
  intro G
  induction G with
  | nil => intro _ h; cases h
  | cons g G ih =>
    intro hn hv
    obtain ⟨h1, h2⟩ := List.nodup_cons.1 hn
    rw [List.map_cons, List.sum_cons]
    rcases List.mem_cons.1 hv with rfl | hv
    · rw [if_pos rfl]
      have hz : ∀ (M : List Val), v ∉ M → (M.map fun g => if v = g then 1 else 0).sum = 0 := by
        intro M
        induction M with
        | nil => intro _; rfl
        | cons m M ihm =>
          intro hM
          rw [List.map_cons, List.sum_cons, if_neg (fun e => hM (by rw [e]; exact List.mem_cons_self ..)), ihm (fun e => hM (List.mem_cons_of_mem _ e))]
      rw [hz G h1]
    · rw [if_neg (fun (e : v = g) => h1 (by rw [← e]; exact hv)), ih h2 hv]
theorem sum_counts {G : List Val} (hn : G.Nodup) : ∀ (l : List Val), (∀ v ∈ l, v ∈ G) → (G.map fun g => l.count g).sum = l.length := by
  intro l
  induction l with
  | nil =>
    intro _
    have : ∀ (M : List Val), (M.map fun g => ([] : List Val).count g).sum = 0 := by
      intro M
      induction M with
      | nil => rfl
      | cons m M ih => rw [List.map_cons, List.sum_cons, ih]; rfl
    exact this G
  | cons v l ih =>
    intro hl
    have hadd : ∀ (M : List Val), (M.map fun g => (v :: l).count g).sum = (M.map fun g => l.count g).sum + (M.map fun g => if v = g then 1 else 0).sum := by
      intro M
      induction M with
      | nil => rfl
      | cons m M ihm =>
        rw [List.map_cons, List.sum_cons, List.map_cons, List.sum_cons, List.map_cons, List.sum_cons, ihm, List.count_cons]
        by_cases e : v = m
        · subst e; simp; omega
        · rw [if_neg e]; simp [e]; omega
    rw [hadd G, ih (fun w hw => hl w (List.mem_cons_of_mem _ hw)), sum_one hn (hl v (List.mem_cons_self ..))]
    rfl
/-- What groups of values are: rising, each with its count, none left out. -/
structure Grouped (l : List Val) (G : List (Val × Nat)) : Prop where
  rise : G.Pairwise (fun a b => Val.cmp a.1 b.1 < 0)
  count : ∀ g ∈ G, g.2 = l.count g.1 ∧ g.2 ≠ 0
  every : ∀ v ∈ l, ∃ g ∈ G, g.1 = v
theorem cmp_self (a : Val) : Val.cmp a a = 0 := by
  have := cmp_anti a a
  omega
theorem Grouped.sum {l : List Val} {G : List (Val × Nat)} (h : Grouped l G) : (G.map Prod.snd).sum = l.length := by
  have hn : (G.map Prod.fst).Nodup := by
    rw [List.nodup_iff_pairwise_ne, List.pairwise_map]
    exact h.rise.imp (fun {a b} hab e => by rw [e, cmp_self] at hab; omega)
  have h1 := sum_counts hn l (fun v hv => by
    obtain ⟨g, hg, e⟩ := h.every v hv
    rw [← e]
    exact List.mem_map_of_mem hg)
  rw [← h1, List.map_map]
  congr 1
  exact List.map_congr_left (fun g hg => (h.count g hg).1)
/-- The least that is met, by an order that tells apart. -/
def best {α : Type} (lt : α → α → Bool) (a : Option α) (x : α) : Option α :=
  match a with
  | none => some x
  | some y => if lt x y = true then some x else some y
def bests {α : Type} (lt : α → α → Bool) (l : List α) : Option α := l.foldl (best lt) none
theorem bests_snoc {α : Type} (lt : α → α → Bool) (l : List α) (x : α) : bests lt (l ++ [x]) = best lt (bests lt l) x := by unfold bests; rw [List.foldl_append]; rfl
theorem bests_nil {α : Type} (lt : α → α → Bool) : bests lt [] = none := rfl
/-- It is one of them, and none is ahead of it. -/
theorem bests_is {α : Type} {lt : α → α → Bool} (ht : ∀ a b c, lt b a = false → lt c b = false → lt c a = false) (ha : ∀ a b, lt a b = true → lt b a = false) :
    ∀ (r : List α), (bests lt r.reverse = none ↔ r = []) ∧ ∀ y, bests lt r.reverse = some y → y ∈ r ∧ ∀ x ∈ r, lt x y = false := by
  intro r
  induction r with
  | nil => exact ⟨by simp [bests_nil], fun y h => by rw [List.reverse_nil, bests_nil] at h; cases h⟩
  | cons x r ih =>
    rw [List.reverse_cons, bests_snoc]
    obtain ⟨h1, h2⟩ := ih
    have hself : ∀ a, lt a a = false := fun a => by
      cases h : lt a a with
      | false => rfl
      | true => have := ha a a h; rw [h] at this; cases this
    cases hb : bests lt r.reverse with
    | none =>
      have := h1.1 hb
      subst this
      refine ⟨by simp [best], fun y hy => ?_⟩
      injection hy with hy
      subst hy
      exact ⟨List.mem_cons_self .., fun z hz => by
        rcases List.mem_cons.1 hz with rfl | hz
        · exact hself _
        · cases hz⟩
    | some y =>
      obtain ⟨g1, g2⟩ := h2 y hb
      unfold best
      dsimp only
      by_cases hxy : lt x y = true
      · rw [if_pos hxy]
        refine ⟨by simp, fun z hz => ?_⟩
        injection hz with hz
        subst hz
        refine ⟨List.mem_cons_self .., fun w hw => ?_⟩
        rcases List.mem_cons.1 hw with rfl | hw
        · exact hself _
        · exact ht x y w (ha x y hxy) (g2 w hw)
      · rw [if_neg hxy]
        refine ⟨by simp, fun z hz => ?_⟩
        injection hz with hz
        subst hz
        refine ⟨List.mem_cons_of_mem _ g1, fun w hw => ?_⟩
        rcases List.mem_cons.1 hw with rfl | hw
        · exact Bool.eq_false_iff.2 hxy
        · exact g2 w hw
end Fnd
end Go.Proofs.Ytfcmkbeilpclmaa
