/-
  Merkle trees, purely: what is proved is believed; who is believed twice has two unlike texts of one sum. No program stands here.
-/
import Derived.Test.YtphhaiccpllnpaaDoorMkSpec
namespace Go.Proofs.YtphhaiccpllnpaaDoor
set_option linter.unusedVariables false

namespace Mk
/-- All are 32 bytes. -/
def Sums (L : List T) : Prop := ∀ x, x ∈ L → x.length = 32
theorem sums_take {L : List T} (h : Sums L) (k : Nat) : Sums (L.take k) := fun x hx => h x (List.mem_of_mem_take hx)
theorem sums_drop {L : List T} (h : Sums L) (k : Nat) : Sums (L.drop k) := fun x hx => h x (List.mem_of_mem_drop hx)
theorem sums_snoc {L : List T} {x : T} (h : Sums (L ++ [x])) : Sums L ∧ x.length = 32 := ⟨fun y hy => h y (List.mem_append_left _ hy), h x (by simp)⟩
theorem node_len (l : List Mill.En) (hr : Mill.right l = true) (a b : T) : (node l a b).length = 32 := Mill.hash_len l hr _
theorem root_len (l : List Mill.En) (hr : Mill.right l = true) (L : List T) (h : Sums L) : (root l L).length = 32 := by
  by_cases h2 : 2 ≤ L.length
  · rw [root_more l L h2]; exact node_len l hr _ _
  · match L, h2 with
    | [], _ => rw [root_nil]; exact Mill.hash_len l hr _
    | [a], _ => rw [root_one]; exact h a (by simp)
    | _ :: _ :: _, h2 => exact absurd (by simp) h2
theorem path_len (l : List Mill.En) : ∀ (n : Nat) (L : List T) (i : Nat), L.length = n → (path l L i).length = depth i n := by
  intro n
  induction n using Nat.strongRecOn with
  | ind n ih =>
    intro L i hn
    by_cases h2 : 2 ≤ n
    · have hb := below_lt h2
      have hp := below_pos n
      by_cases hi : i < below n
      · rw [path_left l L i (by omega) (by rw [hn]; exact hi), depth_left h2 hi, List.length_append, hn, ih (below n) hb _ i (by rw [List.length_take]; omega)]
        rfl
      · rw [path_right l L i (by omega) (by rw [hn]; exact hi), depth_right h2 hi, List.length_append, hn, ih (n - below n) (by omega) _ (i - below n) (by rw [List.length_drop]; omega)]
        rfl
    · rw [path_none l L i (by omega), depth_none h2]; rfl
theorem path_sums (l : List Mill.En) (hr : Mill.right l = true) : ∀ (n : Nat) (L : List T) (i : Nat), L.length = n → Sums L → Sums (path l L i) := by
  intro n
  induction n using Nat.strongRecOn with
  | ind n ih =>
    intro L i hn hs
    by_cases h2 : 2 ≤ n
    · have hb := below_lt h2
      have hp := below_pos n
      by_cases hi : i < below n
      · rw [path_left l L i (by omega) (by rw [hn]; exact hi), hn]
        intro x hx
        rcases List.mem_append.mp hx with hx | hx
        · exact ih (below n) hb _ i (by rw [List.length_take]; omega) (sums_take hs _) x hx
        · rw [List.mem_singleton.mp hx]; exact root_len l hr _ (sums_drop hs _)
      · rw [path_right l L i (by omega) (by rw [hn]; exact hi), hn]
        intro x hx
        rcases List.mem_append.mp hx with hx | hx
        · exact ih (n - below n) (by omega) _ (i - below n) (by rw [List.length_drop]; omega) (sums_drop hs _) x hx
        · rw [List.mem_singleton.mp hx]; exact root_len l hr _ (sums_take hs _)
    · rw [path_none l L i (by omega)]; intro x hx; cases hx
/-- A leaf's path leads to the root. -/
theorem climb_path (l : List Mill.En) : ∀ (n : Nat) (L : List T) (i : Nat) (x : T), L.length = n → L[i]? = some x → climb l x i n (path l L i) = root l L := by
  intro n
  induction n using Nat.strongRecOn with
  | ind n ih =>
    intro L i x hn hx
    have hi : i < n := by
      rcases Nat.lt_or_ge i L.length with h | h
      · omega
      · rw [List.getElem?_eq_none h] at hx; cases hx
    by_cases h2 : 2 ≤ n
    · have hb := below_lt h2
      have hp := below_pos n
      by_cases hk : i < below n
      · have h := ih (below n) hb (L.take (below n)) i x (by rw [List.length_take]; omega) (by rw [List.getElem?_take, if_pos hk]; exact hx)
        rw [path_left l L i (by omega) (by rw [hn]; exact hk), hn, climb_left l _ i n _ _ h2 hk, h, root_more l L (by omega), hn]
      · have h := ih (n - below n) (by omega) (L.drop (below n)) (i - below n) x (by rw [List.length_drop]; omega) (by rw [List.getElem?_drop]; rw [show below n + (i - below n) = i from by omega]; exact hx)
        rw [path_right l L i (by omega) (by rw [hn]; exact hk), hn, climb_right l _ i n _ _ h2 hk, h, root_more l L (by omega), hn]
    · have h1 : n = 1 := by omega
      rw [climb_end l _ _ _ _ (Or.inl h1)]
      have h0 : i = 0 := by omega
      match L, (hn.trans h1) with
      | [a], _ =>
        rw [h0] at hx
        injection hx with hx
        rw [root_one, hx]
theorem take_take_le (L : List T) {a k : Nat} (h : a ≤ k) : (L.take k).take a = L.take a := by rw [List.take_take, Nat.min_eq_left h]
/-- A growth proof leads to both roots. -/
theorem both_prf (l : List Mill.En) : ∀ (n : Nat) (L : List T) (a : Nat) (w : Bool) (old : T), L.length = n → 1 ≤ a → a ≤ n → (w = true → old = root l (L.take a)) →
    both l a n w old (prf l L a w) = (root l (L.take a), root l L) := by
  intro n
  induction n using Nat.strongRecOn with
  | ind n ih =>
    intro L a w old hn h1 ha hold
    by_cases he : a = n
    · rw [prf_all l L a w (by omega)]
      have ht : L.take a = L := List.take_of_length_le (by omega)
      cases w with
      | true =>
        rw [if_pos rfl, both_old l a n true old _ (Or.inl ⟨he, rfl⟩), hold rfl, ht]
      | false =>
        rw [if_neg (by simp), he]
        have := both_last l n old (root l L) []
        rw [List.nil_append] at this
        rw [this, ← he, ht]
    · have h2 : 2 ≤ n := by omega
      have hb := below_lt h2
      have hp := below_pos n
      by_cases hk : a ≤ below n
      · have h := ih (below n) hb (L.take (below n)) a w old (by rw [List.length_take]; omega) h1 hk (by rw [take_take_le L hk]; exact hold)
        rw [take_take_le L hk] at h
        rw [prf_left l L a w (by omega) (by omega) (by rw [hn]; exact hk), hn, both_left l a n w old _ _ he h2 hk, h, root_more l L (by omega), hn]
      · have h := ih (n - below n) (by omega) (L.drop (below n)) (a - below n) false [] (by rw [List.length_drop]; omega) (by omega) (by omega) (by simp)
        have hlen : (L.take a).length = a := by rw [List.length_take]; omega
        have hba : below a = below n := below_two h2 (by omega) (by omega)
        rw [prf_right l L a w (by omega) (by omega) (by rw [hn]; exact hk), hn, both_right l a n w old _ _ he h2 hk, h, root_more l L (by omega), hn, root_more l (L.take a) (by omega), hlen, hba, take_take_le L (by omega), List.drop_take]
theorem prf_len (l : List Mill.En) : ∀ (n : Nat) (L : List T) (a : Nat) (w : Bool), L.length = n → 1 ≤ a → a ≤ n → (prf l L a w).length = long a n w := by
  intro n
  induction n using Nat.strongRecOn with
  | ind n ih =>
    intro L a w hn h1 ha
    by_cases he : a = n
    · rw [prf_all l L a w (by omega), long_all w he]
      cases w <;> rfl
    · have h2 : 2 ≤ n := by omega
      have hb := below_lt h2
      have hp := below_pos n
      by_cases hk : a ≤ below n
      · rw [prf_left l L a w (by omega) (by omega) (by rw [hn]; exact hk), long_left w he h2 hk, List.length_append, hn, ih (below n) hb _ a w (by rw [List.length_take]; omega) h1 hk]
        rfl
      · rw [prf_right l L a w (by omega) (by omega) (by rw [hn]; exact hk), long_right w he h2 hk, List.length_append, hn, ih (n - below n) (by omega) _ (a - below n) false (by rw [List.length_drop]; omega) (by omega) (by omega)]
        rfl
theorem prf_sums (l : List Mill.En) (hr : Mill.right l = true) : ∀ (n : Nat) (L : List T) (a : Nat) (w : Bool), L.length = n → Sums L → Sums (prf l L a w) := by
  intro n
  induction n using Nat.strongRecOn with
  | ind n ih =>
    intro L a w hn hs
    by_cases he : a = n
    · rw [prf_all l L a w (by omega)]
      intro x hx
      cases w with
      | true => cases hx
      | false => rw [if_neg (by simp)] at hx; rw [List.mem_singleton.mp hx]; exact root_len l hr _ hs
    · by_cases h2 : 2 ≤ n
      · have hb := below_lt h2
        have hp := below_pos n
        by_cases hk : a ≤ below n
        · rw [prf_left l L a w (by omega) (by omega) (by rw [hn]; exact hk), hn]
          intro x hx
          rcases List.mem_append.mp hx with hx | hx
          · exact ih (below n) hb _ a w (by rw [List.length_take]; omega) (sums_take hs _) x hx
          · rw [List.mem_singleton.mp hx]; exact root_len l hr _ (sums_drop hs _)
        · rw [prf_right l L a w (by omega) (by omega) (by rw [hn]; exact hk), hn]
          intro x hx
          rcases List.mem_append.mp hx with hx | hx
          · exact ih (n - below n) (by omega) _ (a - below n) false (by rw [List.length_drop]; omega) (sums_drop hs _) x hx
          · rw [List.mem_singleton.mp hx]; exact root_len l hr _ (sums_take hs _)
      · rw [prf, if_neg (by omega), dif_neg (by omega)]; intro x hx; cases hx

/-- Two unlike ones of these texts have one sum. -/
def Coll (l : List Mill.En) (S : List T) : Prop := ∃ s t, s ∈ S ∧ t ∈ S ∧ s ≠ t ∧ Mill.hash l s = Mill.hash l t
theorem Coll.sub {l : List Mill.En} {S S' : List T} (h : Coll l S) (hs : ∀ x, x ∈ S → x ∈ S') : Coll l S' := by
  obtain ⟨s, t, h1, h2, h3, h4⟩ := h
  exact ⟨s, t, hs s h1, hs t h2, h3, h4⟩
theorem node_inj {l : List Mill.En} {a b c d : T} {S : List T} (ha : a.length = 32) (hc : c.length = 32) (h1 : (1 :: a) ++ b ∈ S) (h2 : (1 :: c) ++ d ∈ S) (h : node l a b = node l c d) : (a = c ∧ b = d) ∨ Coll l S := by
  by_cases e : (1 :: a) ++ b = (1 :: c) ++ d
  · left
    rw [List.cons_append, List.cons_append] at e
    injection e with _ e
    exact List.append_inj e (by rw [ha, hc])
  · exact Or.inr ⟨_, _, h1, h2, e, h⟩
/-- Roots of as many leaves are one where the leaves are. -/
theorem root_inj (l : List Mill.En) (hr : Mill.right l = true) (S : List T) : ∀ (n : Nat) (A B : List T), A.length = n → B.length = n → Sums A → Sums B → (∀ x, x ∈ rootAsks l A → x ∈ S) → (∀ x, x ∈ rootAsks l B → x ∈ S) → root l A = root l B → A = B ∨ Coll l S := by
  intro n
  induction n using Nat.strongRecOn with
  | ind n ih =>
    intro A B hA hB sA sB qA qB h
    by_cases h2 : 2 ≤ n
    · have hb := below_lt h2
      have hp := below_pos n
      rw [rootAsks_more l A (by omega), hA] at qA
      rw [rootAsks_more l B (by omega), hB] at qB
      rw [root_more l A (by omega), root_more l B (by omega), hA, hB] at h
      rcases node_inj (root_len l hr _ (sums_take sA _)) (root_len l hr _ (sums_take sB _)) (qA _ (by simp)) (qB _ (by simp)) h with ⟨e1, e2⟩ | hc
      · rcases ih (below n) hb (A.take (below n)) (B.take (below n)) (by rw [List.length_take]; omega) (by rw [List.length_take]; omega) (sums_take sA _) (sums_take sB _) (fun x hx => qA x (by simp [hx])) (fun x hx => qB x (by simp [hx])) e1 with e1 | hc
        · rcases ih (n - below n) (by omega) (A.drop (below n)) (B.drop (below n)) (by rw [List.length_drop]; omega) (by rw [List.length_drop]; omega) (sums_drop sA _) (sums_drop sB _) (fun x hx => qA x (by simp [hx])) (fun x hx => qB x (by simp [hx])) e2 with e2 | hc
          · left
            rw [← List.take_append_drop (below n) A, ← List.take_append_drop (below n) B, e1, e2]
          · exact Or.inr hc
        · exact Or.inr hc
      · exact Or.inr hc
    · left
      match A, B, hA, hB with
      | [], [], _, _ => rfl
      | [a], [b], _, _ => rw [root_one, root_one] at h; rw [h]
      | [], _ :: _, hA, hB => simp at hA hB; omega
      | _ :: _, [], hA, hB => simp at hA hB; omega
      | _ :: _ :: _, _, hA, _ => simp at hA; omega
      | _, _ :: _ :: _, _, hB => simp at hB; omega
theorem snoc_of {p : List T} {k : Nat} (h : p.length = k + 1) : ∃ q x, p = q ++ [x] ∧ q.length = k := by
  have h0 : p ≠ [] := by intro e; rw [e] at h; simp at h
  refine ⟨p.dropLast, p.getLast h0, (List.dropLast_concat_getLast h0).symm, ?_⟩
  rw [List.length_dropLast]; omega
theorem climb_len (l : List Mill.En) (hr : Mill.right l = true) (a : T) (i n : Nat) (p : List T) (ha : a.length = 32) : (climb l a i n p).length = 32 := by
  rw [climb]
  split
  · exact ha
  · split <;> exact node_len l hr _ _
/-- Two leaves of one place that are believed of one root are one. -/
theorem climb_inj (l : List Mill.En) (hr : Mill.right l = true) (S : List T) : ∀ (n i : Nat) (a b : T) (p q : List T), i < n → a.length = 32 → b.length = 32 → Sums p → Sums q → p.length = depth i n → q.length = depth i n →
    (∀ x, x ∈ climbAsks l a i n p → x ∈ S) → (∀ x, x ∈ climbAsks l b i n q → x ∈ S) → climb l a i n p = climb l b i n q → a = b ∨ Coll l S := by
  intro n
  induction n using Nat.strongRecOn with
  | ind n ih =>
    intro i a b p q hi ha hb sp sq hp hq qa qb h
    by_cases h2 : 2 ≤ n
    · have hbl := below_lt h2
      have hpos := below_pos n
      by_cases hk : i < below n
      · rw [depth_left h2 hk] at hp hq
        obtain ⟨p, x, rfl, hphp⟩ := snoc_of hp
        have hp := hphp
        obtain ⟨q, y, rfl, hqhq⟩ := snoc_of hq
        have hq := hqhq
        rw [climb_left l _ _ _ _ _ h2 hk, climb_left l _ _ _ _ _ h2 hk] at h
        rw [climbAsks_left l _ _ _ _ _ h2 hk] at qa qb
        rcases node_inj (climb_len l hr _ _ _ _ ha) (climb_len l hr _ _ _ _ hb) (qa _ (by simp)) (qb _ (by simp)) h with ⟨e, _⟩ | hc
        · exact ih (below n) hbl i a b p q hk ha hb (sums_snoc sp).1 (sums_snoc sq).1 hp hq (fun x hx => qa x (by simp [hx])) (fun x hx => qb x (by simp [hx])) e
        · exact Or.inr hc
      · rw [depth_right h2 hk] at hp hq
        obtain ⟨p, x, rfl, hphp⟩ := snoc_of hp
        have hp := hphp
        obtain ⟨q, y, rfl, hqhq⟩ := snoc_of hq
        have hq := hqhq
        rw [climb_right l _ _ _ _ _ h2 hk, climb_right l _ _ _ _ _ h2 hk] at h
        rw [climbAsks_right l _ _ _ _ _ h2 hk] at qa qb
        rcases node_inj (sums_snoc sp).2 (sums_snoc sq).2 (qa _ (by simp)) (qb _ (by simp)) h with ⟨_, e⟩ | hc
        · exact ih (n - below n) (by omega) (i - below n) a b p q (by omega) ha hb (sums_snoc sp).1 (sums_snoc sq).1 hp hq (fun x hx => qa x (by simp [hx])) (fun x hx => qb x (by simp [hx])) e
        · exact Or.inr hc
    · left
      have h1 : n = 1 := by omega
      rw [climb_end l _ _ _ _ (Or.inl h1), climb_end l _ _ _ _ (Or.inl h1)] at h
      exact h
theorem both_len (l : List Mill.En) (hr : Mill.right l = true) : ∀ (n a : Nat) (w : Bool) (old : T) (p : List T), 1 ≤ a → a ≤ n → Sums p → p.length = long a n w → (w = true → old.length = 32) → (both l a n w old p).1.length = 32 ∧ (both l a n w old p).2.length = 32 := by
  intro n
  induction n using Nat.strongRecOn with
  | ind n ih =>
    intro a w old p h1 ha sp hp ho
    by_cases he : a = n
    · rw [long_all w he] at hp
      cases w with
      | true => rw [both_old l a n true old p (Or.inl ⟨he, rfl⟩)]; exact ⟨ho rfl, ho rfl⟩
      | false =>
        obtain ⟨p, x, rfl, hphp⟩ := snoc_of hp
        have hp := hphp
        rw [he, both_last]
        exact ⟨(sums_snoc sp).2, (sums_snoc sp).2⟩
    · have h2 : 2 ≤ n := by omega
      have hbl := below_lt h2
      have hpos := below_pos n
      by_cases hk : a ≤ below n
      · rw [long_left w he h2 hk] at hp
        obtain ⟨p, x, rfl, hphp⟩ := snoc_of hp
        have hp := hphp
        rw [both_left l a n w old p x he h2 hk]
        exact ⟨(ih (below n) hbl a w old p h1 hk (sums_snoc sp).1 hp ho).1, node_len l hr _ _⟩
      · rw [long_right w he h2 hk] at hp
        obtain ⟨p, x, rfl, hphp⟩ := snoc_of hp
        have hp := hphp
        rw [both_right l a n w old p x he h2 hk]
        exact ⟨node_len l hr _ _, node_len l hr _ _⟩
/-- What is believed to have grown out of others begins with them. -/
theorem both_begins (l : List Mill.En) (hr : Mill.right l = true) (S : List T) : ∀ (n a : Nat) (w : Bool) (old : T) (p A B : List T), 1 ≤ a → a ≤ n → A.length = a → B.length = n → Sums A → Sums B → Sums p → p.length = long a n w → (w = true → old.length = 32) →
    (∀ x, x ∈ rootAsks l A → x ∈ S) → (∀ x, x ∈ rootAsks l B → x ∈ S) → (∀ x, x ∈ bothAsks l a n w old p → x ∈ S) →
    (both l a n w old p).1 = root l A → (both l a n w old p).2 = root l B → A = B.take a ∨ Coll l S := by
  intro n
  induction n using Nat.strongRecOn with
  | ind n ih =>
    intro a w old p A B h1 ha hA hB sA sB sp hp ho qA qB qp e1 e2
    by_cases he : a = n
    · have hs : root l A = root l B := by
        rw [long_all w he] at hp
        cases w with
        | true => rw [both_old l a n true old p (Or.inl ⟨he, rfl⟩)] at e1 e2; rw [← e1, ← e2]
        | false =>
          obtain ⟨p, x, rfl, hphp⟩ := snoc_of hp
          have hp := hphp
          rw [he, both_last] at e1 e2
          rw [← e1, ← e2]
      rcases root_inj l hr S n A B (by omega) hB sA sB qA qB hs with e | hc
      · left; rw [e, List.take_of_length_le (by omega)]
      · exact Or.inr hc
    · have h2 : 2 ≤ n := by omega
      have hbl := below_lt h2
      have hpos := below_pos n
      have qB' := qB
      rw [rootAsks_more l B (by omega), hB] at qB
      rw [root_more l B (by omega), hB] at e2
      by_cases hk : a ≤ below n
      · rw [long_left w he h2 hk] at hp
        obtain ⟨p, x, rfl, hphp⟩ := snoc_of hp
        have hp := hphp
        rw [both_left l a n w old p x he h2 hk] at e1 e2
        rw [bothAsks_left l a n w old p x he h2 hk] at qp
        have hl := both_len l hr (below n) a w old p h1 hk (sums_snoc sp).1 hp ho
        rcases node_inj hl.2 (root_len l hr _ (sums_take sB _)) (qp _ (by simp)) (qB _ (by simp)) e2 with ⟨e3, _⟩ | hc
        · rcases ih (below n) hbl a w old p A (B.take (below n)) h1 hk hA (by rw [List.length_take]; omega) sA (sums_take sB _) (sums_snoc sp).1 hp ho qA (fun x hx => qB x (by simp [hx])) (fun x hx => qp x (by simp [hx])) e1 e3 with e | hc
          · left; rw [e, take_take_le B hk]
          · exact Or.inr hc
        · exact Or.inr hc
      · rw [long_right w he h2 hk] at hp
        obtain ⟨p, x, rfl, hphp⟩ := snoc_of hp
        have hp := hphp
        rw [both_right l a n w old p x he h2 hk] at e1 e2
        rw [bothAsks_right l a n w old p x he h2 hk] at qp
        have hba : below a = below n := below_two h2 (by omega) (by omega)
        rw [rootAsks_more l A (by omega), hA, hba] at qA
        rw [root_more l A (by omega), hA, hba] at e1
        have hx := (sums_snoc sp).2
        rcases node_inj hx (root_len l hr _ (sums_take sA _)) (qp _ (by simp)) (qA _ (by simp)) e1 with ⟨e3, e4⟩ | hc
        · rcases node_inj hx (root_len l hr _ (sums_take sB _)) (qp _ (by simp)) (qB _ (by simp)) e2 with ⟨e5, e6⟩ | hc
          · rcases root_inj l hr S (below n) (A.take (below n)) (B.take (below n)) (by rw [List.length_take]; omega) (by rw [List.length_take]; omega) (sums_take sA _) (sums_take sB _) (fun x hx => qA x (by simp [hx])) (fun x hx => qB x (by simp [hx])) (e3.symm.trans e5) with e7 | hc
            · rcases ih (n - below n) (by omega) (a - below n) false [] p (A.drop (below n)) (B.drop (below n)) (by omega) (by omega) (by rw [List.length_drop]; omega) (by rw [List.length_drop]; omega) (sums_drop sA _) (sums_drop sB _) (sums_snoc sp).1 hp (by simp) (fun x hx => qA x (by simp [hx])) (fun x hx => qB x (by simp [hx])) (fun x hx => qp x (by simp [hx])) e4 e6 with e8 | hc
              · left
                rw [← List.take_append_drop (below n) A, e7, e8, ← List.drop_take, ← take_take_le B (show below n ≤ a by omega), List.take_append_drop]
              · exact Or.inr hc
            · exact Or.inr hc
          · exact Or.inr hc
        · exact Or.inr hc
end Mk
end Go.Proofs.YtphhaiccpllnpaaDoor
