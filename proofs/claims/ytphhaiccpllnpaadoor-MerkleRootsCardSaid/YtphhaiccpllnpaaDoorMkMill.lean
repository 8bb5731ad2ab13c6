/-
  What a mill has noted of a list of texts, two unlike ones of which have one sum. No program stands here.
-/
import Derived.Test.YtphhaiccpllnpaaDoorMkPure
namespace Go.Proofs.YtphhaiccpllnpaaDoor
set_option linter.unusedVariables false

namespace Mill
/-- Texts are summed one behind another. -/
def steps (l : List En) (ts : List (List UInt8)) (st : St) : St := ts.foldl (fun s t => step l t s) st
theorem steps_nil (l : List En) (st : St) : steps l [] st = st := rfl
theorem steps_one (l : List En) (t : List UInt8) (st : St) : steps l [t] st = step l t st := rfl
theorem steps_app (l : List En) (a b : List (List UInt8)) (st : St) : steps l (a ++ b) st = steps l b (steps l a st) := List.foldl_append
theorem steps_snoc (l : List En) (a : List (List UInt8)) (t : List UInt8) (st : St) : step l t (steps l a st) = steps l (a ++ [t]) st := by rw [steps_app]; rfl
theorem steps_sums (l : List En) (ts : List (List UInt8)) : ∀ st : St, (steps l ts st).sums = st.sums + ts.length := by
  induction ts with
  | nil => intro st; rfl
  | cons t ts ih =>
    intro st
    show (steps l ts (step l t st)).sums = _
    rw [ih, step_sums, List.length_cons]; omega
/-- What a mill knows behind the texts ds. -/
def Knows (l : List En) (ds : List (List UInt8)) (st : St) : Prop :=
  NI (hash l) ds st ∧ (st.met = true → st.a ≠ st.b) ∧ (st.met = false → ∀ s t, s ∈ ds → t ∈ ds → hash l s = hash l t → s = t)
theorem knows_fresh (l : List En) : Knows l [] fresh := ⟨ni_fresh _, (fun h => by cases h), (fun _ s t hs => by cases hs)⟩
theorem knows_step (l : List En) (ds : List (List UInt8)) (x : List UInt8) (st : St) (h : Knows l ds st) (hl : ds.length < 20000) : Knows l (ds ++ [x]) (step l x st) := by
  obtain ⟨hn, hm, hi⟩ := h
  obtain ⟨t1, t2, t3, t4⟩ := twins_step l ds x st hn
  refine ⟨ni_step l ds x st hn hl, ?_, ?_⟩
  · cases hst : st.met with
    | true =>
      obtain ⟨e1, e2, e3⟩ := t1 hst
      intro _
      rw [e1, e2]
      exact hm hst
    | false =>
      cases hf : ds.find? (fun t => hash l t = hash l x) with
      | none =>
        obtain ⟨e1, e2, e3⟩ := t2 hf
        intro h
        rw [e3, hst] at h
        cases h
      | some t =>
        by_cases e : t = x
        · obtain ⟨e1, e2, e3⟩ := t3 t hf e
          intro h
          rw [e3, hst] at h
          cases h
        · obtain ⟨e1, e2, e3⟩ := t4 t hf e hst
          intro _
          rw [e1, e2]
          exact e
  · intro hno
    have hst : st.met = false := by
      cases h : st.met with
      | false => rfl
      | true => rw [(t1 h).2.2] at hno; cases hno
    have hx : ∀ s, s ∈ ds → hash l s = hash l x → s = x := by
      intro s hs he
      cases hf : ds.find? (fun t => hash l t = hash l x) with
      | none =>
        have := List.find?_eq_none.mp hf s hs
        exact absurd (by simpa using he) this
      | some t =>
        have ht : t ∈ ds := List.mem_of_find?_eq_some hf
        have hht : hash l t = hash l x := by simpa using List.find?_some hf
        by_cases e : t = x
        · exact (hi hst s t hs ht (he.trans hht.symm)).trans e
        · rw [(t4 t hf e hst).2.2] at hno; cases hno
    intro s t hs ht he
    rcases List.mem_append.mp hs with hs | hs
    · rcases List.mem_append.mp ht with ht | ht
      · exact hi hst s t hs ht he
      · rw [List.mem_singleton.mp ht] at he ⊢; exact hx s hs he
    · rw [List.mem_singleton.mp hs] at he ⊢
      rcases List.mem_append.mp ht with ht | ht
      · exact (hx t ht he.symm).symm
      · exact (List.mem_singleton.mp ht).symm
theorem knows_steps (l : List En) (ts : List (List UInt8)) : ∀ (ds : List (List UInt8)) (st : St), Knows l ds st → ds.length + ts.length ≤ 20000 → Knows l (ds ++ ts) (steps l ts st) := by
  induction ts with
  | nil => intro ds st h _; rw [List.append_nil]; exact h
  | cons t ts ih =>
    intro ds st h hl
    rw [List.length_cons] at hl
    have := ih (ds ++ [t]) (step l t st) (knows_step l ds t st h (by omega)) (by rw [List.length_append, List.length_singleton]; omega)
    rw [List.append_assoc] at this
    exact this
/-- Where two unlike texts of one sum were summed, twins were met. -/
theorem twins_coll (l : List En) (ts : List (List UInt8)) (hl : ts.length ≤ 20000) (h : Mk.Coll l ts) : (steps l ts fresh).met = true ∧ (steps l ts fresh).a ≠ (steps l ts fresh).b := by
  have hk := knows_steps l ts [] fresh (knows_fresh l) (by rw [List.length_nil]; omega)
  rw [List.nil_append] at hk
  obtain ⟨_, hm, hi⟩ := hk
  obtain ⟨s, t, hs, ht, hne, he⟩ := h
  have : (steps l ts fresh).met = true := by
    cases hc : (steps l ts fresh).met with
    | true => rfl
    | false => exact absurd (hi hc s t hs ht he) hne
  exact ⟨this, hm this⟩
end Mill
namespace Mk
/-- How many texts are summed, at most. -/
theorem rootAsks_len (l : List Mill.En) : ∀ (n : Nat) (L : List T), L.length = n → (rootAsks l L).length ≤ n + 1 ∧ (1 ≤ n → (rootAsks l L).length ≤ n - 1) := by
  intro n
  induction n using Nat.strongRecOn with
  | ind n ih =>
    intro L hn
    by_cases h2 : 2 ≤ n
    · have hb := below_lt h2
      have hp := below_pos n
      rw [rootAsks_more l L (by omega), hn]
      have h1 := (ih (below n) hb (L.take (below n)) (by rw [List.length_take]; omega)).2 (by omega)
      have h3 := (ih (n - below n) (by omega) (L.drop (below n)) (by rw [List.length_drop]; omega)).2 (by omega)
      rw [List.length_append, List.length_append, List.length_singleton]
      omega
    · rw [rootAsks, dif_neg (by omega)]
      split
      · rw [List.length_singleton]; omega
      · simp
theorem depth_le : ∀ (e n i : Nat), n ≤ 2 ^ e → i < n → depth i n ≤ e := by
  intro e
  induction e with
  | zero => intro n i hn hi; rw [depth_none (by omega)]; exact Nat.le_refl _
  | succ e ih =>
    intro n i hn hi
    by_cases h2 : 2 ≤ n
    · have hb := below_lt h2
      have hh := below_half h2
      rw [Nat.pow_succ] at hn
      have hbe : below n ≤ 2 ^ e := by
        unfold below
        apply Nat.pow_le_pow_right (by omega)
        have : Nat.log2 (n - 1) < e + 1 := by
          rw [Nat.log2_lt (by omega), Nat.pow_succ]; omega
        omega
      by_cases hk : i < below n
      · rw [depth_left h2 hk]
        have := ih (below n) i hbe hk
        omega
      · rw [depth_right h2 hk]
        have := ih (n - below n) (i - below n) (by omega) (by omega)
        omega
    · rw [depth_none h2]; omega
theorem long_le : ∀ (e n a : Nat) (w : Bool), n ≤ 2 ^ e → 1 ≤ a → a ≤ n → long a n w ≤ e + 1 := by
  intro e
  induction e with
  | zero => 
    intro n a w hn h1 ha
    have : 2 ^ 0 = 1 := rfl
    rw [long_all w (by omega)]
    cases w <;> simp
  | succ e ih =>
    intro n a w hn h1 ha
    by_cases he : a = n
    · rw [long_all w he]; cases w <;> simp
    · have h2 : 2 ≤ n := by omega
      have hb := below_lt h2
      have hh := below_half h2
      rw [Nat.pow_succ] at hn
      have hbe : below n ≤ 2 ^ e := by
        unfold below
        apply Nat.pow_le_pow_right (by omega)
        have : Nat.log2 (n - 1) < e + 1 := by
          rw [Nat.log2_lt (by omega), Nat.pow_succ]; omega
        omega
      by_cases hk : a ≤ below n
      · rw [long_left w he h2 hk]
        have := ih (below n) a w hbe h1 hk
        omega
      · rw [long_right w he h2 hk]
        have := ih (n - below n) (a - below n) false (by omega) (by omega) (by omega)
        omega
end Mk
end Go.Proofs.YtphhaiccpllnpaaDoor
