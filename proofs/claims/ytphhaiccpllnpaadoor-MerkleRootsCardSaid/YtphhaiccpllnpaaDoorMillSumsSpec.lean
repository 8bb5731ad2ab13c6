/-
  What a mill has noted of a list of texts: plain. No program stands here.
-/
import Derived.Test.YtphhaiccpllnpaaDoorMillSpec
namespace Go.Proofs.YtphhaiccpllnpaaDoor
set_option linter.unusedVariables false
namespace Mill
/-- What is noted of the texts ds. -/
def NI (h : List UInt8 → List UInt8) (ds : List (List UInt8)) (st : St) : Prop := (∀ y, st.notes.lookup y = ds.find? (fun t => h t = y)) ∧ st.notes.length ≤ ds.length ∧ st.full = false ∧ st.sums = ds.length
theorem ni_fresh (h : List UInt8 → List UInt8) : NI h [] fresh := ⟨fun _ => rfl, Nat.le_refl _, rfl, rfl⟩
theorem find_snoc (h : List UInt8 → List UInt8) (ds : List (List UInt8)) (x y : List UInt8) : (ds ++ [x]).find? (fun t => h t = y) = (ds.find? (fun t => h t = y)).or (if h x = y then some x else none) := by
  rw [List.find?_append]
  congr 1
  by_cases e : h x = y <;> simp [e]
theorem lookup_app (ns : List (List UInt8 × List UInt8)) (k t k' : List UInt8) : (ns ++ [(k, t)]).lookup k' = (ns.lookup k').or (if k = k' then some t else none) := by
  rw [List.lookup_append]
  congr 1
  by_cases hk : k' = k
  · subst hk; simp
  · have h1 : (k' == k) = false := by simpa using hk
    have h2 : ¬ k = k' := fun e => hk e.symm
    simp [List.lookup, h1, h2]
theorem ni_step (m : List En) (ds : List (List UInt8)) (x : List UInt8) (st : St) (hn : NI (hash m) ds st) (hl : ds.length < 20000) : NI (hash m) (ds ++ [x]) (step m x st) := by
  obtain ⟨h1, h2, h3, h4⟩ := hn
  unfold step note
  have hk := h1 (hash m x)
  cases hf : ds.find? (fun t => hash m t = hash m x) with
  | some t =>
    rw [hf] at hk
    have hk' : ({ st with sums := st.sums + 1 } : St).notes.lookup (hash m x) = some t := hk
    rw [hk']
    have hall : ∀ y, st.notes.lookup y = (ds ++ [x]).find? (fun t => hash m t = y) := fun y => by
      rw [find_snoc, h1 y]
      by_cases e : hash m x = y
      · subst e; rw [hf]; rfl
      · rw [if_neg e]; simp
    simp only
    split
    · exact ⟨hall, by simp; omega, h3, by simp [h4]⟩
    · exact ⟨hall, by simp; omega, h3, by simp [h4]⟩
  | none =>
    rw [hf] at hk
    have hk' : ({ st with sums := st.sums + 1 } : St).notes.lookup (hash m x) = none := hk
    rw [hk']
    have hlt : ({ st with sums := st.sums + 1 } : St).notes.length < 20000 := by show st.notes.length < 20000; omega
    simp only [hlt, if_true]
    refine ⟨fun y => ?_, by simp; omega, h3, by simp [h4]⟩
    show (st.notes ++ [(hash m x, x)]).lookup y = _
    rw [lookup_app, find_snoc, h1 y]
/-- What becomes of the twins. -/
theorem twins_step (m : List En) (ds : List (List UInt8)) (x : List UInt8) (st : St) (hn : NI (hash m) ds st) :
    (st.met = true → (step m x st).a = st.a ∧ (step m x st).b = st.b ∧ (step m x st).met = true) ∧
    (ds.find? (fun t => hash m t = hash m x) = none → (step m x st).a = st.a ∧ (step m x st).b = st.b ∧ (step m x st).met = st.met) ∧
    (∀ t, ds.find? (fun t => hash m t = hash m x) = some t → t = x → (step m x st).a = st.a ∧ (step m x st).b = st.b ∧ (step m x st).met = st.met) ∧
    (∀ t, ds.find? (fun t => hash m t = hash m x) = some t → t ≠ x → st.met = false → (step m x st).a = t ∧ (step m x st).b = x ∧ (step m x st).met = true) := by
  have hk : ({ st with sums := st.sums + 1 } : St).notes.lookup (hash m x) = ds.find? (fun t => hash m t = hash m x) := hn.1 (hash m x)
  refine ⟨fun hm => ?_, fun hf => ?_, fun t hf e => ?_, fun t hf e hm => ?_⟩
  · unfold step note
    split
    · rw [if_neg (by simp [hm])]; exact ⟨rfl, rfl, hm⟩
    · split <;> exact ⟨rfl, rfl, hm⟩
  · unfold step note
    rw [hk, hf]
    simp only
    split <;> exact ⟨rfl, rfl, rfl⟩
  · unfold step note
    rw [hk, hf]
    simp only [e]
    simp
  · unfold step note
    rw [hk, hf]
    simp [e, hm]
theorem find_at (h : List UInt8 → List UInt8) (T : List (List UInt8)) (i k : Nat) (hk : k < i) (hi : i ≤ T.length) (y : List UInt8) (hn : (T.take k).find? (fun t => h t = y) = none) (he : h (T[k]'(by omega)) = y) :
    (T.take i).find? (fun t => h t = y) = some (T[k]'(by omega)) := by
  have e : T.take i = T.take k ++ (T[k]'(by omega) :: (T.take i).drop (k + 1)) := by
    have h1 : T.take i = (T.take i).take k ++ (T.take i).drop k := (List.take_append_drop k _).symm
    rw [List.take_take, Nat.min_eq_left (by omega)] at h1
    have h2 : (T.take i).drop k = (T.take i)[k]'(by simp; omega) :: (T.take i).drop (k + 1) := List.drop_eq_getElem_cons _
    rw [h2, List.getElem_take] at h1
    exact h1
  rw [e, List.find?_append, hn]
  simp [he]
theorem find_more (h : List UInt8 → List UInt8) (T : List (List UInt8)) (k : Nat) (hk : k < T.length) (y : List UInt8) (hn : (T.take k).find? (fun t => h t = y) = none) (he : h (T[k]'hk) ≠ y) : (T.take (k + 1)).find? (fun t => h t = y) = none := by
  rw [List.take_succ_eq_append_getElem hk, find_snoc, hn]
  simp [he]
end Mill
end Go.Proofs.YtphhaiccpllnpaaDoor
