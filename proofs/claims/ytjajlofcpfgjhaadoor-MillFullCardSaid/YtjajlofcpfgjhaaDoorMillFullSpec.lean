/-
  What a mill has noted of many short texts: plain. No program stands here.
-/
import Derived.Test.YtjajlofcpfgjhaaDoorMillSpec
namespace Go.Proofs.YtjajlofcpfgjhaaDoor
set_option linter.unusedVariables false
namespace Mill
def t3 (k : Nat) : List UInt8 := [UInt8.ofNat (k / 65536), UInt8.ofNat (k / 256), UInt8.ofNat k]
def twin : List UInt8 := [116, 119, 105, 110]
def twinE (s0 : List UInt8) : En := ⟨false, [], twin, s0⟩
theorem t3_inj {i j : Nat} (hi : i < 16777216) (hj : j < 16777216) (h : t3 i = t3 j) : i = j := by
  unfold t3 at h
  simp only [List.cons.injEq, and_true] at h
  obtain ⟨h1, h2, h3⟩ := h
  have e1 := congrArg UInt8.toNat h1
  have e2 := congrArg UInt8.toNat h2
  have e3 := congrArg UInt8.toNat h3
  simp at e1 e2 e3
  omega
theorem hash_t3 (s0 : List UInt8) (k : Nat) : hash [twinE s0] (t3 k) = Sha.sum (t3 k) := by
  unfold hash ask
  have : (twinE s0).inp ≠ (false, [], t3 k) := by
    unfold twinE En.inp t3 twin; simp
  simp [this]
theorem hash_twin (s0 : List UInt8) : hash [twinE s0] twin = s0 := by
  unfold hash ask
  have : (twinE s0).inp = (false, [], twin) := by unfold twinE En.inp; simp
  simp [this]
  rfl

/-- Behind the first k texts. -/
def stk (s0 : List UInt8) : Nat → St
  | 0 => fresh
  | k + 1 => step [twinE s0] (t3 k) (stk s0 k)
theorem stk_sums (s0 : List UInt8) : ∀ k, (stk s0 k).sums = k
  | 0 => rfl
  | k + 1 => by rw [stk, step_sums, stk_sums s0 k]
theorem note_met (h s : List UInt8) (st : St) (hm : st.met = true) : (note h s st).met = true := by
  unfold note
  split <;> split <;> simp_all
theorem note_notes (h s : List UInt8) (st : St) : (note h s st).notes = if st.notes.lookup h = none ∧ st.notes.length < 20000 then st.notes ++ [(h, s)] else st.notes := by
  unfold note
  cases hl : st.notes.lookup h with
  | some t => simp only [reduceCtorEq, false_and, if_false]; split <;> rfl
  | none => simp only [true_and]; split <;> simp_all
/-- What is noted, as long as no two were met. -/
def NotesAre (st : St) (k : Nat) : Prop := st.notes = (List.range (min k 20000)).map (fun i => (Sha.sum (t3 i), t3 i)) ∧ st.full = decide (20000 < k)
theorem lookup_mem {ns : List (List UInt8 × List UInt8)} {h t : List UInt8} (hl : ns.lookup h = some t) : (h, t) ∈ ns := by
  induction ns with
  | nil => cases hl
  | cons x r ih =>
    obtain ⟨a, b⟩ := x
    rw [List.lookup_cons] at hl
    split at hl
    · rename_i he
      have : h = a := by simpa using he
      injection hl with hl
      rw [this, hl]; exact List.mem_cons_self ..
    · exact List.mem_cons_of_mem _ (ih hl)
theorem stk_inv (s0 : List UInt8) : ∀ k, k ≤ 30000 → (stk s0 k).met = false → NotesAre (stk s0 k) k
  | 0, _, _ => ⟨rfl, rfl⟩
  | k + 1, hk, hm => by
    have hm0 : (stk s0 k).met = false := by
      cases h : (stk s0 k).met with
      | false => rfl
      | true =>
        rw [stk, step] at hm
        have := note_met (hash [twinE s0] (t3 k)) (t3 k) { stk s0 k with sums := (stk s0 k).sums + 1 } h
        rw [this] at hm
        cases hm
    obtain ⟨hn, hf⟩ := stk_inv s0 k (by omega) hm0
    rw [stk, step, hash_t3] at hm ⊢
    generalize hst : ({ stk s0 k with sums := (stk s0 k).sums + 1 } : St) = st at hm ⊢
    have hn' : st.notes = (List.range (min k 20000)).map (fun i => (Sha.sum (t3 i), t3 i)) := by rw [← hst]; exact hn
    have hf' : st.full = decide (20000 < k) := by rw [← hst]; exact hf
    have hlen : st.notes.length = min k 20000 := by rw [hn']; simp
    have hm' : st.met = false := by rw [← hst]; exact hm0
    cases hl : st.notes.lookup (Sha.sum (t3 k)) with
    | some t =>
      exfalso
      have hmem := lookup_mem hl
      rw [hn'] at hmem
      obtain ⟨j, hj, he⟩ := List.mem_map.1 hmem
      rw [List.mem_range] at hj
      injection he with _ he
      have hne : t ≠ t3 k := fun e => by
        have := t3_inj (i := j) (j := k) (by omega) (by omega) (he.trans e)
        omega
      unfold note at hm
      rw [hl] at hm
      simp [hne, hm'] at hm
    | none =>
      unfold note
      rw [hl]
      by_cases h2 : k < 20000
      · rw [if_pos (by omega)]
        refine ⟨?_, ?_⟩
        · show st.notes ++ [_] = _
          rw [hn', Nat.min_eq_left (by omega), Nat.min_eq_left (by omega), List.range_succ, List.map_append]; rfl
        · show st.full = _
          rw [hf']; simp; omega
      · rw [if_neg (by omega)]
        refine ⟨?_, ?_⟩
        · show st.notes = _
          rw [hn', Nat.min_eq_right (by omega), Nat.min_eq_right (by omega)]
        · show true = _
          simp; omega

/-- What the statement asks for at its end. -/
theorem full_end (n : Nat) (hn : 0 < n) (hn2 : n ≤ 30000) (hm : (stk (Sha.sum [0, 0, 0]) n).met = false) :
    (stk (Sha.sum [0, 0, 0]) n).full = decide (20000 < n) ∧ (step [twinE (Sha.sum [0, 0, 0])] twin (stk (Sha.sum [0, 0, 0]) n)).a = [0, 0, 0] ∧
    (step [twinE (Sha.sum [0, 0, 0])] twin (stk (Sha.sum [0, 0, 0]) n)).b = twin ∧ (step [twinE (Sha.sum [0, 0, 0])] twin (stk (Sha.sum [0, 0, 0]) n)).met = true := by
  obtain ⟨h1, h2⟩ := stk_inv _ n hn2 hm
  generalize stk (Sha.sum [0, 0, 0]) n = st at hm h1 h2
  refine ⟨h2, ?_⟩
  have hl : st.notes.lookup (Sha.sum [0, 0, 0]) = some [0, 0, 0] := by
    obtain ⟨m, hmm⟩ : ∃ m, min n 20000 = m + 1 := ⟨min n 20000 - 1, by omega⟩
    rw [h1, hmm, List.range_succ_eq_map, List.map_cons, List.lookup_cons]
    have : t3 0 = [0, 0, 0] := rfl
    rw [this]; simp
  unfold step
  rw [hash_twin]
  unfold note
  have hl' : ({ st with sums := st.sums + 1 } : St).notes.lookup (Sha.sum [0, 0, 0]) = some [0, 0, 0] := hl
  rw [hl']
  have hne : ([0, 0, 0] : List UInt8) ≠ twin := by decide
  simp [hne, hm]
end Mill
end Go.Proofs.YtjajlofcpfgjhaaDoor
