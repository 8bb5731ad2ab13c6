/-
  What was flushed lasts, purely: twenty sectors written, flushed, written again, and the power goes.
-/
import Derived.Test.YtldlhdbdehmhbaaDskSpec
namespace Go.Proofs.Ytldlhdbdehmhbaa
set_option linter.unusedVariables false

namespace Dsk
def fill (c : UInt8) (n : Nat) : T := List.replicate n c
theorem fill_len (c : UInt8) (n : Nat) : (fill c n).length = n := List.length_replicate
/-- The first k of l's bytes are written, each into the sector of its place. -/
def wrTo (d : St) (l : List UInt8) : Nat → St
  | 0 => d
  | k + 1 => put { wrTo d l k with acts := (wrTo d l k).acts + 1 } k (fill (l.getD k 0) 64)
theorem wrTo_up (d : St) (l : List UInt8) : ∀ k, (wrTo d l k).up = d.up := by
  intro k; induction k with
  | zero => rfl
  | succ k ih => exact ih
theorem wrTo_arm (d : St) (l : List UInt8) : ∀ k, (wrTo d l k).arm = d.arm := by
  intro k; induction k with
  | zero => rfl
  | succ k ih => exact ih
theorem wrTo_len (d : St) (l : List UInt8) : ∀ k, (wrTo d l k).secs.length = d.secs.length := by
  intro k; induction k with
  | zero => rfl
  | succ k ih => show (List.modify _ _ _).length = _; rw [List.length_modify]; exact ih
/-- One write more, as the disk's own call. -/
theorem wrTo_step (d : St) (l : List UInt8) (k : Nat) (hu : d.up = true) (ha : d.arm = none) (hk : k < d.secs.length) : write (wrTo d l k) (k : Int) (fill (l.getD k 0) 64) = (0, wrTo d l (k + 1)) := by
  have h1 := wrTo_up d l k
  have h2 := wrTo_arm d l k
  have h3 := wrTo_len d l k
  rw [hu] at h1
  rw [ha] at h2
  have ha' : act (wrTo d l k) = (true, { wrTo d l k with acts := (wrTo d l k).acts + 1 }) := by
    unfold act
    split
    · rename_i h; rw [h] at h2; cases h2
    · rename_i h; rw [h] at h2; cases h2
    · rfl
  unfold write
  rw [if_neg (by rw [h1]; decide), if_neg (by rw [h3]; omega), if_neg (by rw [fill_len]; omega), ha', if_neg (by simp)]
  rfl
theorem wrTo_acts (d : St) (l : List UInt8) : ∀ k, (wrTo d l k).acts = d.acts + k := by
  intro k; induction k with
  | zero => rfl
  | succ k ih => show (wrTo d l k).acts + 1 = _; omega
theorem wrTo_secs (d : St) (l : List UInt8) (k : Nat) : (wrTo d l (k + 1)).secs = (wrTo d l k).secs.modify k fun x => ⟨x.sure, x.at_, some (fill (l.getD k 0) 64, (wrTo d l k).acts + 1)⟩ := rfl
theorem wrTo_ge (d : St) (l : List UInt8) : ∀ k i, k ≤ i → (wrTo d l k).secs[i]? = d.secs[i]? := by
  intro k
  induction k with
  | zero => intro i _; rfl
  | succ k ih =>
    intro i hi
    rw [wrTo_secs, List.getElem?_modify, ih i (by omega)]
    cases d.secs[i]? with
    | none => rfl
    | some s => refine congrArg some ?_; dsimp only; rw [if_neg (by omega)]
theorem wrTo_lt (d : St) (l : List UInt8) : ∀ k i, i < k → (wrTo d l k).secs[i]? = (d.secs[i]?).map fun s => ⟨s.sure, s.at_, some (fill (l.getD i 0) 64, d.acts + i + 1)⟩ := by
  intro k
  induction k with
  | zero => intro i h; omega
  | succ k ih =>
    intro i hi
    rw [wrTo_secs, List.getElem?_modify]
    by_cases h : i = k
    · subst h
      rw [wrTo_ge d l i i (Nat.le_refl _), wrTo_acts]
      cases d.secs[i]? with
      | none => rfl
      | some s => refine congrArg some ?_; dsimp only; rw [if_pos rfl]
    · rw [ih i (by omega)]
      cases d.secs[i]? with
      | none => rfl
      | some s => refine congrArg some ?_; dsimp only; rw [if_neg (by omega)]
/-- What lasts of sector i ahead of the loss; what was written last. -/
def was (a : List UInt8) (i : Nat) : T := if i < a.length then fill (a.getD i 0) 64 else fill 0 64
def is (a b : List UInt8) (i : Nat) : T := if i < b.length then fill (b.getD i 0) 64 else was a i
/-- The disk ahead of the loss. -/
def base (a b : List UInt8) : St := wrTo { wrTo (fresh 20) a (min a.length 20) with acts := (wrTo (fresh 20) a (min a.length 20)).acts + 1, secs := (wrTo (fresh 20) a (min a.length 20)).secs.map flushed } b (min b.length 20)
theorem base_len (a b : List UInt8) : (base a b).secs.length = 20 := by
  unfold base
  rw [wrTo_len]
  show (List.map _ _).length = 20
  rw [List.length_map, wrTo_len]
  exact List.length_replicate
theorem base_one (a : List UInt8) (i : Nat) (hi : i < 20) : ∃ s, ((wrTo (fresh 20) a (min a.length 20)).secs.map flushed)[i]? = some s ∧ s.sure = was a i ∧ s.pend = none := by
  have hf : (fresh 20).secs[i]? = some ⟨List.replicate 64 0, 0, none⟩ := by
    show (List.replicate 20 _)[i]? = _
    rw [List.getElem?_replicate, if_pos hi]
  rw [List.getElem?_map]
  unfold was
  by_cases ha : i < a.length
  · rw [wrTo_lt _ _ _ _ (by omega), hf, if_pos ha]
    exact ⟨_, rfl, rfl, rfl⟩
  · rw [wrTo_ge _ _ _ _ (by omega), hf, if_neg ha]
    exact ⟨_, rfl, rfl, rfl⟩
theorem base_at (a b : List UInt8) (i : Nat) (hi : i < 20) : ∃ s, (base a b).secs[i]? = some s ∧ s.sure = was a i ∧ s.now = is a b i := by
  obtain ⟨s, e, h1, h2⟩ := base_one a i hi
  unfold base is
  by_cases hb : i < b.length
  · rw [wrTo_lt _ _ _ _ (by omega), if_pos hb]
    show ∃ s', ((List.map flushed (wrTo (fresh 20) a (min a.length 20)).secs)[i]?).map _ = some s' ∧ _
    rw [e]
    exact ⟨_, rfl, h1, rfl⟩
  · rw [wrTo_ge _ _ _ _ (by omega), if_neg hb]
    refine ⟨s, e, h1, ?_⟩
    unfold Sec.now
    rw [h2]
    exact h1
theorem base_good (a b : List UInt8) : Good (base a b) := fun s hs => by
  obtain ⟨i, hi, rfl⟩ := List.mem_iff_getElem.1 hs
  have h20 : i < 20 := by rw [base_len] at hi; exact hi
  obtain ⟨s, e, h1, h2⟩ := base_at a b i h20
  rw [List.getElem?_eq_getElem hi] at e
  injection e with e
  rw [e]
  have hw : (was a i).length = 64 := by unfold was; split <;> exact fill_len _ _
  have hi' : (is a b i).length = 64 := by unfold is; split; exact fill_len _ _; exact hw
  refine ⟨by rw [h1]; exact hw, fun p hp => ?_⟩
  have : s.now = p.1 := by unfold Sec.now; rw [hp]
  rw [← this, h2]; exact hi'
/-- Does sector i hold neither what lasted nor what was written? -/
def tornAt (a b : List UInt8) (f : Fall) (i : Nat) : Bool :=
  match (fallGo f 0 (base a b).secs)[i]? with
  | some s => decide (s.sure ≠ was a i) && decide (s.sure ≠ is a b i)
  | none => false
def tornTo (a b : List UInt8) (f : Fall) (k : Nat) : Nat := ((List.range k).filter (tornAt a b f)).length
theorem tornTo_step (a b : List UInt8) (f : Fall) (k : Nat) : tornTo a b f (k + 1) = tornTo a b f k + (if tornAt a b f k = true then 1 else 0) := by
  unfold tornTo
  rw [List.range_succ, List.filter_append, List.length_append]
  congr 1
  rw [List.filter_cons]
  split <;> rfl
theorem filter_zip {α β : Type} (p : α × β → Bool) : ∀ (A : List α) (B : List β) (q : Nat → Bool), (∀ i (h1 : i < A.length) (h2 : i < B.length), p (A[i], B[i]) = q i) → A.length = B.length → ((A.zip B).filter p).length = ((List.range A.length).filter q).length := by
  intro A
  induction A with
  | nil => intro B q _ _; rfl
  | cons x r ih =>
    intro B q hq hl
    match B, hl with
    | y :: s, hl =>
      have h0 := hq 0 (by simp) (by simp)
      have ih' := ih s (fun i => q (i + 1)) (fun i h1 h2 => hq (i + 1) (by simpa using h1) (by simpa using h2)) (by simpa using hl)
      rw [List.zip_cons_cons, List.length_cons, List.range_succ_eq_map, List.filter_cons, List.filter_cons]
      have he : (List.filter q (List.map Nat.succ (List.range r.length))).length = (List.filter (fun i => q (i + 1)) (List.range r.length)).length := by
        rw [List.filter_map, List.length_map]; rfl
      have h0' : p (x, y) = q 0 := h0
      rw [h0']
      split
      · rw [List.length_cons, List.length_cons, he, ih']
      · rw [he, ih']
theorem lasts (a b : List UInt8) (f : Fall) : tornTo a b f 20 ≤ 1 ∧ (tornTo a b f 20 = 0 ∨ 0 ≤ f.tear) := by
  have hle := tornN_le f (base a b).secs 0
  have he : tornN (base a b).secs (fallGo f 0 (base a b).secs) = tornTo a b f 20 := by
    unfold tornN tornTo
    rw [filter_zip _ _ _ (tornAt a b f) (fun i h1 h2 => ?_) (fallGo_len f 0 _).symm, base_len]
    obtain ⟨s, e, h3, h4⟩ := base_at a b i (by rw [base_len] at h1; exact h1)
    rw [List.getElem?_eq_getElem h1] at e
    injection e with e
    unfold tornAt torn
    rw [List.getElem?_eq_getElem h2]
    show (decide (_ ≠ ((base a b).secs[i]).sure) && decide (_ ≠ ((base a b).secs[i]).now)) = _
    rw [e, h3, h4]
  rw [he] at hle
  split at hle
  · rename_i h
    exact ⟨hle, Or.inr h.1⟩
  · exact ⟨by omega, Or.inl (by omega)⟩
/-- A flush of a disk that is up and not armed. -/
def fl (d : St) : St := { d with acts := d.acts + 1, secs := d.secs.map flushed }
def dA (a : List UInt8) : St := wrTo (fresh 20) a (min a.length 20)
def dS (a b : List UInt8) (f : Fall) : St := { fall f (base a b) with up := true }
theorem act_calm {d : St} (h : d.arm = none) : act d = (true, { d with acts := d.acts + 1 }) := by unfold act; rw [h]
theorem flush_dA (a : List UInt8) : flush (dA a) = (0, fl (dA a)) := by
  have h1 : (dA a).up = true := wrTo_up _ _ _
  have h2 : (dA a).arm = none := wrTo_arm _ _ _
  unfold flush
  rw [if_neg (by rw [h1]; decide), act_calm h2]
  rfl
theorem base_eq (a b : List UInt8) : base a b = wrTo (fl (dA a)) b (min b.length 20) := rfl
theorem crash_base (a b : List UInt8) (f : Fall) : crash (base a b) f = (0, fall f (base a b)) := by
  have h1 : (base a b).up = true := (wrTo_up _ _ _).trans (wrTo_up _ _ _)
  unfold crash
  rw [if_neg (by rw [h1]; decide)]
theorem start_fall (a b : List UInt8) (f : Fall) : start (fall f (base a b)) = (0, dS a b f) := rfl
theorem dA_acts (a : List UInt8) (k : Nat) : (wrTo (fresh 20) a k).acts = k := (wrTo_acts _ _ _).trans (Nat.zero_add k)
theorem wrTo_falls (d : St) (l : List UInt8) : ∀ k, (wrTo d l k).falls = d.falls := by
  intro k; induction k with
  | zero => rfl
  | succ k ih => exact ih
theorem fl_acts (a b : List UInt8) (k : Nat) : (wrTo (fl (dA a)) b k).acts = min a.length 20 + 1 + k := by
  rw [wrTo_acts]
  show (wrTo (fresh 20) a (min a.length 20)).acts + 1 + k = _
  rw [dA_acts]
theorem fl_falls (a b : List UInt8) (k : Nat) : (wrTo (fl (dA a)) b k).falls = 0 := (wrTo_falls _ _ _).trans (wrTo_falls _ _ _)
theorem step_a (a : List UInt8) (k : Nat) (hk : k < 20) : write (wrTo (fresh 20) a k) (k : Int) (fill (a.getD k 0) 64) = (0, wrTo (fresh 20) a (k + 1)) :=
  wrTo_step _ _ _ rfl rfl (by rw [show (fresh 20).secs.length = 20 from List.length_replicate]; exact hk)
theorem step_b (a b : List UInt8) (k : Nat) (hk : k < 20) : write (wrTo (fl (dA a)) b k) (k : Int) (fill (b.getD k 0) 64) = (0, wrTo (fl (dA a)) b (k + 1)) := by
  refine wrTo_step _ _ _ (wrTo_up _ _ _) (wrTo_arm _ _ _) ?_
  show k < ((dA a).secs.map flushed).length
  rw [List.length_map]
  unfold dA
  rw [wrTo_len, show (fresh 20).secs.length = 20 from List.length_replicate]
  exact hk
theorem was_len (a : List UInt8) (i : Nat) : (was a i).length = 64 := by unfold was; split <;> exact fill_len _ _
theorem read_dS (a b : List UInt8) (f : Fall) (i : Nat) (hi : i < 20) : ∃ x : T, read (dS a b f) (i : Int) = (x, 0) ∧ x.length = 64 ∧ tornAt a b f i = (decide (x ≠ was a i) && decide (x ≠ is a b i)) := by
  have hl : (fallGo f 0 (base a b).secs).length = 20 := by rw [fallGo_len, base_len]
  have hg := List.getElem?_eq_getElem (l := fallGo f 0 (base a b).secs) (i := i) (by omega)
  generalize (fallGo f 0 (base a b).secs)[i]'(by omega) = s at hg
  have hm := List.mem_of_getElem? hg
  have hfull := fallGo_full f (k := 0) (fun s' hs' => base_good a b s' hs') s hm
  have hnone := fallGo_none s hm
  refine ⟨s.sure, ?_, hfull.1, ?_⟩
  · unfold read
    have hl' : (dS a b f).secs.length = 20 := hl
    rw [if_neg (show ¬ ((dS a b f).up = false) from fun h => by cases h), if_neg (by rw [hl']; omega)]
    have e : ((i : Int)).toNat = i := by omega
    have hg' : (dS a b f).secs[i]? = some s := hg
    rw [e, hg']
    have hn : s.now = s.sure := by unfold Sec.now; rw [hnone]
    simp [hn]
  · unfold tornAt
    rw [hg]
end Dsk
end Go.Proofs.Ytldlhdbdehmhbaa
