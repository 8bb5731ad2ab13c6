/-
  A paper as it is kept, an event, in memory; what is reckoned one by one.
-/
import Derived.Test.YtihhgingdgepcaaEvSpec
import Derived.Deep.QuietTactic
namespace Go.Proofs.Ytihhgingdgepcaa
open Go.RowKit
open Go.Op (bytesLess)
set_option linter.unusedVariables false

theorem evDrew {B : Nat} {w w1 : World} (h : Below B w w1) (k : Nat) : Below B w (w1.drewN k) := h.trans ⟨rfl, rfl, rfl, Nat.le_refl _, fun _ _ => rfl⟩
/-- The seven cells of a paper as it is kept. -/
def Ent.cs (e : Ent) (A : Option Addr) (ca : Nat) (B : Option Addr) (cb : Nat) : List Value := [.string (S e.id), .int .i64 e.cls, .int .i64 e.born, .int .i64 e.slot, .slice A e.L.length ca, .bool e.gone, .slice B e.H.length cb]
/-- The fourteen cells of an event. -/
def Evt.cs (v : Evt) (A : Option Addr) (ca : Nat) (B : Option Addr) (cb : Nat) : List Value :=
  .int .i64 v.kind :: (v.ent.cs A ca B cb ++ [.int .i64 v.seq, .int .i64 v.idx, .string (S v.name), .int .i64 v.size, .string (S v.root), .int .i64 v.now])
/-- A paper's rows, in blocks that are none of s. -/
structure EntIn (w : World) (s : List Nat) (e : Ent) (A : Option Addr) (ca : Nat) (B : Option Addr) (cb : Nat) : Prop where
  rl : RowC w s A (svs e.L)
  rh : RowC w s B (tvs e.H)
  la : e.L.length ≤ ca
  ma : ca ≤ 9223372036854775807
  lb : e.H.length ≤ cb
  mb : cb ≤ 9223372036854775807
section
variable {w w' : World} {s t : List Nat} {e : Ent} {A B : Option Addr} {ca cb : Nat}
theorem EntIn.mv (h : EntIn w s e A ca B cb) (hm : Mv w w' t) (ht : ∀ x ∈ t, x ∈ s) : EntIn w' s e A ca B cb := ⟨h.rl.mv hm ht, h.rh.mv hm ht, h.la, h.ma, h.lb, h.mb⟩
theorem EntIn.below (h : EntIn w s e A ca B cb) (hb : Below w.heap.size w w') : EntIn w' s e A ca B cb := ⟨h.rl.below hb, h.rh.below hb, h.la, h.ma, h.lb, h.mb⟩
theorem EntIn.sub (h : EntIn w s e A ca B cb) (hs : ∀ x ∈ t, x ∈ s) : EntIn w t e A ca B cb := ⟨h.rl.sub hs, h.rh.sub hs, h.la, h.ma, h.lb, h.mb⟩
theorem EntIn.at {w0 W : World} (h : EntIn w0 [] e A ca B cb) (hb : Below w0.heap.size w0 W) (hs : ∀ x ∈ s, w0.heap.size ≤ x) : EntIn W s e A ca B cb := ⟨RowCA.at h.rl hb hs, RowCA.at h.rh hb hs, h.la, h.ma, h.lb, h.mb⟩
theorem RowT.get {L : List (List UInt8)} (h : RowC w s A (tvs L)) (k : Nat) (hk : k < L.length) : ∃ b off, A = some ⟨b, off, none⟩ ∧ b < w.heap.size ∧ b ∉ s ∧ w.cell? ⟨b, off + k, none⟩ = some (.string (S (L[k]))) := by
  obtain ⟨b, off, hA, hb, hn, hr⟩ := h (fun e => by
    have : (tvs L).length = L.length := by unfold tvs; rw [List.length_map]
    rw [e, List.length_nil] at this
    omega)
  exact ⟨b, off, hA, hb, hn, hr k _ (by unfold tvs; rw [List.getElem?_map, List.getElem?_eq_getElem hk]; rfl)⟩
end
namespace Ev
theorem getD_at {α : Type} {L : List α} {i : Nat} (h : i < L.length) {d : α} : L.getD i d = L[i] := by rw [List.getD_eq_getElem?_getD, List.getElem?_eq_getElem h]; rfl
/-- All below k are so. -/
def upTo (f : Nat → Bool) : Nat → Bool
  | 0 => true
  | k + 1 => upTo f k && f k
theorem upTo_iff (f : Nat → Bool) : ∀ k, upTo f k = true ↔ ∀ i, i < k → f i = true := by
  intro k
  induction k with
  | zero => exact ⟨fun _ i h => absurd h (Nat.not_lt_zero _), fun _ => rfl⟩
  | succ k ih =>
    show (upTo f k && f k) = true ↔ _
    rw [Bool.and_eq_true, ih]
    constructor
    · rintro ⟨h1, h2⟩ i hi
      by_cases e : i = k
      · rw [e]; exact h2
      · exact h1 i (by omega)
    · exact fun h => ⟨fun i hi => h i (by omega), h k (by omega)⟩
/-- Is the one at i ahead of none, or behind the one before it? -/
def aft1 (H : List T) (i : Nat) : Bool := i == 0 || bytesLess (H.getD (i - 1) []) (H.getD i [])
theorem rise_iff : ∀ (H : List T), rise H = true ↔ ∀ i, i < H.length → aft1 H i = true := by
  intro H
  induction H with
  | nil => exact ⟨fun _ i h => absurd h (Nat.not_lt_zero _), fun _ => rfl⟩
  | cons a r ih =>
    cases r with
    | nil =>
      refine ⟨fun _ i h => ?_, fun _ => rfl⟩
      have : i = 0 := by simpa using h
      subst this
      rfl
    | cons b r =>
      show (bytesLess a b && rise (b :: r)) = true ↔ _
      rw [Bool.and_eq_true, ih]
      constructor
      · rintro ⟨h1, h2⟩ i hi
        cases i with
        | zero => rfl
        | succ i =>
          cases i with
          | zero => exact h1
          | succ i =>
            have := h2 (i + 1) (by simpa using hi)
            exact this
      · intro h
        refine ⟨h 1 (by simp), fun i hi => ?_⟩
        cases i with
        | zero => rfl
        | succ i => exact h (i + 2) (by simpa using hi)
/-- What the loops ask of a hold, of a slip. -/
def holdOk (H : List T) (i : Nat) : Bool := Pap.word 16 (H.getD i []) && aft1 H i
def zSlp : Slp := ⟨[], [], [], false⟩
def slpOk (g : Bool) (L : List Slp) (i : Nat) : Bool := slipR g (L.getD i zSlp) && aft1 (L.map Slp.n) i
theorem holds_all (H : List T) : upTo (holdOk H) H.length = (H.all (Pap.word 16) && rise H) := by
  rw [Bool.eq_iff_iff, upTo_iff, Bool.and_eq_true, rise_iff, List.all_eq_true]
  constructor
  · intro h
    refine ⟨fun x hx => ?_, fun i hi => ?_⟩
    · obtain ⟨i, hi, rfl⟩ := List.getElem_of_mem hx
      have := h i hi
      unfold holdOk at this
      rw [Bool.and_eq_true, getD_at hi] at this
      exact this.1
    · have := h i hi
      unfold holdOk at this
      rw [Bool.and_eq_true] at this
      exact this.2
  · rintro ⟨h1, h2⟩ i hi
    unfold holdOk
    rw [Bool.and_eq_true, getD_at hi]
    exact ⟨h1 _ (List.getElem_mem hi), h2 i hi⟩
theorem slips_all (g : Bool) (L : List Slp) : upTo (slpOk g L) L.length = (L.all (slipR g) && rise (L.map Slp.n)) := by
  rw [Bool.eq_iff_iff, upTo_iff, Bool.and_eq_true, rise_iff, List.all_eq_true, List.length_map]
  constructor
  · intro h
    refine ⟨fun x hx => ?_, fun i hi => ?_⟩
    · obtain ⟨i, hi, rfl⟩ := List.getElem_of_mem hx
      have := h i hi
      unfold slpOk at this
      rw [Bool.and_eq_true, getD_at hi] at this
      exact this.1
    · have := h i hi
      unfold slpOk at this
      rw [Bool.and_eq_true] at this
      exact this.2
  · rintro ⟨h1, h2⟩ i hi
    unfold slpOk
    rw [Bool.and_eq_true, getD_at hi]
    exact ⟨h1 _ (List.getElem_mem hi), h2 i hi⟩
/-- What is asked first of a paper, and next. -/
def ent0 (e : Ent) : Bool := Pap.word 24 e.id && rng e.cls 7 && rng e.born 1099511627776 && rng e.slot 63
def ent1 (e : Ent) : Bool := ent0 e && decide (1 ≤ e.L.length ∧ e.L.length ≤ 12) && decide (e.H.length ≤ 4)
theorem entR_eq (e : Ent) : entR e = (ent1 e && upTo (holdOk e.H) e.H.length && upTo (slpOk e.gone e.L) e.L.length) := by
  rw [holds_all, slips_all]
  rfl
/-- The four ways of a chain of questions on numbers. -/
theorem ent0_ways (e : Ent) : (Pap.word 24 e.id = false ∧ ent0 e = false) ∨ (Pap.word 24 e.id = true ∧ ¬ (0 : Int) ≤ e.cls ∧ ent0 e = false) ∨ (Pap.word 24 e.id = true ∧ (0 : Int) ≤ e.cls ∧ ¬ e.cls ≤ 7 ∧ ent0 e = false) ∨
    (Pap.word 24 e.id = true ∧ (0 : Int) ≤ e.cls ∧ e.cls ≤ 7 ∧ ¬ (0 : Int) ≤ e.born ∧ ent0 e = false) ∨ (Pap.word 24 e.id = true ∧ (0 : Int) ≤ e.cls ∧ e.cls ≤ 7 ∧ (0 : Int) ≤ e.born ∧ ¬ e.born ≤ 1099511627776 ∧ ent0 e = false) ∨
    (Pap.word 24 e.id = true ∧ (0 : Int) ≤ e.cls ∧ e.cls ≤ 7 ∧ (0 : Int) ≤ e.born ∧ e.born ≤ 1099511627776 ∧ ¬ (0 : Int) ≤ e.slot ∧ ent0 e = false) ∨
    (Pap.word 24 e.id = true ∧ (0 : Int) ≤ e.cls ∧ e.cls ≤ 7 ∧ (0 : Int) ≤ e.born ∧ e.born ≤ 1099511627776 ∧ (0 : Int) ≤ e.slot ∧ ¬ e.slot ≤ 63 ∧ ent0 e = false) ∨
    (Pap.word 24 e.id = true ∧ (0 : Int) ≤ e.cls ∧ e.cls ≤ 7 ∧ (0 : Int) ≤ e.born ∧ e.born ≤ 1099511627776 ∧ (0 : Int) ≤ e.slot ∧ e.slot ≤ 63 ∧ ent0 e = true) := by
  have h : ∀ b : Bool, ent0 e = b ↔ (Pap.word 24 e.id && rng e.cls 7 && rng e.born 1099511627776 && rng e.slot 63) = b := fun b => Iff.rfl
  simp only [h]
  unfold rng
  cases Pap.word 24 e.id
  · simp
  · by_cases a1 : (0 : Int) ≤ e.cls
    · by_cases a2 : e.cls ≤ 7
      · by_cases a3 : (0 : Int) ≤ e.born
        · by_cases a4 : e.born ≤ 1099511627776
          · by_cases a5 : (0 : Int) ≤ e.slot
            · by_cases a6 : e.slot ≤ 63 <;> simp [a1, a2, a3, a4, a5, a6]
            · simp [a1, a2, a3, a4, a5]
          · simp [a1, a2, a3, a4]
        · simp [a1, a2, a3]
      · simp [a1, a2]
    · simp [a1]
end Ev
end Go.Proofs.Ytihhgingdgepcaa
