/-
  Whole, or told to be torn, purely: what a script of puts, erasings and flushes leaves behind a loss of power. No program stands here.
-/
import Derived.Test.YthadcmbbdggneaaGreatDoorGrdSpec
namespace Go.Proofs.YthadcmbbdggneaaGreatDoor
set_option linter.unusedVariables false

namespace Grd
open Dsk (St Sec Fall)
/-- A call: 1 a flush, 0 an erasing, else s is put. -/
structure GOp where
  kind : Int
  i : Int
  s : T
/-- Does it write sector i? -/
def valid (o : GOp) (i : Nat) : Bool := decide (o.i = (i : Int)) && decide (o.kind ≠ 1) && (decide (o.kind = 0) || decide (o.s.length ≤ 47))
/-- The place behind the last of the first k calls that writes sector i; 0: none does. -/
def sureTo (sc : List GOp) (i : Nat) : Nat → Nat
  | 0 => 0
  | k + 1 => match sc[k]? with
    | some o => if valid o i = true then k + 1 else sureTo sc i k
    | none => sureTo sc i k
theorem sureTo_le (sc : List GOp) (i : Nat) : ∀ k, sureTo sc i k ≤ k := by
  intro k
  induction k with
  | zero => exact Nat.le_refl _
  | succ k ih =>
    unfold sureTo
    split
    · split <;> omega
    · omega
/-- Bytes that a call writes. -/
def Fits (o : GOp) (b : T) : Prop := (o.kind = 0 ∧ b = noughts) ∨ (o.kind ≠ 0 ∧ o.kind ≠ 1 ∧ o.s.length ≤ 47 ∧ ∃ a, Stm a ∧ b = grd a o.s)
theorem Fits.cont {o : GOp} {b : T} (h : Fits o b) : Cont b := by
  rcases h with ⟨_, rfl⟩ | ⟨_, _, hs, a, ha, rfl⟩
  · exact Or.inl rfl
  · exact Or.inr ⟨a, o.s, rfl, hs, ha⟩
/-- The bytes b are those of the call ahead of place j (0: noughts). -/
def HoldsAt (sc : List GOp) (i j : Nat) (b : T) : Prop := (j = 0 ∧ b = noughts) ∨ ∃ k o, j = k + 1 ∧ sc[k]? = some o ∧ valid o i = true ∧ Fits o b
theorem HoldsAt.cont {sc : List GOp} {i j : Nat} {b : T} (h : HoldsAt sc i j b) : Cont b := by
  rcases h with ⟨_, rfl⟩ | ⟨k, o, _, _, _, hf⟩
  · exact Or.inl rfl
  · exact hf.cont
/-- Its stamp, if it has one, is at most n. -/
def StB (n : Nat) (b : T) : Prop := ∀ a s, b = grd a s → Stm a → a ≤ n
theorem StB.mono {n m : Nat} {b : T} (h : StB n b) (hm : n ≤ m) : StB m b := fun a s e ha => Nat.le_trans (h a s e ha) hm
theorem grd_inj {a b : Nat} {s t : T} (ha : Stm a) (hb : Stm b) (h : grd a s = grd b t) : a = b := by
  have := congrArg (fun l => List.take 8 l) h
  simp only [grd_take8] at this
  exact eight_inj (by have := ha.2; omega) (by have := hb.2; omega) this
/-- What is known of one sector. -/
def SecOk (sc : List GOp) (i k done n : Nat) (s : Sec) : Prop :=
  HoldsAt sc i (sureTo sc i done) s.sure ∧ StB n s.sure ∧
  ((s.pend = none ∧ sureTo sc i k = sureTo sc i done) ∨ ∃ p, s.pend = some p ∧ done < sureTo sc i k ∧ HoldsAt sc i (sureTo sc i k) p.1 ∧ StB n p.1 ∧ Apart p.1 s.sure)
def Inv (sc : List GOp) (k done n : Nat) (d : St) : Prop := d.secs.length = 10 ∧ done ≤ k ∧ ∀ i, i < 10 → ∃ s, d.secs[i]? = some s ∧ SecOk sc i k done n s

theorem inv_start (sc : List GOp) (n : Nat) (d : St) (h : d.secs = (Dsk.fresh 10).secs) : Inv sc 0 0 n d := by
  refine ⟨by rw [h]; exact List.length_replicate, Nat.le_refl _, fun i hi => ⟨⟨List.replicate 64 0, 0, none⟩, ?_, Or.inl ⟨rfl, rfl⟩, fun a s e ha => ?_, Or.inl ⟨rfl, rfl⟩⟩⟩
  · rw [h]
    show (List.replicate 10 _)[i]? = _
    rw [List.getElem?_replicate, if_pos hi]
  · exact absurd e.symm (grd_ne ha)
/-- A call that writes no sector of the ten. -/
theorem inv_skip {sc : List GOp} {k done n m : Nat} {d : St} (h : Inv sc k done n d) {o : GOp} (ho : sc[k]? = some o) (hv : ∀ i, i < 10 → valid o i = false) (hm : n ≤ m) {d' : St} (hd : d'.secs = d.secs) : Inv sc (k + 1) done m d' := by
  obtain ⟨h1, h2, h3⟩ := h
  refine ⟨by rw [hd]; exact h1, by omega, fun i hi => ?_⟩
  obtain ⟨s, hs, a1, a2, a3⟩ := h3 i hi
  have e : sureTo sc i (k + 1) = sureTo sc i k := by
    show (match sc[k]? with | some o => _ | none => _) = _
    rw [ho]
    dsimp only
    rw [if_neg (by rw [hv i hi]; decide)]
  refine ⟨s, by rw [hd]; exact hs, a1, a2.mono hm, ?_⟩
  rw [e]
  rcases a3 with a3 | ⟨p, b1, b2, b3, b4, b5⟩
  · exact Or.inl a3
  · exact Or.inr ⟨p, b1, b2, b3, b4.mono hm, b5⟩
/-- A sector is written. -/
theorem inv_write {sc : List GOp} {k done n m : Nat} {d : St} (h : Inv sc k done n d) {o : GOp} (ho : sc[k]? = some o) {j : Nat} (hj : j < 10) (hv : valid o j = true) {b : T} (hf : Fits o b) (hn : ∀ a s, b = grd a s → Stm a → n < a) (hb : StB m b) (hm : n ≤ m) {at_ : Nat}
    {d' : St} (hd : d'.secs = d.secs.modify j fun x => ⟨x.sure, x.at_, some (b, at_)⟩) : Inv sc (k + 1) done m d' := by
  obtain ⟨h1, h2, h3⟩ := h
  refine ⟨by rw [hd, List.length_modify]; exact h1, by omega, fun i hi => ?_⟩
  obtain ⟨s, hs, a1, a2, a3⟩ := h3 i hi
  have hs' : d'.secs[i]? = some (if j = i then ⟨s.sure, s.at_, some (b, at_)⟩ else s) := by
    rw [hd, List.getElem?_modify, hs]
    by_cases he : j = i
    · simp [he]
    · simp [he]
  by_cases he : j = i
  · subst he
    rw [if_pos rfl] at hs'
    have e : sureTo sc j (k + 1) = k + 1 := by
      show (match sc[k]? with | some o => _ | none => _) = _
      rw [ho]
      dsimp only
      rw [if_pos hv]
    refine ⟨_, hs', a1, a2.mono hm, Or.inr ⟨(b, at_), rfl, by omega, ?_, hb, ?_⟩⟩
    · rw [e]
      exact Or.inr ⟨k, o, rfl, ho, hv, hf⟩
    · intro x s1 y s2 e1 e2 hx hy hxy
      have q1 := hn x s1 e1 hx
      have q2 := a2 y s2 e2 hy
      omega
  · rw [if_neg he] at hs'
    have hvi : valid o i = false := by
      rw [Bool.eq_false_iff]
      intro hc
      unfold valid at hv hc
      simp only [Bool.and_eq_true, decide_eq_true_eq] at hv hc
      have := hv.1.1
      have := hc.1.1
      omega
    have e : sureTo sc i (k + 1) = sureTo sc i k := by
      show (match sc[k]? with | some o => _ | none => _) = _
      rw [ho]
      dsimp only
      rw [if_neg (by rw [hvi]; decide)]
    refine ⟨s, hs', a1, a2.mono hm, ?_⟩
    rw [e]
    rcases a3 with a3 | ⟨p, b1, b2, b3, b4, b5⟩
    · exact Or.inl a3
    · exact Or.inr ⟨p, b1, b2, b3, b4.mono hm, b5⟩
/-- A flush went well. -/
theorem inv_flush {sc : List GOp} {k done n : Nat} {d : St} (h : Inv sc k done n d) {o : GOp} (ho : sc[k]? = some o) (hk : o.kind = 1) {d' : St} (hd : d'.secs = d.secs.map Dsk.flushed) : Inv sc (k + 1) (k + 1) n d' := by
  obtain ⟨h1, h2, h3⟩ := h
  refine ⟨by rw [hd, List.length_map]; exact h1, Nat.le_refl _, fun i hi => ?_⟩
  obtain ⟨s, hs, a1, a2, a3⟩ := h3 i hi
  have e : sureTo sc i (k + 1) = sureTo sc i k := by
    show (match sc[k]? with | some o => _ | none => _) = _
    rw [ho]
    dsimp only
    rw [if_neg (by unfold valid; rw [hk]; simp)]
  refine ⟨Dsk.flushed s, by rw [hd, List.getElem?_map, hs]; rfl, ?_⟩
  unfold SecOk
  rw [e]
  rcases a3 with ⟨b1, b2⟩ | ⟨p, b1, b2, b3, b4, b5⟩
  · have hfl : Dsk.flushed s = s := by unfold Dsk.flushed; rw [b1]
    rw [hfl, b2]
    exact ⟨a1, a2, Or.inl ⟨b1, rfl⟩⟩
  · have hfl : Dsk.flushed s = ⟨p.1, p.2, none⟩ := by unfold Dsk.flushed; rw [b1]
    rw [hfl]
    exact ⟨b3, b4, Or.inl ⟨rfl, rfl⟩⟩

/-! what the statement asks of a sector -/
/-- Does the call at place k speak of sector i, no earlier than sure? -/
def asks (sc : List GOp) (i sure k : Nat) : Bool := match sc[k]? with
  | some o => decide (o.i = (i : Int)) && decide (o.kind ≠ 1) && decide (sure ≤ k + 1)
  | none => false
def later (sc : List GOp) (i sure : Nat) : Nat → Bool
  | 0 => false
  | k + 1 => later sc i sure k || (asks sc i sure k && decide (sure < k + 1))
def okBy (sc : List GOp) (i sure : Nat) (r : T × Nat × Int) (k : Nat) : Bool := asks sc i sure k && match sc[k]? with
  | some o => if o.kind = 0 then decide (r.2.2 = 7) else decide (r.2.2 = 0) && decide (r.1 = o.s)
  | none => false
def okTo (sc : List GOp) (i sure : Nat) (r : T × Nat × Int) : Nat → Bool
  | 0 => decide (sure = 0) && decide (r.2.2 = 7)
  | k + 1 => okTo sc i sure r k || okBy sc i sure r k
theorem okTo_of {sc : List GOp} {i sure : Nat} {r : T × Nat × Int} {k : Nat} (h : okBy sc i sure r k = true) : ∀ m, k < m → okTo sc i sure r m = true := by
  intro m
  induction m with
  | zero => intro h; omega
  | succ m ih =>
    intro hm
    unfold okTo
    by_cases he : k = m
    · subst he; rw [h, Bool.or_true]
    · rw [ih (by omega), Bool.true_or]
theorem okTo_zero {sc : List GOp} {i sure : Nat} {r : T × Nat × Int} (h : (decide (sure = 0) && decide (r.2.2 = 7)) = true) : ∀ m, okTo sc i sure r m = true := by
  intro m
  induction m with
  | zero => exact h
  | succ m ih => unfold okTo; rw [ih, Bool.true_or]
theorem later_of {sc : List GOp} {i sure k : Nat} (h : asks sc i sure k = true) (hs : sure < k + 1) : ∀ m, k < m → later sc i sure m = true := by
  intro m
  induction m with
  | zero => intro h; omega
  | succ m ih =>
    intro hm
    unfold later
    by_cases he : k = m
    · subst he; rw [h, decide_eq_true hs]; simp
    · rw [ih (by omega), Bool.true_or]
theorem valid_asks {sc : List GOp} {i sure k : Nat} {o : GOp} (ho : sc[k]? = some o) (hv : valid o i = true) (hs : sure ≤ k + 1) : asks sc i sure k = true := by
  unfold asks
  rw [ho]
  unfold valid at hv
  simp only [Bool.and_eq_true, decide_eq_true_eq] at hv
  simp [hv.1.1, hv.1.2, hs]
/-- Bytes of the call at a place answer for it. -/
theorem holds_ok {sc : List GOp} {i j sure m : Nat} {b : T} (h : HoldsAt sc i j b) (hs : sure ≤ j) (hz : j = 0 → sure = 0) (hm : j ≤ m) : okTo sc i sure (rd b) m = true := by
  rcases h with ⟨rfl, rfl⟩ | ⟨k, o, rfl, ho, hv, hf⟩
  · exact okTo_zero (by rw [rd_noughts]; simp; omega) m
  · refine okTo_of (k := k) ?_ m (by omega)
    unfold okBy
    rw [valid_asks ho hv hs, ho, Bool.true_and]
    dsimp only
    rcases hf with ⟨hk, rfl⟩ | ⟨hk, _, hl, a, ha, rfl⟩
    · rw [if_pos hk, rd_noughts]; rfl
    · rw [if_neg hk, rd_grd hl ha]; simp
/-- **WHOLE, OR TOLD TO BE TORN.** -/
theorem whole {sc : List GOp} {k done n m : Nat} {d : St} (h : Inv sc k done n d) (hk : k ≤ m) (f : Fall) {i : Nat} (hi : i < 10) :
    ∃ s, (Dsk.fallGo f 0 d.secs)[i]? = some s ∧ (okTo sc i (sureTo sc i done) (rd s.sure) m || (decide ((rd s.sure).2.2 = 17) && later sc i (sureTo sc i done) m)) = true := by
  obtain ⟨h1, h2, h3⟩ := h
  obtain ⟨s, hs, a1, a2, a3⟩ := h3 i hi
  have hsd := sureTo_le sc i done
  have hsk := sureTo_le sc i k
  -- what becomes of sector i
  have hgo : ∀ (L : List Sec) (q j : Nat) (s : Sec), L[j]? = some s → ∃ q', (Dsk.fallGo f q L)[j]? = some (match s.pend with | some p => Dsk.fallOne f q' s p | none => s) := by
    intro L
    induction L with
    | nil => intro q j s hs; simp at hs
    | cons x r ih =>
      intro q j s hs
      unfold Dsk.fallGo
      cases j with
      | zero =>
        rw [List.getElem?_cons_zero] at hs
        injection hs with hs
        subst hs
        refine ⟨q, ?_⟩
        cases hp : x.pend with
        | none => rfl
        | some p => rfl
      | succ j =>
        rw [List.getElem?_cons_succ] at hs
        cases hp : x.pend with
        | none =>
          obtain ⟨q', hq⟩ := ih q j s hs
          exact ⟨q', by rw [List.getElem?_cons_succ]; exact hq⟩
        | some p =>
          obtain ⟨q', hq⟩ := ih (q + 1) j s hs
          exact ⟨q', by rw [List.getElem?_cons_succ]; exact hq⟩
  obtain ⟨q, hq⟩ := hgo d.secs 0 i s hs
  refine ⟨_, hq, ?_⟩
  have hA : okTo sc i (sureTo sc i done) (rd s.sure) m = true := holds_ok a1 (Nat.le_refl _) (fun e => e) (by omega)
  rcases a3 with ⟨b1, b2⟩ | ⟨p, b1, b2, b3, b4, b5⟩
  · rw [b1]
    dsimp only
    rw [hA, Bool.true_or]
  · rw [b1]
    dsimp only
    have hB : okTo sc i (sureTo sc i done) (rd p.1) m = true := holds_ok b3 (by omega) (fun e => by omega) (by omega)
    have hLat : later sc i (sureTo sc i done) m = true := by
      rcases b3 with ⟨e, _⟩ | ⟨k', o, e, ho, hv, _⟩
      · omega
      · exact later_of (valid_asks ho hv (by omega)) (by omega) m (by omega)
    unfold Dsk.fallOne
    split
    · dsimp only
      have hc := Dsk.cut_lt f
      split
      · rw [List.take_append_drop]
        rw [hB, Bool.true_or]
      · rcases mix b3.cont a1.cont b5 (Dsk.cut f) hc with e | e | e
        · rw [e, hB, Bool.true_or]
        · rw [e, hA, Bool.true_or]
        · rw [decide_eq_true e, hLat]
          simp
    · split
      · dsimp only
        rw [hB, Bool.true_or]
      · dsimp only
        rw [hA, Bool.true_or]
end Grd
end Go.Proofs.YthadcmbbdggneaaGreatDoor
