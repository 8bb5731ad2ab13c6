/-
  StaTwo: the texts StaSpec, EvMem, StaMem, StaMv, StaMap, EvBl, StaInv, StaOwn in one.
-/
import Derived.Test.YtojemaaljjibiaaPStaOne
import Derived.Deep.QuietTactic
import Derived.Test.YtojemaaljjibiaaProg
import Derived.Maps.OwnSet
import Derived.DeepKeys4
namespace Go.Proofs.Ytojemaaljjibiaa
open Go.Op (bytesLess)
set_option linter.unusedVariables false

/-- A checkpoint. -/
structure Pt where
  size : Int
  root : List UInt8
  deriving DecidableEq
/-- What events came to. -/
structure Sta where
  P : List Ent
  Q : List Pt
  now : Int
  deriving DecidableEq
namespace Sta
open Ev (T)
def zero : Sta := ⟨[], [], 0⟩
def hasId (P : List Ent) (id : T) : Bool := P.any fun e => decide (e.id = id)
def taken (P : List Ent) (slot : Int) : Bool := P.any fun e => !e.gone && decide (e.slot = slot)
/-- Why can't a paper come? -/
def paperC (s : Sta) (e : Ent) : Int :=
  if hasId s.P e.id = true then 10 else if 64 ≤ s.P.length then 6 else if s.now < e.born then 24 else if e.gone = false ∧ taken s.P e.slot = true then 25 else 0
def heldC (e : Ent) : Int := if e.H = [] then 0 else 11
def sZ : Slp := ⟨[], [], [], false⟩
/-- Is a slip erased? -/
def gonS (e : Ent) (i : Nat) : Bool := (e.L.getD i sZ).e
/-- Why can't a paper be changed? -/
def changeC (e : Ent) (v : Evt) : Int :=
  if v.kind = 2 then (if (e.L.length : Int) ≤ v.idx then 14 else if gonS e v.idx.toNat = true then 12 else heldC e)
  else if v.kind = 3 then (if e.gone = true then 12 else heldC e)
  else if v.kind = 4 then (if e.gone = true then 12 else if v.name ∈ e.H then 10 else if 4 ≤ e.H.length then 6 else 0)
  else (if v.name ∈ e.H then 0 else 14)
def eZ : Ent := ⟨[], 0, 0, 0, [], false, []⟩
def nth (P : List Ent) (i : Nat) : Ent := P.getD i eZ
/-- Is a checkpoint's size less than the last one's? -/
def lessQ (Q : List Pt) (n : Int) : Bool := match Q.getLast? with | some q => decide (n < q.size) | none => false
/-- Why can't an event come? -/
def check (s : Sta) (v : Evt) : Int :=
  if Ev.right v = false then 4
  else if v.kind = 1 then paperC s v.ent
  else if v.kind = 6 then (if (s.P.length : Int) < v.size ∨ lessQ s.Q v.size = true then 21 else 0)
  else if v.kind = 7 then (if v.now < s.now then 24 else 0)
  else (if (s.P.length : Int) ≤ v.seq then 7 else changeC (nth s.P v.seq.toNat) v)
/-- A slip that is erased. -/
def gonE (x : Slp) : Slp := ⟨x.n, x.p, [], true⟩
/-- Slips, one of which is erased (below 0: all are). -/
def erS (L : List Slp) (i : Int) : List Slp := L.mapIdx fun k x => if i < 0 ∨ (k : Int) = i then gonE x else x
/-- Names that rise, with, or without, one. -/
def hW : List T → T → Bool → List T
  | [], n, w => if w then [n] else []
  | x :: r, n, w => (if w && bytesLess n x then [n] else []) ++ ((if x = n then [] else [x]) ++ hW r n (w && !bytesLess n x))
/-- An event that can comes. -/
def apply (s : Sta) (v : Evt) : Sta :=
  if v.kind = 1 then { s with P := s.P ++ [v.ent] }
  else if v.kind = 2 then { s with P := s.P.modify v.seq.toNat fun e => { e with L := erS e.L v.idx } }
  else if v.kind = 3 then { s with P := s.P.modify v.seq.toNat fun e => { e with L := erS e.L (-1), gone := true } }
  else if v.kind = 4 ∨ v.kind = 5 then { s with P := s.P.modify v.seq.toNat fun e => { e with H := hW e.H v.name (decide (v.kind = 4)) } }
  else if v.kind = 6 then { s with Q := s.Q ++ [⟨v.size, v.root⟩] }
  else { s with now := v.now }
/-- An event comes, or can't. -/
def step (s : Sta) (v : Evt) : Sta := if check s v = 0 then apply s v else s
def run (s : Sta) (l : List Evt) : Sta := l.foldl step s
/-! what a paper never loses -/
/-- Out of a paper came another. -/
structure Out (e f : Ent) : Prop where
  id : f.id = e.id
  cls : f.cls = e.cls
  born : f.born = e.born
  slot : f.slot = e.slot
  len : f.L.length = e.L.length
  gone : e.gone = true → f.gone = true
  slip : ∀ (k : Nat) (x y : Slp), e.L[k]? = some x → f.L[k]? = some y → y.n = x.n ∧ y.p = x.p ∧ (x.e = true → y.e = true)
theorem get_modify (P : List Ent) (i k : Nat) (f : Ent → Ent) : (P.modify i f)[k]? = if i = k then (P[k]?).map f else P[k]? := by
  rw [List.getElem?_modify]
  cases P[k]? with
  | none => split <;> rfl
  | some x => split <;> simp_all
theorem Out.refl (e : Ent) : Out e e := ⟨rfl, rfl, rfl, rfl, rfl, fun a => a, fun k x y h1 h2 => by rw [h1] at h2; injection h2 with h2; subst h2; exact ⟨rfl, rfl, fun a => a⟩⟩
theorem Out.trans {e f g : Ent} (h : Out e f) (k : Out f g) : Out e g := by
  refine ⟨k.id.trans h.id, k.cls.trans h.cls, k.born.trans h.born, k.slot.trans h.slot, k.len.trans h.len, fun a => k.gone (h.gone a), fun i x z h1 h3 => ?_⟩
  have hi : i < f.L.length := by rw [h.len]; exact (List.getElem?_eq_some_iff.1 h1).1
  have h2 := List.getElem?_eq_getElem hi
  obtain ⟨a1, a2, a3⟩ := h.slip i x _ h1 h2
  obtain ⟨b1, b2, b3⟩ := k.slip i _ z h2 h3
  exact ⟨b1.trans a1, b2.trans a2, fun a => b3 (a3 a)⟩
/-- Out of papers came others. -/
def Outs (P R : List Ent) : Prop := P.length ≤ R.length ∧ ∀ (k : Nat) (e f : Ent), P[k]? = some e → R[k]? = some f → Out e f
theorem Outs.refl (P : List Ent) : Outs P P := ⟨Nat.le_refl _, fun k e f h1 h2 => by rw [h1] at h2; injection h2 with h2; subst h2; exact Out.refl _⟩
theorem Outs.trans {P R U : List Ent} (h : Outs P R) (k : Outs R U) : Outs P U := by
  refine ⟨Nat.le_trans h.1 k.1, fun i e g h1 h3 => ?_⟩
  have hi : i < R.length := Nat.lt_of_lt_of_le (List.getElem?_eq_some_iff.1 h1).1 h.1
  have h2 := List.getElem?_eq_getElem hi
  exact (h.2 i e _ h1 h2).trans (k.2 i _ g h2 h3)
theorem erS_len (L : List Slp) (i : Int) : (erS L i).length = L.length := by unfold erS; rw [List.length_mapIdx]
theorem erS_get (L : List Slp) (i : Int) (k : Nat) : (erS L i)[k]? = (L[k]?).map fun x => if i < 0 ∨ (k : Int) = i then gonE x else x := by unfold erS; rw [List.getElem?_mapIdx]
/-! what is held -/
end Sta
end Go.Proofs.Ytojemaaljjibiaa

namespace Go.Proofs.Ytojemaaljjibiaa
open Go.RowKit
open Go.Op (bytesLess)
set_option linter.unusedVariables false

theorem evDrew {B : Nat} {w w1 : World} (h : Below B w w1) (k : Nat) : Below B w (w1.drewN k) := h.trans ⟨rfl, rfl, rfl, Nat.le_refl _, fun _ _ => rfl⟩
/-- The seven cells of a paper as it is kept. -/
def Ent.cs (e : Ent) (A : Option Addr) (ca : Nat) (B : Option Addr) (cb : Nat) : List Value := [.string (S e.id), .int .i64 e.cls, .int .i64 e.born, .int .i64 e.slot, .slice A e.L.length ca, .bool e.gone, .slice B e.H.length cb]
/-- The fourteen cells of an event. -/
def Evt.cs (v : Evt) (A : Option Addr) (ca : Nat) (B : Option Addr) (cb : Nat) : List Value :=
  .int .i64 v.kind :: (v.ent.cs A ca B cb ++ [.int .i64 v.seq, .int .i64 v.idx, .string (S v.name), .int .i64 v.size, .string (S v.root), .int .i64 v.now])
/-- A paper's rows, in blocks that are none of s. -/
structure EntIn (w : World) (s : List Nat) (e : Ent) (A : Option Addr) (ca : Nat) (B : Option Addr) (cb : Nat) : Prop where
  rl : RowC w s A (svs e.L)
  rh : RowC w s B (tvs e.H)
  la : e.L.length ≤ ca
  ma : ca ≤ 9223372036854775807
  lb : e.H.length ≤ cb
  mb : cb ≤ 9223372036854775807
section
variable {w w' : World} {s t : List Nat} {e : Ent} {A B : Option Addr} {ca cb : Nat}
theorem EntIn.mv (h : EntIn w s e A ca B cb) (hm : Mv w w' t) (ht : ∀ x ∈ t, x ∈ s) : EntIn w' s e A ca B cb := ⟨h.rl.mv hm ht, h.rh.mv hm ht, h.la, h.ma, h.lb, h.mb⟩
theorem EntIn.below (h : EntIn w s e A ca B cb) (hb : Below w.heap.size w w') : EntIn w' s e A ca B cb := ⟨h.rl.below hb, h.rh.below hb, h.la, h.ma, h.lb, h.mb⟩
theorem EntIn.sub (h : EntIn w s e A ca B cb) (hs : ∀ x ∈ t, x ∈ s) : EntIn w t e A ca B cb := ⟨h.rl.sub hs, h.rh.sub hs, h.la, h.ma, h.lb, h.mb⟩
theorem EntIn.at {w0 W : World} (h : EntIn w0 [] e A ca B cb) (hb : Below w0.heap.size w0 W) (hs : ∀ x ∈ s, w0.heap.size ≤ x) : EntIn W s e A ca B cb := ⟨RowCA.at h.rl hb hs, RowCA.at h.rh hb hs, h.la, h.ma, h.lb, h.mb⟩
theorem RowT.get {L : List (List UInt8)} (h : RowC w s A (tvs L)) (k : Nat) (hk : k < L.length) : ∃ b off, A = some ⟨b, off, none⟩ ∧ b < w.heap.size ∧ b ∉ s ∧ w.cell? ⟨b, off + k, none⟩ = some (.string (S (L[k]))) := by
  obtain ⟨b, off, hA, hb, hn, hr⟩ := h (fun e => by
    have : (tvs L).length = L.length := by unfold tvs; rw [List.length_map]
    rw [e, List.length_nil] at this
    omega)
  exact ⟨b, off, hA, hb, hn, hr k _ (by unfold tvs; rw [List.getElem?_map, List.getElem?_eq_getElem hk]; rfl)⟩
end
namespace Ev
theorem getD_at {α : Type} {L : List α} {i : Nat} (h : i < L.length) {d : α} : L.getD i d = L[i] := by rw [List.getD_eq_getElem?_getD, List.getElem?_eq_getElem h]; rfl
/-- All below k are so. -/
def upTo (f : Nat → Bool) : Nat → Bool
  | 0 => true
  | k + 1 => upTo f k && f k
theorem upTo_iff (f : Nat → Bool) : ∀ k, upTo f k = true ↔ ∀ i, i < k → f i = true := by
  intro k
  induction k with
  | zero => exact ⟨fun _ i h => absurd h (Nat.not_lt_zero _), fun _ => rfl⟩
  | succ k ih =>
    show (upTo f k && f k) = true ↔ _
    rw [Bool.and_eq_true, ih]
    constructor
    · rintro ⟨h1, h2⟩ i hi
      by_cases e : i = k
      · rw [e]; exact h2
      · exact h1 i (by omega)
    · exact fun h => ⟨fun i hi => h i (by omega), h k (by omega)⟩
/-- Is the one at i ahead of none, or behind the one before it? -/
def aft1 (H : List T) (i : Nat) : Bool := i == 0 || bytesLess (H.getD (i - 1) []) (H.getD i [])
theorem rise_iff : ∀ (H : List T), rise H = true ↔ ∀ i, i < H.length → aft1 H i = true := by
  intro H
  induction H with
  | nil => exact ⟨fun _ i h => absurd h (Nat.not_lt_zero _), fun _ => rfl⟩
  | cons a r ih =>
    cases r with
    | nil =>
      refine ⟨fun _ i h => ?_, fun _ => rfl⟩
      have : i = 0 := by simpa using h
      subst this
      rfl
    | cons b r =>
      show (bytesLess a b && rise (b :: r)) = true ↔ _
      rw [Bool.and_eq_true, ih]
      constructor
      · rintro ⟨h1, h2⟩ i hi
        cases i with
        | zero => rfl
        | succ i =>
          cases i with
          | zero => exact h1
          | succ i =>
            have := h2 (i + 1) (by simpa using hi)
            exact this
      · intro h
        refine ⟨h 1 (by simp), fun i hi => ?_⟩
        cases i with
        | zero => rfl
        | succ i => exact h (i + 2) (by simpa using hi)
/-- What the loops ask of a hold, of a slip. -/
def holdOk (H : List T) (i : Nat) : Bool := Pap.word 16 (H.getD i []) && aft1 H i
def zSlp : Slp := ⟨[], [], [], false⟩
def slpOk (g : Bool) (L : List Slp) (i : Nat) : Bool := slipR g (L.getD i zSlp) && aft1 (L.map Slp.n) i
theorem holds_all (H : List T) : upTo (holdOk H) H.length = (H.all (Pap.word 16) && rise H) := by
  rw [Bool.eq_iff_iff, upTo_iff, Bool.and_eq_true, rise_iff, List.all_eq_true]
  constructor
  · intro h
    refine ⟨fun x hx => ?_, fun i hi => ?_⟩
    · obtain ⟨i, hi, rfl⟩ := List.getElem_of_mem hx
      have := h i hi
      unfold holdOk at this
      rw [Bool.and_eq_true, getD_at hi] at this
      exact this.1
    · have := h i hi
      unfold holdOk at this
      rw [Bool.and_eq_true] at this
      exact this.2
  · rintro ⟨h1, h2⟩ i hi
    unfold holdOk
    rw [Bool.and_eq_true, getD_at hi]
    exact ⟨h1 _ (List.getElem_mem hi), h2 i hi⟩
theorem slips_all (g : Bool) (L : List Slp) : upTo (slpOk g L) L.length = (L.all (slipR g) && rise (L.map Slp.n)) := by
  rw [Bool.eq_iff_iff, upTo_iff, Bool.and_eq_true, rise_iff, List.all_eq_true, List.length_map]
  constructor
  · intro h
    refine ⟨fun x hx => ?_, fun i hi => ?_⟩
    · obtain ⟨i, hi, rfl⟩ := List.getElem_of_mem hx
      have := h i hi
      unfold slpOk at this
      rw [Bool.and_eq_true, getD_at hi] at this
      exact this.1
    · have := h i hi
      unfold slpOk at this
      rw [Bool.and_eq_true] at this
      exact this.2
  · rintro ⟨h1, h2⟩ i hi
    unfold slpOk
    rw [Bool.and_eq_true, getD_at hi]
    exact ⟨h1 _ (List.getElem_mem hi), h2 i hi⟩
/-- What is asked first of a paper, and next. -/
def ent0 (e : Ent) : Bool := Pap.word 24 e.id && rng e.cls 7 && rng e.born 1099511627776 && rng e.slot 63
def ent1 (e : Ent) : Bool := ent0 e && decide (1 ≤ e.L.length ∧ e.L.length ≤ 12) && decide (e.H.length ≤ 4)
theorem entR_eq (e : Ent) : entR e = (ent1 e && upTo (holdOk e.H) e.H.length && upTo (slpOk e.gone e.L) e.L.length) := by
  rw [holds_all, slips_all]
  rfl
/-- The four ways of a chain of questions on numbers. -/
theorem ent0_ways (e : Ent) : (Pap.word 24 e.id = false ∧ ent0 e = false) ∨ (Pap.word 24 e.id = true ∧ ¬ (0 : Int) ≤ e.cls ∧ ent0 e = false) ∨ (Pap.word 24 e.id = true ∧ (0 : Int) ≤ e.cls ∧ ¬ e.cls ≤ 7 ∧ ent0 e = false) ∨
    (Pap.word 24 e.id = true ∧ (0 : Int) ≤ e.cls ∧ e.cls ≤ 7 ∧ ¬ (0 : Int) ≤ e.born ∧ ent0 e = false) ∨ (Pap.word 24 e.id = true ∧ (0 : Int) ≤ e.cls ∧ e.cls ≤ 7 ∧ (0 : Int) ≤ e.born ∧ ¬ e.born ≤ 1099511627776 ∧ ent0 e = false) ∨
    (Pap.word 24 e.id = true ∧ (0 : Int) ≤ e.cls ∧ e.cls ≤ 7 ∧ (0 : Int) ≤ e.born ∧ e.born ≤ 1099511627776 ∧ ¬ (0 : Int) ≤ e.slot ∧ ent0 e = false) ∨
    (Pap.word 24 e.id = true ∧ (0 : Int) ≤ e.cls ∧ e.cls ≤ 7 ∧ (0 : Int) ≤ e.born ∧ e.born ≤ 1099511627776 ∧ (0 : Int) ≤ e.slot ∧ ¬ e.slot ≤ 63 ∧ ent0 e = false) ∨
    (Pap.word 24 e.id = true ∧ (0 : Int) ≤ e.cls ∧ e.cls ≤ 7 ∧ (0 : Int) ≤ e.born ∧ e.born ≤ 1099511627776 ∧ (0 : Int) ≤ e.slot ∧ e.slot ≤ 63 ∧ ent0 e = true) := by
  have h : ∀ b : Bool, ent0 e = b ↔ (Pap.word 24 e.id && rng e.cls 7 && rng e.born 1099511627776 && rng e.slot 63) = b := fun b => Iff.rfl
  simp only [h]
  unfold rng
  cases Pap.word 24 e.id
  · simp
  · by_cases a1 : (0 : Int) ≤ e.cls
    · by_cases a2 : e.cls ≤ 7
      · by_cases a3 : (0 : Int) ≤ e.born
        · by_cases a4 : e.born ≤ 1099511627776
          · by_cases a5 : (0 : Int) ≤ e.slot
            · by_cases a6 : e.slot ≤ 63 <;> simp [a1, a2, a3, a4, a5, a6]
            · simp [a1, a2, a3, a4, a5]
          · simp [a1, a2, a3, a4]
        · simp [a1, a2, a3]
      · simp [a1, a2]
    · simp [a1]
end Ev
end Go.Proofs.Ytojemaaljjibiaa

namespace Go.Proofs.Ytojemaaljjibiaa
open Go.RowKit
set_option linter.unusedVariables false

/-- A paper as it is kept, and where its rows lie. -/
structure EntX where
  e : Ent
  A : Option Addr
  ca : Nat
  B : Option Addr
  cb : Nat
def EntX.cs (x : EntX) : List Value := x.e.cs x.A x.ca x.B x.cb
theorem EntX.cs_len (x : EntX) : x.cs.length = 7 := rfl
def EntX.val (x : EntX) : Value := .agg #[.string (S x.e.id), .int .i64 x.e.cls, .int .i64 x.e.born, .int .i64 x.e.slot, .slice x.A x.e.L.length x.ca, .bool x.e.gone, .slice x.B x.e.H.length x.cb]
def xcs (M : List EntX) : List Value := M.flatMap EntX.cs
theorem xcs_len (M : List EntX) : (xcs M).length = M.length * 7 := flat_len EntX.cs 7 EntX.cs_len M
theorem xcs_snoc (M : List EntX) (x : EntX) : xcs M ++ x.cs = xcs (M ++ [x]) := by unfold xcs; rw [List.flatMap_append, List.flatMap_singleton]
/-- Checkpoints as values. -/
def Pt.cs (q : Pt) : List Value := [.int .i64 q.size, .string (S q.root)]
theorem Pt.cs_len (q : Pt) : q.cs.length = 2 := rfl
def qcs (Q : List Pt) : List Value := Q.flatMap Pt.cs
theorem qcs_len (Q : List Pt) : (qcs Q).length = Q.length * 2 := flat_len Pt.cs 2 Pt.cs_len Q
theorem qcs_snoc (Q : List Pt) (q : Pt) : qcs Q ++ q.cs = qcs (Q ++ [q]) := by unfold qcs; rw [List.flatMap_append, List.flatMap_singleton]
/-- Where a paper's rows lie, in blocks none of s. -/
abbrev XIn (w : World) (s : List Nat) (x : EntX) : Prop := EntIn w s x.e x.A x.ca x.B x.cb
/-- Seven cells at an offset. -/
def XAt (W : World) (b o : Nat) (x : EntX) : Prop :=
  W.cell? ⟨b, o, none⟩ = some (.string (S x.e.id)) ∧ W.cell? ⟨b, o + 1, none⟩ = some (.int .i64 x.e.cls) ∧ W.cell? ⟨b, o + 2, none⟩ = some (.int .i64 x.e.born) ∧ W.cell? ⟨b, o + 3, none⟩ = some (.int .i64 x.e.slot) ∧
    W.cell? ⟨b, o + 4, none⟩ = some (.slice x.A x.e.L.length x.ca) ∧ W.cell? ⟨b, o + 5, none⟩ = some (.bool x.e.gone) ∧ W.cell? ⟨b, o + 6, none⟩ = some (.slice x.B x.e.H.length x.cb)
theorem XAt.of {W : World} {b o : Nat} {x : EntX} {cs : List Value} {k : Nat} (h : ∀ j, j < 7 → cs[k * 7 + j]? = x.cs[j]?) (hr : ∀ j u, cs[j]? = some u → W.cell? ⟨b, o + j, none⟩ = some u) : XAt W b (o + k * 7) x := by
  refine ⟨?_, ?_, ?_, ?_, ?_, ?_, ?_⟩
  · exact hr (k * 7) _ ((h 0 (by omega)).trans rfl)
  all_goals rw [Nat.add_assoc]
  · exact hr (k * 7 + 1) _ ((h 1 (by omega)).trans rfl)
  · exact hr (k * 7 + 2) _ ((h 2 (by omega)).trans rfl)
  · exact hr (k * 7 + 3) _ ((h 3 (by omega)).trans rfl)
  · exact hr (k * 7 + 4) _ ((h 4 (by omega)).trans rfl)
  · exact hr (k * 7 + 5) _ ((h 5 (by omega)).trans rfl)
  · exact hr (k * 7 + 6) _ ((h 6 (by omega)).trans rfl)
theorem XAt.below {w w' : World} {b o : Nat} {x : EntX} (h : XAt w b o x) (hb : Below w.heap.size w w') (hlt : b < w.heap.size) : XAt w' b o x := by
  obtain ⟨h0, h1, h2, h3, h4, h5, h6⟩ := h
  have m := fun (i : Nat) (v : Value) (hc : w.cell? ⟨b, i, none⟩ = some v) => (hb.cell (p := ⟨b, i, none⟩) hlt).trans hc
  exact ⟨m _ _ h0, m _ _ h1, m _ _ h2, m _ _ h3, m _ _ h4, m _ _ h5, m _ _ h6⟩
/-- Papers in a row that reads so, in a block none of s. -/
structure RowX (w : World) (s : List Nat) (A : Option Addr) (M : List EntX) : Prop where
  row : RowC w s A (xcs M)
  ents : ∀ x ∈ M, XIn w s x
theorem RowX.get {w : World} {s : List Nat} {A : Option Addr} {M : List EntX} (h : RowX w s A M) (k : Nat) (hk : k < M.length) : ∃ b off, A = some ⟨b, off, none⟩ ∧ b < w.heap.size ∧ b ∉ s ∧ XAt w b (off + k * 7) M[k] := by
  obtain ⟨b, off, hA, hb, hn, hr⟩ := h.row (fun e => by
    have := xcs_len M
    rw [e, List.length_nil] at this
    omega)
  exact ⟨b, off, hA, hb, hn, XAt.of (fun j hj => flat_get EntX.cs 7 EntX.cs_len M k hk j hj) hr⟩
theorem RowX.mv {w w' : World} {s t : List Nat} {A : Option Addr} {M : List EntX} (h : RowX w s A M) (hm : Mv w w' t) (ht : ∀ x ∈ t, x ∈ s) : RowX w' s A M := ⟨h.row.mv hm ht, fun x hx => (h.ents x hx).mv hm ht⟩
theorem RowX.below {w w' : World} {s : List Nat} {A : Option Addr} {M : List EntX} (h : RowX w s A M) (hb : Below w.heap.size w w') : RowX w' s A M := ⟨h.row.below hb, fun x hx => (h.ents x hx).below hb⟩
theorem RowX.sub {w : World} {s t : List Nat} {A : Option Addr} {M : List EntX} (h : RowX w s A M) (hs : ∀ x ∈ t, x ∈ s) : RowX w t A M := ⟨h.row.sub hs, fun x hx => (h.ents x hx).sub hs⟩
/-- Checkpoints in a row. -/
abbrev RowQt (w : World) (s : List Nat) (A : Option Addr) (Q : List Pt) : Prop := RowC w s A (qcs Q)
theorem RowQt.get {w : World} {s : List Nat} {A : Option Addr} {Q : List Pt} (h : RowQt w s A Q) (k : Nat) (hk : k < Q.length) : ∃ b off, A = some ⟨b, off, none⟩ ∧ b < w.heap.size ∧ b ∉ s ∧ w.cell? ⟨b, off + k * 2, none⟩ = some (.int .i64 (Q[k]).size) ∧ w.cell? ⟨b, off + k * 2 + 1, none⟩ = some (.string (S (Q[k]).root)) := by
  obtain ⟨b, off, hA, hb, hn, hr⟩ := h (fun e => by
    have := qcs_len Q
    rw [e, List.length_nil] at this
    omega)
  have hg := fun j (hj : j < 2) => flat_get Pt.cs 2 Pt.cs_len Q k hk j hj
  refine ⟨b, off, hA, hb, hn, ?_, ?_⟩
  · exact hr (k * 2) _ ((hg 0 (by omega)).trans rfl)
  · rw [Nat.add_assoc]; exact hr (k * 2 + 1) _ ((hg 1 (by omega)).trans rfl)
/-- The reference's state lies in block p; its rows in the blocks of s. -/
structure RefAt (w : World) (p : Nat) (s ot : List Nat) (M : List EntX) (Q : List Pt) (now : Int) : Prop where
  ex : ∃ A ca B cb, Has w p 29 #[.slice A M.length ca, .slice B Q.length cb, .int .i64 now] ∧ w.ownsRow 0 33 7 (.slice A M.length ca) M.length (xcs M) ∧ w.ownsRow 0 35 2 (.slice B Q.length cb) Q.length (qcs Q) ∧
    s = (Value.slice A M.length ca).ownBlock.toList ++ (Value.slice B Q.length cb).ownBlock.toList
  nd : (p :: s).Nodup
  ents : ∀ x ∈ M, XIn w ((p :: s) ++ ot) x
  ul : ∀ x ∈ ot, x < w.heap.size
theorem own_keepB {w w' : World} {B e n k : Nat} {v : Value} {xs : List Value} (h : w.ownsRow B e n v k xs) (hk : ∀ b, v.ownBlock = some b → w'.heap[b]? = w.heap[b]?) : w'.ownsRow B e n v k xs := by
  refine ⟨h.1, ?_⟩
  rcases h.2 with hh | ⟨g, cap, cur, rfl, hB, hg, hr⟩
  · exact Or.inl hh
  · exact Or.inr ⟨g, cap, cur, rfl, hB, (hk g rfl).trans hg, hr⟩
theorem RefAt.lt {w : World} {p : Nat} {s ot : List Nat} {M : List EntX} {Q : List Pt} {now : Int} (h : RefAt w p s ot M Q now) : p < w.heap.size ∧ ∀ x ∈ s, x < w.heap.size := by
  obtain ⟨A, ca, B, cb, h1, h2, h3, rfl⟩ := h.ex
  refine ⟨h1.lt, fun x hx => ?_⟩
  rcases List.mem_append.1 hx with hx | hx
  · exact (h2.lt x (Option.mem_toList.1 hx)).2
  · exact (h3.lt x (Option.mem_toList.1 hx)).2
theorem RefAt.mv {w w' : World} {p : Nat} {s t ot : List Nat} {M : List EntX} {Q : List Pt} {now : Int} (h : RefAt w p s ot M Q now) (hm : Mv w w' t) (ht : ∀ x ∈ t, x ≠ p ∧ x ∉ s) (he : ∀ x ∈ M, XIn w' ((p :: s) ++ ot) x) : RefAt w' p s ot M Q now := by
  obtain ⟨A, ca, B, cb, h1, h2, h3, rfl⟩ := h.ex
  have hk : ∀ b, b ∈ (Value.slice A M.length ca).ownBlock.toList ++ (Value.slice B Q.length cb).ownBlock.toList → b < w.heap.size → w'.heap[b]? = w.heap[b]? := fun b hb hlt => hm.block b hlt (fun hx => (ht b hx).2 hb)
  refine ⟨⟨A, ca, B, cb, hm.has h1 (fun hx => (ht p hx).1 rfl), own_keepB h2 (fun b hb => hk b (List.mem_append.2 (Or.inl (Option.mem_toList.2 hb))) (h2.lt b hb).2), own_keepB h3 (fun b hb => hk b (List.mem_append.2 (Or.inr (Option.mem_toList.2 hb))) (h3.lt b hb).2), rfl⟩, h.nd, he, fun x hx => Nat.lt_of_lt_of_le (h.ul x hx) hm.size⟩
theorem RefAt.below {w w' : World} {p : Nat} {s ot : List Nat} {M : List EntX} {Q : List Pt} {now : Int} (h : RefAt w p s ot M Q now) (hb : Below w.heap.size w w') : RefAt w' p s ot M Q now :=
  h.mv (Mv.of_below hb []) (by simp) (fun x hx => (h.ents x hx).below hb)
/-- What is read of the reference's state. -/
theorem RefAt.reads {w : World} {p : Nat} {s ot : List Nat} {M : List EntX} {Q : List Pt} {now : Int} (h : RefAt w p s ot M Q now) : ∃ A ca B cb, Has w p 29 #[.slice A M.length ca, .slice B Q.length cb, .int .i64 now] ∧ M.length ≤ ca ∧ Q.length ≤ cb ∧ cb ≤ 9223372036854775807 ∧
    (∀ k (hk : k < M.length), ∃ b, A = some ⟨b, 0, none⟩ ∧ b < w.heap.size ∧ XAt w b (k * 7) M[k]) ∧ (∀ k (hk : k < Q.length), ∃ b, B = some ⟨b, 0, none⟩ ∧ b < w.heap.size ∧ w.cell? ⟨b, k * 2, none⟩ = some (.int .i64 (Q[k]).size) ∧ w.cell? ⟨b, k * 2 + 1, none⟩ = some (.string (S (Q[k]).root))) := by
  obtain ⟨A, ca, B, cb, h1, h2, h3, _⟩ := h.ex
  have rowOf : ∀ {e n k : Nat} {A : Option Addr} {c : Nat} {xs : List Value}, 0 < n → w.ownsRow 0 e n (.slice A k c) k xs → (k ≤ c ∧ c ≤ 9223372036854775807) ∧ (k ≠ 0 → ∃ b, A = some ⟨b, 0, none⟩ ∧ b < w.heap.size ∧ ∀ j u, xs[j]? = some u → w.cell? ⟨b, j, none⟩ = some u) := fun {e n k A c xs} hn ho => by
    obtain ⟨hl, hh⟩ := id ho
    rcases hh with ⟨e1, e2⟩ | ⟨g, cap, cur, e1, _, hg, hc, hcm, _⟩
    · injection e1 with _ _ e3
      exact ⟨⟨by rw [e2]; exact Nat.zero_le _, by rw [e3]; exact Nat.zero_le _⟩, fun h0 => absurd e2 h0⟩
    · injection e1 with e1 _ e3
      subst e3
      refine ⟨⟨hc, by simpa only [maxLen] using hcm⟩, fun _ => ⟨g, e1, (Array.getElem?_eq_some_iff.1 hg).1, fun j u hu => ?_⟩⟩
      have := ho.cells (g := g) (by rw [e1]; rfl) j u hu
      rwa [add_flat', Nat.zero_add] at this
  obtain ⟨c1, r1⟩ := rowOf (by decide) h2
  obtain ⟨c2, r2⟩ := rowOf (by decide) h3
  refine ⟨A, ca, B, cb, h1, c1.1, c2.1, c2.2, fun k hk => ?_, fun k hk => ?_⟩
  · obtain ⟨b, hA, hb, hr⟩ := r1 (by omega)
    refine ⟨b, hA, hb, ?_⟩
    have := XAt.of (W := w) (b := b) (o := 0) (x := M[k]) (k := k) (fun j hj => flat_get EntX.cs 7 EntX.cs_len M k hk j hj) (fun j u hu => by rw [Nat.zero_add]; exact hr j u hu)
    rwa [Nat.zero_add] at this
  · obtain ⟨b, hA, hb, hr⟩ := r2 (by omega)
    have hg := fun j (hj : j < 2) => flat_get Pt.cs 2 Pt.cs_len Q k hk j hj
    exact ⟨b, hA, hb, hr (k * 2) _ ((hg 0 (by omega)).trans rfl), hr (k * 2 + 1) _ ((hg 1 (by omega)).trans rfl)⟩
/-- The reference's state, as a state. -/
def RefS (w : World) (p : Nat) (s ot : List Nat) (st : Sta) : Prop := ∃ M : List EntX, M.map EntX.e = st.P ∧ RefAt w p s ot M st.Q st.now
theorem RefS.below {w w' : World} {p : Nat} {s ot : List Nat} {st : Sta} (h : RefS w p s ot st) (hb : Below w.heap.size w w') : RefS w' p s ot st := by
  obtain ⟨M, h1, h2⟩ := h
  exact ⟨M, h1, h2.below hb⟩
end Go.Proofs.Ytojemaaljjibiaa

namespace Go.Proofs.Ytojemaaljjibiaa
open Go.RowKit
set_option linter.unusedVariables false

theorem RowC.more {w w' : World} {p : Nat} {s s' ot : List Nat} {A : Option Addr} {cs : List Value} (h : RowC w ((p :: s) ++ ot) A cs) (hm : Mv w w' (p :: s)) (hs : ∀ x ∈ s', x ∈ s ∨ w.heap.size ≤ x) : RowC w' ((p :: s') ++ ot) A cs := fun hl => by
  obtain ⟨b, off, hA, hb, hn, hr⟩ := h hl
  refine ⟨b, off, hA, Nat.lt_of_lt_of_le hb hm.size, fun hx => ?_, fun j u hu => World.cell_block (hm.block b hb (fun hx => hn (List.mem_append_left ot hx))) (hr j u hu)⟩
  rcases List.mem_append.1 hx with hx | hx
  · rcases List.mem_cons.1 hx with hx | hx
    · exact hn (List.mem_append_left ot (by rw [hx]; exact List.mem_cons_self ..))
    · rcases hs b hx with h1 | h1
      · exact hn (List.mem_append_left ot (List.mem_cons_of_mem _ h1))
      · omega
  · exact hn (List.mem_append_right _ hx)
theorem XIn.more {w w' : World} {p : Nat} {s s' ot : List Nat} {x : EntX} (h : XIn w ((p :: s) ++ ot) x) (hm : Mv w w' (p :: s)) (hs : ∀ y ∈ s', y ∈ s ∨ w.heap.size ≤ y) : XIn w' ((p :: s') ++ ot) x := ⟨h.rl.more hm hs, h.rh.more hm hs, h.la, h.ma, h.lb, h.mb⟩
theorem flat_set {α : Type} (f : α → List Value) (n : Nat) (hf : ∀ a, (f a).length = n) (L : List α) (k : Nat) (hk : k < L.length) (y : α) (j : Nat) (hj : j < n) (u : Value) (hy : f y = (f L[k]).set j u) : (L.set k y).flatMap f = (L.flatMap f).set (k * n + j) u := by
  have hl1 := flat_len f n hf L
  have hl2 := flat_len f n hf (L.set k y)
  rw [List.length_set] at hl2
  have hkn : k * n + n ≤ L.length * n := by rw [← Nat.succ_mul]; exact Nat.mul_le_mul_right n hk
  apply List.ext_getElem?
  intro t
  by_cases ht : t < L.length * n
  · have hn : 0 < n := by omega
    have hi : t / n < L.length := Nat.div_lt_of_lt_mul (by rw [Nat.mul_comm]; exact ht)
    have hr : t % n < n := Nat.mod_lt _ hn
    have et : t / n * n + t % n = t := by rw [Nat.mul_comm]; exact Nat.div_add_mod t n
    have h1 := flat_get f n hf (L.set k y) (t / n) (by rw [List.length_set]; exact hi) (t % n) hr
    have h2 := flat_get f n hf L (t / n) hi (t % n) hr
    rw [et] at h1 h2
    rw [h1, List.getElem?_set, List.getElem_set]
    by_cases hkt : k = t / n
    · subst hkt
      rw [if_pos rfl, hy, List.getElem?_set, hf]
      by_cases hjt : j = t % n
      · subst hjt
        rw [if_pos rfl, if_pos hr, if_pos et, if_pos (by rw [hl1]; omega)]
      · rw [if_neg hjt, if_neg (by omega)]; exact h2.symm
    · rw [if_neg hkt, if_neg ?_]
      · exact h2.symm
      · intro e
        apply hkt
        rw [← e, Nat.add_comm, Nat.add_mul_div_right _ _ hn, Nat.div_eq_of_lt hj, Nat.zero_add]
  · rw [List.getElem?_eq_none (by omega), List.getElem?_eq_none (by rw [List.length_set]; omega)]
/-- A cell of an own row is written. -/
theorem own_set {w : World} {e n k : Nat} {b c : Nat} {xs : List Value} (h : w.ownsRow 0 e n (.slice (some ⟨b, 0, none⟩) k c) k xs) (j : Nat) (hj : j < k * n) (u : Value) : (w.setCell ⟨b, j, none⟩ u).ownsRow 0 e n (.slice (some ⟨b, 0, none⟩) k c) k (xs.set j u) := by
  refine ⟨by rw [List.length_set]; exact h.1, ?_⟩
  rcases h.2 with ⟨e1, _⟩ | ⟨g, cap, cur, e1, hb, hg, hc, hm, hs, ht⟩
  · cases e1
  · injection e1 with e1 _ e3
    injection e1 with e1
    injection e1 with e1
    subst e1
    subst e3
    refine .inr ⟨b, c, cur.setIfInBounds j u, rfl, hb, (show Has (w.setCell ⟨b, j, none⟩ u) b e (cur.setIfInBounds j u) from Has.set hg j u), hc, hm, by rw [Array.size_setIfInBounds]; exact hs, ?_⟩
    rw [← ht, Array.toList_setIfInBounds, List.take_set]
theorem own_other {w : World} {e n k : Nat} {v : Value} {xs : List Value} (h : w.ownsRow 0 e n v k xs) {b : Nat} (hb : v.ownBlock ≠ some b) (j : Nat) (u : Value) : (w.setCell ⟨b, j, none⟩ u).ownsRow 0 e n v k xs :=
  own_keepB h (fun g hg => Below.heap_setCell w ⟨b, j, none⟩ u g (fun e => hb (by rw [hg, e])))
/-- A paper's cell is written. -/
theorem RefAt.setk {w : World} {p : Nat} {s ot : List Nat} {M : List EntX} {Q : List Pt} {now : Int} (h : RefAt w p s ot M Q now) {k : Nat} (hk : k < M.length) {b : Nat} {ca0 : Nat} (hb : w.cell? ⟨p, 0, none⟩ = some (.slice (some ⟨b, 0, none⟩) M.length ca0)) (j : Nat) (hj : j < 7) (u : Value) (y : EntX) (hy : y.cs = M[k].cs.set j u) (hin : XIn w ((p :: s) ++ ot) y) :
    RefAt (w.setCell ⟨b, k * 7 + j, none⟩ u) p s ot (M.set k y) Q now ∧ Mv w (w.setCell ⟨b, k * 7 + j, none⟩ u) (p :: s) := by
  obtain ⟨A, ca, B, cb, h1, h2, h3, h4⟩ := h.ex
  have hc := hb
  have hc0 : w.cell? ⟨p, 0, none⟩ = some (.slice A M.length ca) := h1.cell 0
  rw [hc0] at hc
  injection hc with hc
  injection hc with hA _ _
  subst hA
  have hbs : b ∈ s := by rw [h4]; exact List.mem_append.2 (Or.inl (List.mem_singleton.2 rfl))
  have hpb : p ≠ b := fun e => by have := (List.nodup_cons.1 h.nd).1; rw [e] at this; exact this hbs
  have hqb : (Value.slice B Q.length cb).ownBlock ≠ some b := fun e => by
    have hn := (List.nodup_cons.1 h.nd).2
    rw [h4, e] at hn
    simp [Value.ownBlock] at hn
  have hm : Mv w (w.setCell ⟨b, k * 7 + j, none⟩ u) (p :: s) := Mv.of_only (Only.set w b (k * 7 + j) u) (List.mem_cons_of_mem _ hbs)
  have hset : xcs (M.set k y) = (xcs M).set (k * 7 + j) u := flat_set EntX.cs 7 EntX.cs_len M k hk y j hj u hy
  have ho := own_set h2 (k * 7 + j) (by omega) u
  rw [← hset] at ho
  refine ⟨⟨⟨some ⟨b, 0, none⟩, ca, B, cb, ?_, ?_, own_other h3 hqb _ _, ?_⟩, h.nd, fun x hx => ?_, fun x hx => Nat.lt_of_lt_of_le (h.ul x hx) hm.size⟩, hm⟩
  · rw [List.length_set]; exact h1.other (p := ⟨b, k * 7 + j, none⟩) (fun e => hpb e) u
  · rw [List.length_set]; exact ho
  · rw [List.length_set]; exact h4
  · rcases List.mem_or_eq_of_mem_set hx with hx | rfl
    · exact (h.ents x hx).mv hm (fun z hz => List.mem_append_left ot hz)
    · exact hin.mv hm (fun z hz => List.mem_append_left ot hz)
/-- The time is written. -/
theorem RefAt.setNow {w : World} {p : Nat} {s ot : List Nat} {M : List EntX} {Q : List Pt} {now : Int} (h : RefAt w p s ot M Q now) (n : Int) :
    RefAt (w.setCell ⟨p, 2, none⟩ (.int .i64 n)) p s ot M Q n ∧ Mv w (w.setCell ⟨p, 2, none⟩ (.int .i64 n)) (p :: s) := by
  obtain ⟨A, ca, B, cb, h1, h2, h3, h4⟩ := h.ex
  have hps := (List.nodup_cons.1 h.nd).1
  have hm : Mv w (w.setCell ⟨p, 2, none⟩ (.int .i64 n)) (p :: s) := Mv.of_only (Only.set w p 2 (.int .i64 n)) (List.mem_cons_self ..)
  have na : (Value.slice A M.length ca).ownBlock ≠ some p := fun e => hps (by rw [h4, e]; simp)
  have nb : (Value.slice B Q.length cb).ownBlock ≠ some p := fun e => hps (by rw [h4, e]; simp)
  exact ⟨⟨⟨A, ca, B, cb, h1.set 2 _, own_other h2 na _ _, own_other h3 nb _ _, h4⟩, h.nd, fun x hx => (h.ents x hx).mv hm (fun z hz => List.mem_append_left ot hz), fun x hx => Nat.lt_of_lt_of_le (h.ul x hx) hm.size⟩, hm⟩
/-- The papers' row has grown by one. -/
theorem RefAt.pushP {w w3 : World} {p : Nat} {s ot : List Nat} {M : List EntX} {Q : List Pt} {now : Int} {A : Option Addr} {ca : Nat} {B : Option Addr} {cb : Nat} (h1 : Has w p 29 #[.slice A M.length ca, .slice B Q.length cb, .int .i64 now]) (h2 : w.ownsRow 0 33 7 (.slice A M.length ca) M.length (xcs M)) (h3 : w.ownsRow 0 35 2 (.slice B Q.length cb) Q.length (qcs Q))
    (h4 : s = (Value.slice A M.length ca).ownBlock.toList ++ (Value.slice B Q.length cb).ownBlock.toList) (nd : (p :: s).Nodup) (ents : ∀ x ∈ M, XIn w ((p :: s) ++ ot) x) (ul : ∀ x ∈ ot, x < w.heap.size) {x : EntX} (hx : XIn w ((p :: s) ++ ot) x)
    {g cap : Nat} (ho : w3.ownsRow 0 33 7 (.slice (some ⟨g, 0, none⟩) (M.length + 1) cap) (M.length + 1) (xcs (M ++ [x]))) (hg : w.grownBy w3 (Value.slice A M.length ca).ownBlock) (hgb : (Value.slice A M.length ca).ownBlock = some g ∨ w.heap.size ≤ g) :
    ∃ s', RefAt (w3.setCell ⟨p, 0, none⟩ (.slice (some ⟨g, 0, none⟩) (M.length + 1) cap)) p s' ot (M ++ [x]) Q now ∧ Mv w (w3.setCell ⟨p, 0, none⟩ (.slice (some ⟨g, 0, none⟩) (M.length + 1) cap)) (p :: s) ∧ ∀ y ∈ s', y ∈ s ∨ w.heap.size ≤ y := by
  have hps := (List.nodup_cons.1 nd).1
  have hsn := (List.nodup_cons.1 nd).2
  have hm3 : Mv w w3 (p :: s) := Mv.of_grown hg (fun k hk => List.mem_cons_of_mem _ (by rw [h4, hk]; simp))
  have hm : Mv w (w3.setCell ⟨p, 0, none⟩ (.slice (some ⟨g, 0, none⟩) (M.length + 1) cap)) (p :: s) := hm3.trans (Mv.of_only (Only.set w3 p 0 (.slice (some ⟨g, 0, none⟩) (M.length + 1) cap)) (List.mem_cons_self ..))
  have hpA : (Value.slice A M.length ca).ownBlock ≠ some p := fun e => hps (by rw [h4, e]; simp)
  have hpg : p ≠ g := by
    rcases hgb with e | e
    · exact fun e2 => hpA (by rw [e, e2])
    · have := h1.lt; omega
  have hs' : ∀ y ∈ [g] ++ (Value.slice B Q.length cb).ownBlock.toList, y ∈ s ∨ w.heap.size ≤ y := fun y hy => by
    rcases List.mem_append.1 hy with hy | hy
    · rw [List.mem_singleton.1 hy]
      rcases hgb with e | e
      · left; rw [h4, e]; simp
      · exact Or.inr e
    · left; rw [h4]; exact List.mem_append.2 (Or.inr hy)
  have hBA : (Value.slice B Q.length cb).ownBlock ≠ none → (Value.slice A M.length ca).ownBlock ≠ (Value.slice B Q.length cb).ownBlock := fun hn e => by
    obtain ⟨z, hz⟩ := Option.ne_none_iff_exists'.1 hn
    rw [h4, e, hz] at hsn
    simp at hsn
  have h1' : Has w3 p 29 #[.slice A M.length ca, .slice B Q.length cb, .int .i64 now] := (hg.block p h1.lt (fun e => hpA e.symm)).trans h1
  have h3' : w3.ownsRow 0 35 2 (.slice B Q.length cb) Q.length (qcs Q) := own_keepB h3 (fun z hz => hg.block z (h3.lt z hz).2 (fun e => hBA (by rw [hz]; simp) (by rw [hz, e])))
  have hpB : (Value.slice B Q.length cb).ownBlock ≠ some p := fun e => hps (by rw [h4, e]; simp)
  refine ⟨[g] ++ (Value.slice B Q.length cb).ownBlock.toList, ⟨⟨some ⟨g, 0, none⟩, cap, B, cb, ?_, ?_, own_other h3' hpB _ _, ?_⟩, ?_, fun y hy => ?_, fun x hx => Nat.lt_of_lt_of_le (ul x hx) hm.size⟩, hm, hs'⟩
  · rw [List.length_append, List.length_singleton]; exact h1'.set 0 _
  · rw [List.length_append, List.length_singleton]
    exact own_other ho (fun e => hpg (by injection e with e; exact e.symm)) _ _
  · rw [List.length_append, List.length_singleton]; rfl
  · refine List.nodup_cons.2 ⟨fun hy => ?_, ?_⟩
    · rcases List.mem_append.1 hy with hy | hy
      · exact hpg (List.mem_singleton.1 hy)
      · exact hpB (Option.mem_toList.1 hy)
    · cases hB : (Value.slice B Q.length cb).ownBlock with
      | none => simp
      | some z =>
        have hzg : g ≠ z := by
          rcases hgb with e | e
          · exact fun e2 => hBA (by rw [hB]; simp) (by rw [e, hB, e2])
          · have := (h3.lt z hB).2; omega
        simp [hzg]
  · rcases List.mem_append.1 hy with hy | hy
    · exact (ents y hy).more hm hs'
    · rw [List.mem_singleton.1 hy]; exact hx.more hm hs'
/-- The checkpoints' row has grown by one. -/
theorem RefAt.pushQ {w w3 : World} {p : Nat} {s ot : List Nat} {M : List EntX} {Q : List Pt} {now : Int} {A : Option Addr} {ca : Nat} {B : Option Addr} {cb : Nat} (h1 : Has w p 29 #[.slice A M.length ca, .slice B Q.length cb, .int .i64 now]) (h2 : w.ownsRow 0 33 7 (.slice A M.length ca) M.length (xcs M)) (h3 : w.ownsRow 0 35 2 (.slice B Q.length cb) Q.length (qcs Q))
    (h4 : s = (Value.slice A M.length ca).ownBlock.toList ++ (Value.slice B Q.length cb).ownBlock.toList) (nd : (p :: s).Nodup) (ents : ∀ x ∈ M, XIn w ((p :: s) ++ ot) x) (ul : ∀ x ∈ ot, x < w.heap.size) {q : Pt}
    {g cap : Nat} (ho : w3.ownsRow 0 35 2 (.slice (some ⟨g, 0, none⟩) (Q.length + 1) cap) (Q.length + 1) (qcs (Q ++ [q]))) (hg : w.grownBy w3 (Value.slice B Q.length cb).ownBlock) (hgb : (Value.slice B Q.length cb).ownBlock = some g ∨ w.heap.size ≤ g) :
    ∃ s', RefAt (w3.setCell ⟨p, 1, none⟩ (.slice (some ⟨g, 0, none⟩) (Q.length + 1) cap)) p s' ot M (Q ++ [q]) now ∧ Mv w (w3.setCell ⟨p, 1, none⟩ (.slice (some ⟨g, 0, none⟩) (Q.length + 1) cap)) (p :: s) ∧ ∀ y ∈ s', y ∈ s ∨ w.heap.size ≤ y := by
  have hps := (List.nodup_cons.1 nd).1
  have hsn := (List.nodup_cons.1 nd).2
  have hm3 : Mv w w3 (p :: s) := Mv.of_grown hg (fun k hk => List.mem_cons_of_mem _ (by rw [h4, hk]; simp))
  have hm : Mv w (w3.setCell ⟨p, 1, none⟩ (.slice (some ⟨g, 0, none⟩) (Q.length + 1) cap)) (p :: s) := hm3.trans (Mv.of_only (Only.set w3 p 1 (.slice (some ⟨g, 0, none⟩) (Q.length + 1) cap)) (List.mem_cons_self ..))
  have hpB : (Value.slice B Q.length cb).ownBlock ≠ some p := fun e => hps (by rw [h4, e]; simp)
  have hpA : (Value.slice A M.length ca).ownBlock ≠ some p := fun e => hps (by rw [h4, e]; simp)
  have hpg : p ≠ g := by
    rcases hgb with e | e
    · exact fun e2 => hpB (by rw [e, e2])
    · have := h1.lt; omega
  have hs' : ∀ y ∈ (Value.slice A M.length ca).ownBlock.toList ++ [g], y ∈ s ∨ w.heap.size ≤ y := fun y hy => by
    rcases List.mem_append.1 hy with hy | hy
    · left; rw [h4]; exact List.mem_append.2 (Or.inl hy)
    · rw [List.mem_singleton.1 hy]
      rcases hgb with e | e
      · left; rw [h4, e]; simp
      · exact Or.inr e
  have hAB : (Value.slice A M.length ca).ownBlock ≠ none → (Value.slice B Q.length cb).ownBlock ≠ (Value.slice A M.length ca).ownBlock := fun hn e => by
    obtain ⟨z, hz⟩ := Option.ne_none_iff_exists'.1 hn
    rw [h4, e, hz] at hsn
    simp at hsn
  have h1' : Has w3 p 29 #[.slice A M.length ca, .slice B Q.length cb, .int .i64 now] := (hg.block p h1.lt (fun e => hpB e.symm)).trans h1
  have h2' : w3.ownsRow 0 33 7 (.slice A M.length ca) M.length (xcs M) := own_keepB h2 (fun z hz => hg.block z (h2.lt z hz).2 (fun e => hAB (by rw [hz]; simp) (by rw [hz, e])))
  refine ⟨(Value.slice A M.length ca).ownBlock.toList ++ [g], ⟨⟨A, ca, some ⟨g, 0, none⟩, cap, ?_, own_other h2' hpA _ _, ?_, ?_⟩, ?_, fun y hy => (ents y hy).more hm hs', fun x hx => Nat.lt_of_lt_of_le (ul x hx) hm.size⟩, hm, hs'⟩
  · rw [List.length_append, List.length_singleton]; exact h1'.set 1 _
  · rw [List.length_append, List.length_singleton]
    exact own_other ho (fun e => hpg (by injection e with e; exact e.symm)) _ _
  · rw [List.length_append, List.length_singleton]; rfl
  · refine List.nodup_cons.2 ⟨fun hy => ?_, ?_⟩
    · rcases List.mem_append.1 hy with hy | hy
      · exact hpA (Option.mem_toList.1 hy)
      · exact hpg (List.mem_singleton.1 hy)
    · cases hA : (Value.slice A M.length ca).ownBlock with
      | none => simp
      | some z =>
        have hzg : z ≠ g := by
          rcases hgb with e | e
          · exact fun e2 => hAB (by rw [hA]; simp) (by rw [e, hA, e2])
          · have := (h2.lt z hA).2; omega
        simp [hzg]
end Go.Proofs.Ytojemaaljjibiaa

namespace Go.Proofs.Ytojemaaljjibiaa
open Go.RowKit
open Go.Maps (Keyed IsMap Tidy has)
set_option linter.unusedVariables false

/-- The first place at which a text stands. -/
def idI (I : List (List UInt8)) (k : List UInt8) : Option Nat := I.findIdx? (fun x => decide (x = k))
theorem idI_snoc (I : List (List UInt8)) (x k : List UInt8) : idI (I ++ [x]) k = (idI I k).or (if x = k then some I.length else none) := by
  unfold idI
  rw [List.findIdx?_append]
  congr 1
  by_cases h : x = k <;> simp [List.findIdx?_cons, h]
theorem idI_none {I : List (List UInt8)} {k : List UInt8} : idI I k = none ↔ k ∉ I := by
  unfold idI
  rw [List.findIdx?_eq_none_iff]
  constructor
  · intro h hk
    have := h k hk
    simp at this
  · intro h x hx
    exact decide_eq_false (fun e => h (e ▸ hx))
theorem idI_at {I : List (List UInt8)} (h : I.Nodup) (i : Nat) (hi : i < I.length) : idI I I[i] = some i := by
  unfold idI
  rw [List.findIdx?_eq_some_iff_getElem]
  refine ⟨hi, by simp, fun j hj => ?_⟩
  simp only [decide_eq_true_eq]
  exact fun e => List.pairwise_iff_getElem.1 h j i (by omega) hi hj e

theorem lawTxt : Keyed Try.prog 9 := Go.Maps.string_keyed Try.underlying9
theorem keyOf_txt (l : List UInt8) (h : l.length ≤ maxLen) : keyOf Try.prog 9 (.string (S l)) = some (.string l) :=
  (Go.WideMaps.keyOf_string_mk Try.underlying9 (s := S l) h).trans (by simp [S])
theorem keyTxtLit {l : List UInt8} : Go.WideAt.IsKeyLit (.string l) := trivial
theorem zeroNum (w : World) : (zeroValue 3).run Try.prog w = .ok (.int .i64 0) w := by kernel_rfl
theorem numWf (i : Nat) (h : i ≤ 9223372036854775807) : (Lit.int .i64 (i : Int)).wf = true := by
  have h0 : (-9223372036854775808 : Int) ≤ (i : Int) := by omega
  have h1 : (i : Int) ≤ 9223372036854775807 := by omega
  simp [Lit.wf, IntKind.min, IntKind.max, IntKind.signed, IntKind.bits, h0, h1]
/-- Block b is a map that has texts' places. -/
def SeqM (w : World) (b : Nat) (I : List (List UInt8)) : Prop :=
  ∃ D : DataW Unit, w.ownsMap Try.prog 9 (plainElem Try.prog 3) b I.length D ∧ ∀ k : List UInt8, k.length ≤ maxLen →
      has D (.string k) = (idI I k).isSome ∧ ∀ z : DataW Unit, D.atKey (.string k) z = (match idI I k with | some i => .lit (.int .i64 (i : Int)) | none => z)
theorem SeqM.keep {w w' : World} {b : Nat} {I : List (List UInt8)} (h : SeqM w b I) (hb : w'.heap[b]? = w.heap[b]?) : SeqM w' b I := by
  obtain ⟨D, ⟨es, clock, h1, h2⟩, h3⟩ := h
  exact ⟨D, ⟨es, clock, hb.trans h1, h2⟩, h3⟩
theorem SeqM.lt {w : World} {b : Nat} {I : List (List UInt8)} (h : SeqM w b I) : b < w.heap.size := by
  obtain ⟨D, h1, _⟩ := h
  exact h1.lt
theorem SeqM.made (w : World) : SeqM (w.alloc (.map #[] 0)) w.heap.size [] :=
  ⟨.map [], World.ownsMap_made w _ _ _, fun i _ => ⟨rfl, fun z => rfl⟩⟩
theorem SeqM.look {w : World} {b : Nat} {I : List (List UInt8)} (h : SeqM w b I) (k : List UInt8) (h1 : k.length ≤ maxLen) :
    (Instr.lookup 56 (.map (some b)) (.string (S k)) true).run Try.prog w = .ok (.tuple #[.int .i64 (((idI I k).getD 0 : Nat) : Int), .bool (idI I k).isSome]) w := by
  obtain ⟨D, hown, hD⟩ := h
  obtain ⟨hh, ha⟩ := hD k h1
  obtain ⟨v, ps, hrun, hv⟩ := hown.look_ok lawTxt Try.underlying56 (zeroNum w) (plainElem_int Try.underlying3 (numWf 0 (by decide))) (keyOf_txt k h1)
  rw [hrun, hh]
  rw [ha] at hv
  obtain ⟨a, rfl, e, _⟩ := plainElem_int_inv Try.underlying3 hv
  cases hm : idI I k with
  | none => rw [hm] at e; simp only [Prod.mk.injEq, DataW.lit.injEq, Lit.int.injEq] at e; rw [← e.1.2]; rfl
  | some i => rw [hm] at e; simp only [Prod.mk.injEq, DataW.lit.injEq, Lit.int.injEq] at e; rw [← e.1.2]; rfl
theorem SeqM.put {w : World} {b : Nat} {I : List (List UInt8)} (h : SeqM w b I) (x : List UInt8) (hl : I.length ≤ 1000000) (h1 : x.length ≤ maxLen) (hn : x ∉ I) :
    ∃ w', (Instr.mapUpdate 56 (.map (some b)) (.string (S x)) (.int .i64 (I.length : Int))).run Try.prog w = .ok () w' ∧ SeqM w' b (I ++ [x]) ∧ Only w w' b := by
  obtain ⟨D, hown, hD⟩ := h
  obtain ⟨w', hrun, hown', hmv⟩ := hown.store lawTxt Try.underlying56 (by simp only [maxLen]; omega) (keyOf_txt x h1) (plainElem_int Try.underlying3 (numWf I.length (by omega)))
  refine ⟨w', hrun, ⟨D.put (.string x) (.lit (.int .i64 (I.length : Int))), by rw [List.length_append]; exact hown', fun k i1 => ?_⟩, hmv.grown⟩
  rw [idI_snoc]
  by_cases hi : k = x
  · subst hi
    rw [idI_none.2 hn, if_pos rfl]
    refine ⟨?_, fun z => ?_⟩
    · rw [Go.Maps.has_put_same hown.isMap keyTxtLit]; simp
    · rw [Go.Maps.atKey_put_same hown.isMap keyTxtLit]; simp
  · have hne : Lit.string k ≠ Lit.string x := fun hh => hi (by injection hh)
    obtain ⟨q1, q2⟩ := hD k i1
    rw [if_neg (fun e => hi e.symm), Option.or_none]
    refine ⟨?_, fun z => ?_⟩
    · rw [Go.Maps.has_put_other hne, q1]
    · rw [Go.Maps.atKey_put_other hne, q2]
end Go.Proofs.Ytojemaaljjibiaa

namespace Go.Proofs.Ytojemaaljjibiaa
open Go.Op (bytesLess)
set_option linter.unusedVariables false

theorem el_nil (l : List UInt8) : bytesLess l [] = false := by cases l <;> rfl
theorem el_cons (a b : UInt8) (l m : List UInt8) : bytesLess (a :: l) (b :: m) = (decide (a < b) || (a == b && bytesLess l m)) := rfl
theorem el_irrefl : ∀ l, bytesLess l l = false := by
  intro l
  induction l with
  | nil => rfl
  | cons a l ih => rw [el_cons, ih]; simp
theorem eu8_lt (a b : UInt8) : a < b ↔ a.toNat < b.toNat := Iff.rfl
theorem eu8_eq (a b : UInt8) : a = b ↔ a.toNat = b.toNat := ⟨fun h => by rw [h], fun h => UInt8.toNat_inj.1 h⟩
theorem el_true {a b : UInt8} {l m : List UInt8} : bytesLess (a :: l) (b :: m) = true ↔ a.toNat < b.toNat ∨ (a = b ∧ bytesLess l m = true) := by
  rw [el_cons, Bool.or_eq_true, decide_eq_true_eq, Bool.and_eq_true, beq_iff_eq, eu8_lt]
theorem el_asymm : ∀ (l m : List UInt8), bytesLess l m = true → bytesLess m l = false := by
  intro l
  induction l with
  | nil => intro m _; exact el_nil m
  | cons a l ih =>
    intro m h
    cases m with
    | nil => rw [el_nil] at h; cases h
    | cons b m =>
      rw [el_true] at h
      refine Bool.eq_false_iff.2 fun h2 => ?_
      rw [el_true] at h2
      rcases h with h | ⟨rfl, h⟩
      · rcases h2 with h2 | ⟨rfl, h2⟩ <;> omega
      · rcases h2 with h2 | ⟨_, h2⟩
        · omega
        · rw [ih m h] at h2; cases h2
theorem el_total : ∀ (l m : List UInt8), bytesLess l m = false → bytesLess m l = false → l = m := by
  intro l
  induction l with
  | nil =>
    intro m h _
    cases m with
    | nil => rfl
    | cons b m => cases h
  | cons a l ih =>
    intro m h1 h2
    cases m with
    | nil => cases h2
    | cons b m =>
      have n1 := mt el_true.2 (by rw [h1]; simp)
      have n2 := mt el_true.2 (by rw [h2]; simp)
      have e : a = b := (eu8_eq a b).2 (by omega)
      subst e
      have h3 : bytesLess l m = false := Bool.eq_false_iff.2 fun h => n1 (Or.inr ⟨rfl, h⟩)
      have h4 : bytesLess m l = false := Bool.eq_false_iff.2 fun h => n2 (Or.inr ⟨rfl, h⟩)
      rw [ih m h3 h4]
theorem el_le_trans : ∀ (l m n : List UInt8), bytesLess m l = false → bytesLess n m = false → bytesLess n l = false := by
  intro l
  induction l with
  | nil => intro m n _ _; exact el_nil n
  | cons a l ih =>
    intro m n h1 h2
    cases m with
    | nil => cases h1
    | cons b m =>
      cases n with
      | nil => cases h2
      | cons c n =>
        have n1 := mt el_true.2 (by rw [h1]; simp)
        have n2 := mt el_true.2 (by rw [h2]; simp)
        refine Bool.eq_false_iff.2 fun h => ?_
        rw [el_true] at h
        rcases h with h | ⟨rfl, h⟩
        · by_cases hbc : c.toNat < b.toNat
          · exact n2 (Or.inl hbc)
          · exact n1 (Or.inl (by omega))
        · by_cases hcb : c = b
          · subst hcb
            have h3 : bytesLess m l = false := Bool.eq_false_iff.2 fun h => n1 (Or.inr ⟨rfl, h⟩)
            have h4 : bytesLess n m = false := Bool.eq_false_iff.2 fun h => n2 (Or.inr ⟨rfl, h⟩)
            rw [ih m n h3 h4] at h; cases h
          · have : c.toNat ≠ b.toNat := fun e => hcb ((eu8_eq c b).2 e)
            by_cases hbc : c.toNat < b.toNat
            · exact n2 (Or.inl hbc)
            · exact n1 (Or.inl (by omega))
theorem el_trans (l m n : List UInt8) (h1 : bytesLess l m = true) (h2 : bytesLess m n = true) : bytesLess l n = true := by
  cases h : bytesLess l n
  · have h3 := el_asymm _ _ h1
    have h4 := el_le_trans _ _ _ h h3
    rw [h2] at h4
    cases h4
  · rfl
end Go.Proofs.Ytojemaaljjibiaa

namespace Go.Proofs.Ytojemaaljjibiaa
open Go.Op (bytesLess)
set_option linter.unusedVariables false
namespace Sta
open Ev (T)

theorem rise_pairs : ∀ (H : List T), Ev.rise H = true ↔ H.Pairwise (fun a b => bytesLess a b = true)
  | [] => ⟨fun _ => List.Pairwise.nil, fun _ => rfl⟩
  | [a] => ⟨fun _ => List.pairwise_singleton _ _, fun _ => rfl⟩
  | a :: b :: r => by
    have ih := rise_pairs (b :: r)
    show (bytesLess a b && Ev.rise (b :: r)) = true ↔ _
    rw [Bool.and_eq_true, ih]
    constructor
    · rintro ⟨h1, h2⟩
      refine List.pairwise_cons.2 ⟨fun x hx => ?_, h2⟩
      rcases List.mem_cons.1 hx with rfl | hx
      · exact h1
      · exact el_trans _ _ _ h1 ((List.pairwise_cons.1 h2).1 x hx)
    · intro h
      have h2 := List.pairwise_cons.1 h
      exact ⟨h2.1 b (List.mem_cons_self ..), h2.2⟩
theorem hW_mem (n x : T) : ∀ (H : List T) (w : Bool), x ∈ hW H n w ↔ (w = true ∧ x = n) ∨ (x ∈ H ∧ x ≠ n)
  | [], w => by
    unfold hW
    cases w <;> simp
  | y :: r, w => by
    have ih := hW_mem n x r (w && !bytesLess n y)
    unfold hW
    rw [List.mem_append, List.mem_append, ih]
    cases w <;> cases hb : bytesLess n y <;> by_cases hy : y = n <;> simp [hy, List.mem_cons]
    all_goals
      by_cases hx : x = n
      · simp [hx]
        try (intro e; exact absurd e.symm hy)
      · simp [hx]
        try (intro e; rw [e]; exact absurd · hx)
        try omega
theorem hW_pairs (n : T) : ∀ (H : List T) (w : Bool), H.Pairwise (fun a b => bytesLess a b = true) → (hW H n w).Pairwise (fun a b => bytesLess a b = true)
  | [], w, _ => by
    unfold hW
    cases w
    · exact List.Pairwise.nil
    · exact List.pairwise_singleton _ _
  | y :: r, w, h => by
    have h2 := List.pairwise_cons.1 h
    have ih := hW_pairs n r (w && !bytesLess n y) h2.2
    unfold hW
    cases hw : (w && bytesLess n y) with
    | true =>
      rw [Bool.and_eq_true] at hw
      obtain ⟨rfl, hb⟩ := hw
      have hne : y ≠ n := fun e => by rw [e, el_irrefl] at hb; cases hb
      rw [hb] at ih ⊢
      rw [if_neg hne]
      simp only [Bool.not_true, Bool.and_false, if_true, List.cons_append, List.nil_append] at ih ⊢
      refine List.pairwise_cons.2 ⟨fun x hx => ?_, List.pairwise_cons.2 ⟨fun x hx => ?_, ih⟩⟩
      · rcases List.mem_cons.1 hx with rfl | hx
        · exact hb
        · rcases (hW_mem n x r false).1 hx with ⟨h, _⟩ | ⟨hm, _⟩
          · cases h
          · exact el_trans _ _ _ hb (h2.1 x hm)
      · rcases (hW_mem n x r false).1 hx with ⟨h, _⟩ | ⟨hm, _⟩
        · cases h
        · exact h2.1 x hm
    | false =>
      rw [if_neg (by simp), List.nil_append]
      by_cases hy : y = n
      · rw [if_pos hy, List.nil_append]; exact ih
      · rw [if_neg hy, List.singleton_append]
        refine List.pairwise_cons.2 ⟨fun x hx => ?_, ih⟩
        rcases (hW_mem n x r _).1 hx with ⟨h, rfl⟩ | ⟨hm, _⟩
        · rw [Bool.and_eq_true, Bool.not_eq_true'] at h
          cases hl : bytesLess y x with
          | true => rfl
          | false => exact absurd (el_total _ _ hl h.2) hy
        · exact h2.1 x hm
theorem hW_drop (n : T) : ∀ (H : List T), hW H n false = H.filter (fun x => decide (x ≠ n))
  | [] => rfl
  | y :: r => by
    unfold hW
    rw [Bool.false_and, Bool.false_and, if_neg (by simp), List.nil_append, hW_drop n r, List.filter_cons]
    by_cases hy : y = n <;> simp [hy]
theorem hW_len (n : T) : ∀ (H : List T), n ∉ H → (hW H n true).length = H.length + 1
  | [], _ => rfl
  | y :: r, h => by
    have hy : y ≠ n := fun e => h (by rw [e]; exact List.mem_cons_self ..)
    have hr : n ∉ r := fun e => h (List.mem_cons_of_mem _ e)
    unfold hW
    rw [if_neg hy]
    cases hb : bytesLess n y with
    | true =>
      simp only [Bool.and_self, if_true, Bool.not_true, Bool.and_false, hW_drop]
      rw [List.filter_eq_self.2 (fun x hx => by simp; exact fun e => hr (by rw [← e]; exact hx))]
      simp
    | false =>
      simp only [Bool.and_false, Bool.not_false, Bool.and_true]
      rw [if_neg (by simp), List.nil_append, List.singleton_append, List.length_cons, hW_len n r hr, List.length_cons]
/-- What every state keeps. -/
structure Inv (s : Sta) : Prop where
  few : s.P.length ≤ 64
  right : ∀ e ∈ s.P, Ev.entR e = true
  ids : s.P.Pairwise (fun a b => a.id ≠ b.id)
  slots : s.P.Pairwise (fun a b => a.gone = false → b.gone = false → a.slot ≠ b.slot)
  born : ∀ e ∈ s.P, e.born ≤ s.now
  now : 0 ≤ s.now ∧ s.now ≤ 1099511627776
  pts : ∀ q ∈ s.Q, (0 ≤ q.size ∧ q.size ≤ 64) ∧ q.root.length = 32 ∧ q.size ≤ (s.P.length : Int)
  rising : s.Q.Pairwise (fun a b => a.size ≤ b.size)
theorem Inv.zero : Inv Sta.zero := ⟨Nat.zero_le _, fun e he => (by cases he), List.Pairwise.nil, List.Pairwise.nil, fun e he => (by cases he), (by decide), fun q hq => (by cases hq), List.Pairwise.nil⟩
theorem hasId_iff {P : List Ent} {id : T} : hasId P id = true ↔ ∃ e ∈ P, e.id = id := by unfold hasId; rw [List.any_eq_true]; simp
theorem taken_iff {P : List Ent} {n : Int} : taken P n = true ↔ ∃ e ∈ P, e.gone = false ∧ e.slot = n := by unfold taken; rw [List.any_eq_true]; simp
theorem erS_names (L : List Slp) (i : Int) : (erS L i).map Slp.n = L.map Slp.n := by
  apply List.ext_getElem?
  intro k
  rw [List.getElem?_map, List.getElem?_map, erS_get]
  cases L[k]? with
  | none => rfl
  | some x =>
    simp only [Option.map_some]
    split <;> rfl
theorem entR_er {e : Ent} {i : Int} {g : Bool} (h : Ev.entR e = true) (hg : g = e.gone ∨ i < 0) : Ev.entR { e with L := erS e.L i, gone := g } = true := by
  rw [Ev.entR_iff] at h ⊢
  obtain ⟨a, b, c, d, f, k, l, m, n, o⟩ := h
  refine ⟨a, b, c, d, by dsimp only; rw [erS_len]; exact f, k, l, m, fun x hx => ?_, by dsimp only; rw [erS_names]; exact o⟩
  obtain ⟨j, hj, rfl⟩ := List.getElem_of_mem hx
  dsimp only at hj ⊢
  have hje := List.getElem?_eq_getElem hj
  rw [erS_get] at hje
  have hjl : j < e.L.length := by rw [← erS_len e.L i]; exact hj
  rw [List.getElem?_eq_getElem hjl, Option.map_some] at hje
  injection hje with hje
  rw [← hje]
  have hs := n _ (List.getElem_mem hjl)
  rw [Ev.slipR_iff] at hs
  split
  · rw [Ev.slipR_iff]
    exact ⟨hs.1, hs.2.1, fun _ => rfl, fun h => by cases h⟩
  · rename_i hn
    rcases hg with rfl | hg
    · rw [Ev.slipR_iff]; exact hs
    · exact absurd (Or.inl hg) hn
theorem entR_hW {e : Ent} {n : T} {w : Bool} (h : Ev.entR e = true) (hn : Pap.word 16 n = true) (hw : w = true → n ∉ e.H ∧ e.H.length < 4) : Ev.entR { e with H := hW e.H n w } = true := by
  rw [Ev.entR_iff] at h ⊢
  obtain ⟨a, b, c, d, f, k, l, m, o, p⟩ := h
  refine ⟨a, b, c, d, f, ?_, fun x hx => ?_, ?_, o, p⟩
  · dsimp only
    cases w with
    | true => rw [hW_len n e.H (hw rfl).1]; have := (hw rfl).2; omega
    | false => rw [hW_drop]; exact Nat.le_trans (List.length_filter_le _ _) k
  · rcases (hW_mem n x e.H w).1 hx with ⟨_, rfl⟩ | ⟨hm, _⟩
    · exact hn
    · exact l x hm
  · rw [rise_pairs] at m ⊢
    exact hW_pairs n e.H w m
theorem mem_modify {P : List Ent} {i : Nat} {f : Ent → Ent} {x : Ent} (h : x ∈ P.modify i f) : x ∈ P ∨ ∃ hi : i < P.length, x = f P[i] := by
  obtain ⟨k, hk, rfl⟩ := List.getElem_of_mem h
  rw [List.length_modify] at hk
  rw [List.getElem_modify]
  split
  · rename_i e; subst e; exact Or.inr ⟨hk, rfl⟩
  · exact Or.inl (List.getElem_mem hk)
/-- A paper is changed in place: what is kept of all stays. -/
theorem Inv.change {s : Sta} (h : Inv s) (i : Nat) (f : Ent → Ent) (hid : ∀ e, (f e).id = e.id) (hb : ∀ e, (f e).born = e.born) (hsl : ∀ e, (f e).slot = e.slot) (hg : ∀ e, e.gone = true → (f e).gone = true) (hr : ∀ hi : i < s.P.length, Ev.entR (f s.P[i]) = true) : Inv { s with P := s.P.modify i f } := by
  have pw : ∀ (R : Ent → Ent → Prop), (∀ a b, R a b → R (f a) b) → (∀ a b, R a b → R a (f b)) → s.P.Pairwise R → (s.P.modify i f).Pairwise R := fun R h1 h2 hp => by
    rw [List.pairwise_iff_getElem] at hp ⊢
    intro a b ha hb hab
    rw [List.length_modify] at ha hb
    rw [List.getElem_modify, List.getElem_modify]
    have := hp a b ha hb hab
    split
    · split
      · exact h1 _ _ (h2 _ _ this)
      · exact h1 _ _ this
    · split
      · exact h2 _ _ this
      · exact this
  refine ⟨by dsimp only; rw [List.length_modify]; exact h.few, fun e he => ?_, pw _ (fun a b q => by rw [hid]; exact q) (fun a b q => by rw [hid]; exact q) h.ids, pw _ (fun a b q g1 g2 => ?_) (fun a b q g1 g2 => ?_) h.slots, fun e he => ?_, h.now, fun q hq => by dsimp only; rw [List.length_modify]; exact h.pts q hq, h.rising⟩
  · rcases mem_modify he with hm | ⟨hi, rfl⟩
    · exact h.right e hm
    · exact hr hi
  · rw [hsl]
    refine q ?_ g2
    cases hgg : a.gone with
    | false => rfl
    | true => rw [hg a hgg] at g1; cases g1
  · rw [hsl]
    refine q g1 ?_
    cases hgg : b.gone with
    | false => rfl
    | true => rw [hg b hgg] at g2; cases g2
  · rcases mem_modify he with hm | ⟨hi, rfl⟩
    · exact h.born e hm
    · rw [hb]; exact h.born _ (List.getElem_mem hi)
theorem lessQ_no {Q : List Pt} {n : Int} (h : lessQ Q n = false) (hr : Q.Pairwise (fun a b => a.size ≤ b.size)) : ∀ q ∈ Q, q.size ≤ n := by
  intro q hq
  unfold lessQ at h
  cases hl : Q.getLast? with
  | none => rw [List.getLast?_eq_none_iff] at hl; rw [hl] at hq; cases hq
  | some z =>
    rw [hl] at h
    have h1 : ¬ n < z.size := of_decide_eq_false h
    obtain ⟨k, hk, rfl⟩ := List.getElem_of_mem hq
    rw [List.getLast?_eq_getElem?] at hl
    obtain ⟨hz, hz2⟩ := List.getElem?_eq_some_iff.1 hl
    by_cases e : k = Q.length - 1
    · subst e; rw [hz2]; omega
    · have := List.pairwise_iff_getElem.1 hr k (Q.length - 1) hk hz (by omega)
      rw [hz2] at this
      omega
theorem Inv.step {s : Sta} (h : Inv s) (v : Evt) : Inv (step s v) := by
  unfold Sta.step
  split
  rotate_left
  · exact h
  rename_i hc
  have hR : Ev.right v = true := by
    cases hr : Ev.right v with
    | true => rfl
    | false => unfold check at hc; rw [if_pos hr] at hc; omega
  unfold check at hc
  rw [if_neg (by rw [hR]; simp)] at hc
  have hk := Ev.right_kind hR
  rcases Ev.kinds v with q | q | q | q | q | q | q
  · -- a paper
    rw [if_pos q] at hc
    have hap : apply s v = { s with P := s.P ++ [v.ent] } := by unfold apply; rw [if_pos q]
    rw [hap]
    unfold paperC at hc
    split at hc
    · omega
    rename_i h1
    split at hc
    · omega
    rename_i h2
    split at hc
    · omega
    rename_i h3
    split at hc
    · omega
    rename_i h4
    have hE : Ev.entR v.ent = true := by rw [← Ev.right1 q]; exact hR
    refine ⟨by simp; omega, fun e he => ?_, ?_, ?_, fun e he => ?_, h.now, fun p hp => ?_, h.rising⟩
    · rcases List.mem_append.1 he with he | he
      · exact h.right e he
      · rw [List.mem_singleton.1 he]; exact hE
    · refine List.pairwise_append.2 ⟨h.ids, List.pairwise_singleton _ _, fun a ha b hb => ?_⟩
      rw [List.mem_singleton.1 hb]
      exact fun e => h1 (hasId_iff.2 ⟨a, ha, e⟩)
    · refine List.pairwise_append.2 ⟨h.slots, List.pairwise_singleton _ _, fun a ha b hb g1 g2 e => ?_⟩
      rw [List.mem_singleton.1 hb] at g2 e
      exact h4 ⟨g2, taken_iff.2 ⟨a, ha, g1, e⟩⟩
    · rcases List.mem_append.1 he with he | he
      · exact h.born e he
      · rw [List.mem_singleton.1 he]; dsimp only; omega
    · have := h.pts p hp
      refine ⟨this.1, this.2.1, ?_⟩
      dsimp only
      rw [List.length_append]
      have := this.2.2
      omega
  · -- a field
    have hap : apply s v = { s with P := s.P.modify v.seq.toNat fun e => { e with L := erS e.L v.idx } } := by unfold apply; rw [if_neg (by omega), if_pos q]
    rw [hap]
    exact h.change _ _ (fun _ => rfl) (fun _ => rfl) (fun _ => rfl) (fun e g => g) (fun hi => entR_er (g := s.P[v.seq.toNat].gone) (h.right _ (List.getElem_mem hi)) (Or.inl rfl))
  · have hap : apply s v = { s with P := s.P.modify v.seq.toNat fun e => { e with L := erS e.L (-1), gone := true } } := by unfold apply; rw [if_neg (by omega), if_neg (by omega), if_pos q]
    rw [hap]
    exact h.change _ _ (fun _ => rfl) (fun _ => rfl) (fun _ => rfl) (fun e g => rfl) (fun hi => entR_er (g := true) (h.right _ (List.getElem_mem hi)) (Or.inr (by omega)))
  · have hap : apply s v = { s with P := s.P.modify v.seq.toNat fun e => { e with H := hW e.H v.name (decide (v.kind = 4)) } } := by unfold apply; rw [if_neg (by omega), if_neg (by omega), if_neg (by omega), if_pos q]
    rw [hap]
    have hn : Pap.word 16 v.name = true := by rw [Ev.right4 q, Bool.and_eq_true] at hR; exact hR.2
    refine h.change _ _ (fun _ => rfl) (fun _ => rfl) (fun _ => rfl) (fun e g => g) (fun hi => entR_hW (h.right _ (List.getElem_mem hi)) hn (fun hw => ?_))
    have hw4 : v.kind = 4 := of_decide_eq_true hw
    rw [if_neg (by omega), if_neg (by omega), if_neg (by omega)] at hc
    split at hc
    · omega
    unfold changeC at hc
    rw [if_neg (by omega), if_neg (by omega), if_pos hw4] at hc
    have hnth : nth s.P v.seq.toNat = s.P[v.seq.toNat] := by unfold nth; rw [List.getD_eq_getElem?_getD, List.getElem?_eq_getElem hi]; rfl
    rw [hnth] at hc
    split at hc
    · omega
    split at hc
    · omega
    rename_i hnm
    split at hc
    · omega
    exact ⟨hnm, by omega⟩
  · have hap : apply s v = { s with Q := s.Q ++ [⟨v.size, v.root⟩] } := by unfold apply; rw [if_neg (by omega), if_neg (by omega), if_neg (by omega), if_neg (by omega), if_pos q]
    rw [hap]
    rw [if_neg (by omega), if_pos q] at hc
    split at hc
    · omega
    rename_i hno
    have hq : Ev.rng v.size 64 = true ∧ v.root.length = 32 := by rw [Ev.right6 q, Bool.and_eq_true, decide_eq_true_iff] at hR; exact hR
    rw [Ev.rng_iff] at hq
    have hl : lessQ s.Q v.size = false := by
      cases hb : lessQ s.Q v.size with
      | false => rfl
      | true => exact absurd (Or.inr hb) hno
    have hle := lessQ_no hl h.rising
    refine ⟨h.few, h.right, h.ids, h.slots, h.born, h.now, fun p hp => ?_, List.pairwise_append.2 ⟨h.rising, List.pairwise_singleton _ _, fun a ha b hb => ?_⟩⟩
    · rcases List.mem_append.1 hp with hp | hp
      · exact h.pts p hp
      · rw [List.mem_singleton.1 hp]
        exact ⟨hq.1, hq.2, by dsimp only; omega⟩
    · rw [List.mem_singleton.1 hb]; exact hle a ha
  · have hap : apply s v = { s with now := v.now } := by unfold apply; rw [if_neg (by omega), if_neg (by omega), if_neg (by omega), if_neg (by omega), if_neg (by omega)]
    rw [hap]
    rw [if_neg (by omega), if_neg (by omega), if_pos q] at hc
    split at hc
    · omega
    have hq : Ev.rng v.now 1099511627776 = true := by rw [← Ev.right7 q]; exact hR
    rw [Ev.rng_iff] at hq
    exact ⟨h.few, h.right, h.ids, h.slots, fun e he => by have := h.born e he; dsimp only; omega, hq, h.pts, h.rising⟩
  · omega
theorem Inv.run {s : Sta} (h : Inv s) (l : List Evt) : Inv (run s l) := by
  induction l generalizing s with
  | nil => exact h
  | cons v l ih => exact ih (h.step v)
/-! snapshots -/
def clockE (n : Int) : Evt := { Evt.zero with kind := 7, now := n }
def paperE (e : Ent) : Evt := { Evt.zero with kind := 1, ent := e }
end Sta
end Go.Proofs.Ytojemaaljjibiaa

namespace Go.Proofs.Ytojemaaljjibiaa
open Go.RowKit
set_option linter.unusedVariables false

/-- A kept paper's rows are its own. -/
structure OwnX (w : World) (x : EntX) : Prop where
  l : w.ownsRow 0 51 4 (.slice x.A x.e.L.length x.ca) x.e.L.length (svs x.e.L)
  h : w.ownsRow 0 9 1 (.slice x.B x.e.H.length x.cb) x.e.H.length (tvs x.e.H)
/-- The blocks that a kept paper owns. -/
def EntX.bl (x : EntX) : List Nat := (Value.slice x.A x.e.L.length x.ca).ownBlock.toList ++ (Value.slice x.B x.e.H.length x.cb).ownBlock.toList
def bls (M : List EntX) : List Nat := M.flatMap EntX.bl
def ids (M : List EntX) : List (List UInt8) := M.map fun x => x.e.id
theorem ids_of {M : List EntX} {P : List Ent} (h : M.map EntX.e = P) : ids M = P.map Ent.id := by rw [← h, List.map_map]; rfl
/-- The state's own blocks, and what they hold. -/
structure StRep (w : World) (q : Nat) (s : List Nat) (M : List EntX) (Q : List Pt) (now : Int) (n : Nat) : Prop where
  ex : ∃ (A : Option Addr) (ca mb : Nat) (B : Option Addr) (cb : Nat), Has w q 58 #[.slice A M.length ca, .map (some mb), .slice B Q.length cb, .int .i64 now, .int .i64 (n : Int)] ∧
    w.ownsRow 0 33 7 (.slice A M.length ca) M.length (xcs M) ∧ w.ownsRow 0 35 2 (.slice B Q.length cb) Q.length (qcs Q) ∧ SeqM w mb (ids M) ∧
    s = (Value.slice A M.length ca).ownBlock.toList ++ ((Value.slice B Q.length cb).ownBlock.toList ++ (mb :: bls M))
  own : ∀ x ∈ M, OwnX w x
  nd : (q :: s).Nodup
theorem OwnX.lt {w : World} {x : EntX} (h : OwnX w x) : ∀ b ∈ x.bl, b < w.heap.size := fun b hb => by
  rcases List.mem_append.1 hb with hb | hb
  · exact (h.l.lt b (Option.mem_toList.1 hb)).2
  · exact (h.h.lt b (Option.mem_toList.1 hb)).2
theorem OwnX.keep {w w' : World} {x : EntX} (h : OwnX w x) (hk : ∀ b ∈ x.bl, w'.heap[b]? = w.heap[b]?) : OwnX w' x :=
  ⟨own_keepB h.l (fun b hb => hk b (List.mem_append.2 (Or.inl (Option.mem_toList.2 hb)))), own_keepB h.h (fun b hb => hk b (List.mem_append.2 (Or.inr (Option.mem_toList.2 hb))))⟩
theorem mem_bls {M : List EntX} {b : Nat} : b ∈ bls M ↔ ∃ x ∈ M, b ∈ x.bl := List.mem_flatMap
theorem StRep.lt {w : World} {q : Nat} {s : List Nat} {M : List EntX} {Q : List Pt} {now : Int} {n : Nat} (h : StRep w q s M Q now n) : q < w.heap.size ∧ ∀ x ∈ s, x < w.heap.size := by
  obtain ⟨A, ca, mb, B, cb, h1, h2, h3, h4, rfl⟩ := h.ex
  refine ⟨h1.lt, fun x hx => ?_⟩
  rcases List.mem_append.1 hx with hx | hx
  · exact (h2.lt x (Option.mem_toList.1 hx)).2
  rcases List.mem_append.1 hx with hx | hx
  · exact (h3.lt x (Option.mem_toList.1 hx)).2
  rcases List.mem_cons.1 hx with rfl | hx
  · exact h4.lt
  · obtain ⟨y, hy, hb⟩ := mem_bls.1 hx
    exact (h.own y hy).lt x hb
theorem StRep.keep {w w' : World} {q : Nat} {s : List Nat} {M : List EntX} {Q : List Pt} {now : Int} {n : Nat} (h : StRep w q s M Q now n) (hk : ∀ b, b ∈ q :: s → w'.heap[b]? = w.heap[b]?) : StRep w' q s M Q now n := by
  have hnd := h.nd
  have how := h.own
  obtain ⟨A, ca, mb, B, cb, h1, h2, h3, h4, rfl⟩ := h.ex
  have k2 := fun b (hb : b ∈ (Value.slice A M.length ca).ownBlock.toList ++ ((Value.slice B Q.length cb).ownBlock.toList ++ (mb :: bls M))) => hk b (List.mem_cons_of_mem _ hb)
  refine ⟨⟨A, ca, mb, B, cb, (hk q (List.mem_cons_self ..)).trans h1, own_keepB h2 (fun b hb => k2 b (List.mem_append.2 (Or.inl (Option.mem_toList.2 hb)))), own_keepB h3 (fun b hb => k2 b (List.mem_append.2 (Or.inr (List.mem_append.2 (Or.inl (Option.mem_toList.2 hb)))))), h4.keep (k2 mb (List.mem_append.2 (Or.inr (List.mem_append.2 (Or.inr (List.mem_cons_self ..)))))), rfl⟩, fun x hx => (how x hx).keep (fun b hb => k2 b (List.mem_append.2 (Or.inr (List.mem_append.2 (Or.inr (List.mem_cons_of_mem _ (mem_bls.2 ⟨x, hx, hb⟩))))))), hnd⟩
/-- The state lies in block q and those of s; those of ot are others. -/
def StAt (w : World) (q : Nat) (s ot : List Nat) (st : Sta) (n : Nat) : Prop := (∃ M : List EntX, M.map EntX.e = st.P ∧ StRep w q s M st.Q st.now n) ∧ ∀ x ∈ ot, x < w.heap.size
section
variable {w w' : World} {q : Nat} {s ot : List Nat} {st : Sta} {n : Nat}
theorem StAt.lt (h : StAt w q s ot st n) : q < w.heap.size ∧ ∀ x ∈ s, x < w.heap.size := by
  obtain ⟨⟨M, _, h⟩, _⟩ := h
  exact h.lt
theorem StAt.ul (h : StAt w q s ot st n) : ∀ x ∈ ot, x < w.heap.size := h.2
theorem StAt.frame {z ot' : List Nat} (h : StAt w q s ot st n) (hm : Mv w w' z) (hz : ∀ x ∈ z, x ∉ q :: s) (hzo : ∀ x ∈ z, x ∈ ot) (ho : ∀ x ∈ ot', x ∈ ot ∨ w.heap.size ≤ x) (hl : ∀ x ∈ ot', x < w'.heap.size) : StAt w' q s ot' st n := by
  have hlt := h.lt
  obtain ⟨⟨M, hM, h⟩, hu⟩ := h
  refine ⟨⟨M, hM, h.keep (fun b hb => hm.block b ?_ (fun hx => hz b hx hb))⟩, hl⟩
  rcases List.mem_cons.1 hb with rfl | hb
  · exact hlt.1
  · exact hlt.2 b hb
theorem StAt.below (h : StAt w q s ot st n) (hb : Below w.heap.size w w') : StAt w' q s ot st n :=
  h.frame (Mv.of_below hb []) (by simp) (by simp) (fun x hx => Or.inl hx) (fun x hx => Nat.lt_of_lt_of_le (h.ul x hx) hb.size)
end
end Go.Proofs.Ytojemaaljjibiaa
