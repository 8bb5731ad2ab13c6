/-
  DskOne: the texts DskFall, DskMem, DskAt in one.
-/
import Derived.Test.YtjdklifkalnamaaGreatDoorJrnPures
import Derived.Lib.SlKeysI
import Derived.Test.YtjdklifkalnamaaGreatDoorMemOne
import Derived.Test.YtjdklifkalnamaaGreatDoorProg
import Derived.Maps.OwnSet
import Derived.Maps.RangeWalk
import Derived.WalkSpells
namespace Go.Proofs.YtjdklifkalnamaaGreatDoor
set_option linter.unusedVariables false

namespace Dsk
/-- The places that wait, in order, counted from o on. -/
def waitsFrom : Nat → List Sec → List Nat
  | _, [] => []
  | o, s :: r => if s.pend.isSome then o :: waitsFrom (o + 1) r else waitsFrom (o + 1) r
def waits (L : List Sec) : List Nat := waitsFrom 0 L
/-- What becomes of a sector whose turn is k. -/
def fsec (f : Fall) (k : Nat) (s : Sec) : Sec := match s.pend with | some p => fallOne f k s p | none => s
def fallFold (f : Fall) : Nat → List Nat → List Sec → List Sec
  | _, [], L => L
  | k, i :: is, L => fallFold f (k + 1) is (L.modify i (fsec f k))
def fallTo (f : Fall) (L : List Sec) (k : Nat) : List Sec := fallFold f 0 ((waits L).take k) L

theorem waitsFrom_mem : ∀ (L : List Sec) (o i : Nat), i ∈ waitsFrom o L ↔ o ≤ i ∧ ((L[i - o]?).bind Sec.pend).isSome = true := by
  intro L
  induction L with
  | nil => intro o i; simp [waitsFrom]
  | cons s r ih =>
    intro o i
    unfold waitsFrom
    have hcase : i ∈ waitsFrom (o + 1) r ↔ o + 1 ≤ i ∧ ((r[i - (o + 1)]?).bind Sec.pend).isSome = true := ih (o + 1) i
    by_cases hi : i = o
    · subst hi
      have hn : ¬ i ∈ waitsFrom (i + 1) r := fun h => by have := (hcase.1 h).1; omega
      by_cases hs : s.pend.isSome = true
      · rw [if_pos hs]; simp [hs]
      · rw [if_neg hs]; simp [hs, hn]
    · have he : o ≤ i ∧ ((((s :: r)[i - o]?).bind Sec.pend).isSome = true) ↔ o + 1 ≤ i ∧ ((r[i - (o + 1)]?).bind Sec.pend).isSome = true := by
        by_cases hlt : o + 1 ≤ i
        · have : i - o = (i - (o + 1)) + 1 := by omega
          rw [this, List.getElem?_cons_succ]
          constructor
          · rintro ⟨_, h⟩; exact ⟨hlt, h⟩
          · rintro ⟨_, h⟩; exact ⟨by omega, h⟩
        · constructor
          · rintro ⟨h, _⟩; omega
          · rintro ⟨h, _⟩; omega
      rw [he, ← hcase]
      split
      · rw [List.mem_cons]; constructor
        · rintro (h | h)
          · exact absurd h hi
          · exact h
        · exact Or.inr
      · rfl
theorem waitsFrom_ge (L : List Sec) (o : Nat) : ∀ i ∈ waitsFrom o L, o ≤ i := fun i h => ((waitsFrom_mem L o i).1 h).1
theorem waitsFrom_rising : ∀ (L : List Sec) (o : Nat), (waitsFrom o L).Pairwise (· < ·) := by
  intro L
  induction L with
  | nil => intro o; exact List.Pairwise.nil
  | cons s r ih =>
    intro o
    unfold waitsFrom
    split
    · exact List.Pairwise.cons (fun i hi => by have := waitsFrom_ge r (o + 1) i hi; omega) (ih (o + 1))
    · exact ih (o + 1)
theorem waits_rising (L : List Sec) : (waits L).Pairwise (· < ·) := waitsFrom_rising L 0
theorem waits_mem (L : List Sec) (i : Nat) : i ∈ waits L ↔ ((L[i]?).bind Sec.pend).isSome = true := by
  unfold waits
  rw [waitsFrom_mem]
  simp
theorem waits_nodup (L : List Sec) : (waits L).Nodup := (waits_rising L).imp (fun h => by omega)
theorem waitsFrom_len : ∀ (L : List Sec) (o : Nat), (waitsFrom o L).length ≤ L.length := by
  intro L
  induction L with
  | nil => intro o; exact Nat.le_refl _
  | cons s r ih =>
    intro o
    unfold waitsFrom
    have := ih (o + 1)
    split
    · rw [List.length_cons, List.length_cons]; omega
    · rw [List.length_cons]; omega
theorem waits_len (L : List Sec) : (waits L).length ≤ L.length := waitsFrom_len L 0
/-- The place number k of those that wait. -/
theorem waits_at (L : List Sec) (k : Nat) (h : k < (waits L).length) : ∃ s p, L[(waits L)[k]]? = some s ∧ s.pend = some p := by
  have hm := (waits_mem L _).1 (List.getElem_mem h)
  cases hs : L[(waits L)[k]]? with
  | none => rw [hs] at hm; simp at hm
  | some s =>
    rw [hs] at hm
    cases hp : s.pend with
    | none => simp [hp] at hm
    | some p => exact ⟨s, p, rfl, hp⟩
theorem waits_lt (L : List Sec) (k : Nat) (h : k < (waits L).length) : (waits L)[k] < L.length := by
  obtain ⟨s, p, hs, _⟩ := waits_at L k h
  exact (List.getElem?_eq_some_iff.1 hs).1

theorem fallFold_append (f : Fall) : ∀ (xs : List Nat) (k i : Nat) (L : List Sec), fallFold f k (xs ++ [i]) L = (fallFold f k xs L).modify i (fsec f (k + xs.length)) := by
  intro xs
  induction xs with
  | nil => intro k i L; rfl
  | cons x xs ih =>
    intro k i L
    show fallFold f (k + 1) (xs ++ [i]) (L.modify x (fsec f k)) = _
    rw [ih, List.length_cons, show k + 1 + xs.length = k + (xs.length + 1) by omega]
    rfl
theorem fallFold_other (f : Fall) : ∀ (xs : List Nat) (k i : Nat) (L : List Sec), i ∉ xs → (fallFold f k xs L)[i]? = L[i]? := by
  intro xs
  induction xs with
  | nil => intro k i L _; rfl
  | cons x xs ih =>
    intro k i L h
    rw [List.mem_cons, not_or] at h
    show (fallFold f (k + 1) xs (L.modify x (fsec f k)))[i]? = _
    rw [ih _ _ _ h.2, List.getElem?_modify]
    have : ¬ x = i := fun e => h.1 e.symm
    simp [this]
theorem fallFold_len (f : Fall) : ∀ (xs : List Nat) (k : Nat) (L : List Sec), (fallFold f k xs L).length = L.length := by
  intro xs
  induction xs with
  | nil => intro k L; rfl
  | cons x xs ih =>
    intro k L
    show (fallFold f (k + 1) xs (L.modify x (fsec f k))).length = _
    rw [ih, List.length_modify]
theorem modify_at {α : Type} (A : List α) (s : α) (r : List α) (g : α → α) : (A ++ s :: r).modify A.length g = (A ++ [g s]) ++ r := by
  induction A with
  | nil => rfl
  | cons a A ih =>
    show a :: (A ++ s :: r).modify A.length g = _
    rw [ih]
    rfl
theorem fallFold_go (f : Fall) : ∀ (r A : List Sec) (k : Nat), fallFold f k (waitsFrom A.length r) (A ++ r) = A ++ fallGo f k r := by
  intro r
  induction r with
  | nil => intro A k; rfl
  | cons s r ih =>
    intro A k
    cases hp : s.pend with
    | none =>
      have e1 : waitsFrom A.length (s :: r) = waitsFrom (A ++ [s]).length r := by
        conv => lhs; unfold waitsFrom
        rw [hp]; simp
      have e2 : fallGo f k (s :: r) = s :: fallGo f k r := by
        conv => lhs; unfold fallGo
        rw [hp]
      rw [e1, e2]
      have := ih (A ++ [s]) k
      rw [List.append_assoc] at this
      rw [show A ++ s :: r = A ++ ([s] ++ r) from rfl, this, List.append_assoc]
      rfl
    | some p =>
      have e1 : waitsFrom A.length (s :: r) = A.length :: waitsFrom (A ++ [fsec f k s]).length r := by
        conv => lhs; unfold waitsFrom
        rw [hp]; simp
      have e3 : fsec f k s = fallOne f k s p := by unfold fsec; rw [hp]
      have e2 : fallGo f k (s :: r) = fsec f k s :: fallGo f (k + 1) r := by
        conv => lhs; unfold fallGo
        rw [hp, e3]
      rw [e1, e2]
      show fallFold f (k + 1) _ ((A ++ s :: r).modify A.length (fsec f k)) = _
      rw [modify_at, ih (A ++ [fsec f k s]) (k + 1), List.append_assoc]
      rfl
theorem fallTo_zero (f : Fall) (L : List Sec) : fallTo f L 0 = L := rfl
theorem fallTo_len (f : Fall) (L : List Sec) (k : Nat) : (fallTo f L k).length = L.length := fallFold_len ..
theorem fallTo_all (f : Fall) (L : List Sec) : fallTo f L (waits L).length = fallGo f 0 L := by
  unfold fallTo
  rw [List.take_length]
  exact fallFold_go f L [] 0
theorem fallTo_at (f : Fall) (L : List Sec) (k : Nat) (h : k < (waits L).length) : (fallTo f L k)[(waits L)[k]]? = L[(waits L)[k]]? := by
  refine fallFold_other f _ 0 _ L fun hm => ?_
  obtain ⟨j, hj, he⟩ := List.mem_iff_getElem.1 hm
  rw [List.length_take] at hj
  rw [List.getElem_take] at he
  have := List.pairwise_iff_getElem.1 (waits_rising L) j k (by omega) h (by omega)
  omega
theorem fallTo_step (f : Fall) (L : List Sec) (k : Nat) (h : k < (waits L).length) : fallTo f L (k + 1) = (fallTo f L k).modify (waits L)[k] (fsec f k) := by
  unfold fallTo
  rw [List.take_succ_eq_append_getElem h, fallFold_append, List.length_take, Nat.min_eq_left (by omega), Nat.zero_add]
/-- One step more: the sector of place number k falls. -/
theorem fallTo_set (f : Fall) (L : List Sec) (k : Nat) (h : k < (waits L).length) {s : Sec} {p : T × Nat} (hs : L[(waits L)[k]]? = some s) (hp : s.pend = some p) :
    fallTo f L (k + 1) = (fallTo f L k).set (waits L)[k] (fallOne f k s p) := by
  rw [fallTo_step f L k h]
  apply List.ext_getElem?
  intro i
  rw [List.getElem?_modify, List.getElem?_set, fallTo_len]
  by_cases hi : (waits L)[k] = i
  · rw [if_pos hi]
    have hl := waits_lt L k h
    rw [if_pos hl, ← hi, fallTo_at f L k h, hs]
    simp [fsec, hp]
  · rw [if_neg hi]
    simp [hi]

theorem fsec_full (f : Fall) (k : Nat) {s : Sec} (h : Full s) : Full (fsec f k s) := by
  unfold fsec
  cases hp : s.pend with
  | none => exact h
  | some p => exact fallOne_full f k s p h.1 (h.2 p hp)
theorem fallFold_good (f : Fall) : ∀ (xs : List Nat) (k : Nat) (L : List Sec), (∀ s ∈ L, Full s) → ∀ s ∈ fallFold f k xs L, Full s := by
  intro xs
  induction xs with
  | nil => intro k L h; exact h
  | cons x xs ih =>
    intro k L h
    refine ih (k + 1) _ fun s hs => ?_
    obtain ⟨j, hj⟩ := List.getElem?_of_mem hs
    rw [List.getElem?_modify] at hj
    cases hL : L[j]? with
    | none => rw [hL] at hj; cases hj
    | some s0 =>
      rw [hL] at hj
      have h0 := h s0 (List.mem_of_getElem? hL)
      have hj := Option.some.inj hj
      subst hj
      split
      · exact fsec_full f k h0
      · exact h0
theorem fallTo_good (f : Fall) {d : St} (h : Good d) (k : Nat) : ∀ s ∈ fallTo f d.secs k, Full s := fallFold_good f _ 0 _ h

/-! what waits, of any place -/
def pendI (L : List Sec) (x : Int) : Option (T × Nat) := if 0 ≤ x then (L[x.toNat]?).bind Sec.pend else none
theorem pendI_nat (L : List Sec) (i : Nat) : pendI L (i : Int) = (L[i]?).bind Sec.pend := by
  unfold pendI
  rw [if_pos (by omega)]
  rfl
theorem mem_waitsI (L : List Sec) (x : Int) : x ∈ (waits L).map (fun i : Nat => (i : Int)) ↔ (pendI L x).isSome = true := by
  rw [List.mem_map]
  constructor
  · rintro ⟨i, hi, rfl⟩
    rw [pendI_nat]
    exact (waits_mem L i).1 hi
  · intro h
    unfold pendI at h
    split at h
    · exact ⟨x.toNat, (waits_mem L _).2 h, by omega⟩
    · simp at h
theorem waitsI_nodup (L : List Sec) : ((waits L).map (fun i : Nat => (i : Int))).Nodup := by
  refine List.pairwise_map.2 ((waits_rising L).imp fun h => ?_)
  omega
theorem waitsI_sorted (L : List Sec) : ((waits L).map (fun i : Nat => (i : Int))).mergeSort leI = (waits L).map (fun i : Nat => (i : Int)) := by
  refine List.mergeSort_of_pairwise ?_
  refine List.pairwise_map.2 ((waits_rising L).imp fun h => ?_)
  simp only [leI, decide_eq_true_eq]
  omega
theorem pendI_put (L : List Sec) (i : Nat) (h : i < L.length) (p : T × Nat) (x : Int) : pendI (L.modify i fun s => ⟨s.sure, s.at_, some p⟩) x = if x = (i : Int) then some p else pendI L x := by
  unfold pendI
  by_cases hx : 0 ≤ x
  · rw [if_pos hx, if_pos hx, List.getElem?_modify]
    by_cases he : x = (i : Int)
    · subst he
      rw [if_pos rfl]
      have : (i : Int).toNat = i := by omega
      rw [this, List.getElem?_eq_getElem h]
      simp
    · rw [if_neg he]
      have : ¬ i = x.toNat := by omega
      simp [this]
  · rw [if_neg hx, if_neg hx, if_neg (by omega)]
theorem pendI_none {L : List Sec} (h : ∀ s ∈ L, s.pend = none) (x : Int) : pendI L x = none := by
  unfold pendI
  split
  · cases hs : L[x.toNat]? with
    | none => rfl
    | some s => exact h s (List.mem_of_getElem? hs)
  · rfl
end Dsk
end Go.Proofs.YtjdklifkalnamaaGreatDoor

namespace Go.Proofs.YtjdklifkalnamaaGreatDoor
open Go.RowKit Go.ChangeMaps Go.MapKept
open Go.Maps (Keyed IsMap Tidy has)
set_option linter.unusedVariables false

/-! ### a sector's cells -/
def secVals (s : List UInt8) (a : Nat) : List Value := bcells s ++ [.int .i64 (a : Int)]
abbrev secV (s : List UInt8) (a : Nat) : Array Value := (secVals s a).toArray
theorem bcells_len (s : List UInt8) : (bcells s).length = s.length := by simp [bcells]
theorem secVals_len {s : List UInt8} {a : Nat} (h : s.length = 64) : (secVals s a).length = 65 := by simp [secVals, bcells_len, h]
theorem secV_size {s : List UInt8} {a : Nat} (h : s.length = 64) : (secV s a).size = 65 := secVals_len h
theorem secVals_one (s : List UInt8) (a : Nat) : ∀ v ∈ secVals s a, v.oneCell' = true := by
  intro v hv
  unfold secVals bcells at hv
  rcases List.mem_append.1 hv with h | h
  · obtain ⟨c, _, rfl⟩ := List.mem_map.1 h; rfl
  · rw [List.mem_singleton.1 h]; rfl
theorem secV_one (s : List UInt8) (a : Nat) : (secV s a).all (·.oneCell') = true := all_oneCell_toArray (secVals_one s a)
theorem secVals_byte {s : List UInt8} {a i : Nat} (h : i < s.length) : (secVals s a)[i]? = (bcells s)[i]? := by
  unfold secVals
  rw [List.getElem?_append_left (by rw [bcells_len]; exact h)]
theorem secVals_stamp {s : List UInt8} {a : Nat} (h : s.length = 64) : (secVals s a)[64]? = some (.int .i64 (a : Int)) := by
  unfold secVals
  rw [List.getElem?_append_right (by rw [bcells_len]; omega), bcells_len, h]
  rfl
theorem secSize : (Tryz.prog.info? 96).map (·.size) = some 65 := by kernel_rfl
theorem secSz {s : List UInt8} {a : Nat} (h : s.length = 64) : (Tryz.prog.info? 96).map (·.size) = some (secVals s a).length := by rw [secVals_len h]; exact secSize
theorem secSzA {s : List UInt8} {a : Nat} (h : s.length = 64) : (Tryz.prog.info? 96).map (·.size) = some (secV s a).size := secSz h
set_option maxRecDepth 100000 in
theorem zeroSec (w : World) : (zeroValue 96).run Tryz.prog w = .ok (.agg (secV (List.replicate 64 0) 0)) w := by kernel_rfl

/-! ### the row of sectors -/
def Rows (w : World) (bd : Nat) (L : List Dsk.Sec) : Prop :=
  ∃ cs, Has w bd 96 cs ∧ cs.size = L.length * 65 ∧ ∀ i s, L[i]? = some s → w.rangeAt bd (i * 65) (secVals s.sure s.at_)
theorem Rows.lt {w : World} {bd : Nat} {L : List Dsk.Sec} (h : Rows w bd L) : bd < w.heap.size := by
  obtain ⟨cs, h1, _⟩ := h
  exact h1.lt
theorem Rows.keep {w w' : World} {bd : Nat} {L : List Dsk.Sec} (h : Rows w bd L) (hb : w'.heap[bd]? = w.heap[bd]?) : Rows w' bd L := by
  obtain ⟨cs, h1, h2, h3⟩ := h
  exact ⟨cs, hb.trans h1, h2, fun i s hs => rangeAt_keep (h3 i s hs) hb⟩
theorem Rows.at {w : World} {bd : Nat} {L : List Dsk.Sec} (h : Rows w bd L) {i : Nat} {s : Dsk.Sec} (hs : L[i]? = some s) : w.rangeAt bd (i * 65) (secVals s.sure s.at_) := by
  obtain ⟨cs, h1, h2, h3⟩ := h
  exact h3 i s hs
theorem Rows.there {w : World} {bd : Nat} {L : List Dsk.Sec} (h : Rows w bd L) {i : Nat} (hi : i < L.length) : w.there bd (i * 65) 65 := by
  obtain ⟨cs, h1, h2, _⟩ := h
  exact h1.there (by rw [h2]; omega)
/-- A sector is stored. -/
theorem Rows.store {w : World} {bd : Nat} {L : List Dsk.Sec} (h : Rows w bd L) {i : Nat} (hi : i < L.length) (x : Dsk.Sec) (hx : x.sure.length = 64) (hL : ∀ s ∈ L, s.sure.length = 64) :
    Rows (w.setCells bd (i * 65) (secVals x.sure x.at_)) bd (L.set i x) := by
  have hth := h.there hi
  obtain ⟨cs, h1, h2, h3⟩ := h
  obtain ⟨cs', h4, h5⟩ := Has.setCells (secVals x.sure x.at_) (i * 65) w cs h1
  refine ⟨cs', h4, by rw [h5, h2, List.length_set], fun j s hs => ?_⟩
  rw [List.getElem?_set] at hs
  by_cases hj : i = j
  · subst hj
    rw [if_pos rfl, if_pos hi] at hs
    injection hs with hs
    subst hs
    exact World.rangeAt_setCells_same w bd _ _ (by rw [secVals_len hx]; exact hth)
  · rw [if_neg hj] at hs
    have hl : s.sure.length = 64 := hL s (List.mem_of_getElem? hs)
    refine World.rangeAt_setCells_apart (h3 j s hs) bd _ _ (Or.inr ?_)
    rw [secVals_len hl, secVals_len hx]
    omega
theorem Rows.sub {w : World} {bd : Nat} {L M : List Dsk.Sec} (h : Rows w bd L) (hl : M.length = L.length) (hM : ∀ (i : Nat) (s : Dsk.Sec), M[i]? = some s → ∃ x : Dsk.Sec, L[i]? = some x ∧ x.sure = s.sure ∧ x.at_ = s.at_) : Rows w bd M := by
  obtain ⟨cs, h1, h2, h3⟩ := h
  refine ⟨cs, h1, by rw [h2, hl], fun i s hs => ?_⟩
  obtain ⟨x, hx, e1, e2⟩ := hM i s hs
  have := h3 i x hx
  rw [e1, e2] at this
  exact this

/-! ### the map of what waits -/
def heldE : Value → Option (DataW (Array Value) × List MemPlace)
  | .agg cs => some (.held cs, [])
  | _ => none
theorem heldE_mk (cs : Array Value) : heldE (.agg cs) = some (.held cs, []) := rfl
theorem heldE_inv {v : Value} {cs : Array Value} {ps : List MemPlace} (h : heldE v = some (.held cs, ps)) : v = .agg cs := by
  unfold heldE at h
  split at h
  · injection h with h
    injection h with h1 h2
    injection h1 with h1
    rw [h1]
  · cases h
theorem heldE_shape {v : Value} {y : DataW (Array Value) × List MemPlace} (h : heldE v = some y) : ∃ cs, v = .agg cs := by
  unfold heldE at h
  split at h
  · exact ⟨_, rfl⟩
  · cases h
theorem lawInt : Keyed Tryz.prog 3 := Go.Maps.int_keyed Tryz.underlying3
theorem keyInt {x : Int} (h : (Lit.int .i64 x).wf = true) : keyOf Tryz.prog 3 (.int .i64 x) = some (.int .i64 x) := Go.Maps.keyOf_int_mk Tryz.underlying3 h
theorem wfi {x : Int} (h1 : -9223372036854775808 ≤ x) (h2 : x ≤ 9223372036854775807) : (Lit.int .i64 x).wf = true := WalkArith.wf_i64 ⟨h1, by omega⟩
theorem wfn {i : Nat} (h : i ≤ 1000000) : (Lit.int .i64 (i : Int)).wf = true := wfi (by omega) (by omega)

abbrev PQ := Int → Option (List UInt8 × Nat)
/-- Map mb reads as D, and D says what waits. -/
def Says (D : DataW (Array Value)) (q : PQ) : Prop :=
  ∀ x : Int, (Lit.int .i64 x).wf = true → has D (.int .i64 x) = (q x).isSome ∧ ∀ z, D.atKey (.int .i64 x) z = (match q x with | some p => .held (secV p.1 p.2) | none => z)
def Pend (w : World) (mb n : Nat) (q : PQ) : Prop := ∃ D : DataW (Array Value), w.ownsMap Tryz.prog 3 heldE mb n D ∧ Says D q
theorem Pend.keep {w w' : World} {mb n : Nat} {q : PQ} (h : Pend w mb n q) (hb : w'.heap[mb]? = w.heap[mb]?) : Pend w' mb n q := by
  obtain ⟨D, ⟨es, clock, h1, h2⟩, h3⟩ := h
  exact ⟨D, ⟨es, clock, hb.trans h1, h2⟩, h3⟩
theorem Pend.lt {w : World} {mb n : Nat} {q : PQ} (h : Pend w mb n q) : mb < w.heap.size := by
  obtain ⟨D, h1, _⟩ := h
  exact h1.lt
theorem Pend.mono {w : World} {mb n m : Nat} {q : PQ} (h : Pend w mb n q) (hm : n ≤ m) : Pend w mb m q := by
  obtain ⟨D, h1, h2⟩ := h
  exact ⟨D, h1.mono hm, h2⟩
theorem Pend.same {w : World} {mb n : Nat} {q q' : PQ} (h : Pend w mb n q) (hq : ∀ x, q' x = q x) : Pend w mb n q' := by
  obtain rfl : q' = q := funext hq
  exact h
theorem Pend.made (w : World) : Pend (w.alloc (.map #[] 0)) w.heap.size 0 (fun _ => none) :=
  ⟨.map [], World.ownsMap_made w _ _ _, fun x _ => ⟨rfl, fun z => rfl⟩⟩
/-- What a look-up finds. -/
def found (q : PQ) (x : Int) : Array Value := match q x with | some p => secV p.1 p.2 | none => secV (List.replicate 64 0) 0
theorem Pend.look_ok {w : World} {mb n : Nat} {q : PQ} (h : Pend w mb n q) {x : Int} (hx : (Lit.int .i64 x).wf = true) :
    (Instr.lookup 67 (.map (some mb)) (.int .i64 x) true).run Tryz.prog w = .ok (.tuple #[.agg (found q x), .bool (q x).isSome]) w := by
  obtain ⟨D, hown, hD⟩ := h
  obtain ⟨hh, ha⟩ := hD x hx
  obtain ⟨v, ps, hrun, hv⟩ := hown.look_ok lawInt Tryz.underlying67 (zeroSec w) (heldE_mk _) (keyInt hx)
  rw [hrun, hh]
  rw [ha] at hv
  unfold found
  cases hq : q x with
  | none => rw [hq] at hv; rw [heldE_inv hv]
  | some p => rw [hq] at hv; rw [heldE_inv hv]
theorem Pend.look {w : World} {mb n : Nat} {q : PQ} (h : Pend w mb n q) {x : Int} (hx : (Lit.int .i64 x).wf = true) {p : List UInt8 × Nat} (hq : q x = some p) :
    (Instr.lookup 67 (.map (some mb)) (.int .i64 x) false).run Tryz.prog w = .ok (.agg (secV p.1 p.2)) w := by
  obtain ⟨D, ⟨es, clock, hb, F, hs, rfl⟩, hD⟩ := h
  obtain ⟨hh, ha⟩ := hD x hx
  rw [hq] at ha
  rcases Go.Maps.fit_look false lawInt Tryz.underlying67 (zeroSec w) hb F (keyInt hx) with ⟨_, _, hat⟩ | ⟨e0, y, _, _, hrun, hv, hat, _⟩
  · have h1 := ha .nil
    rw [hat] at h1
    cases h1
  · rw [hrun]
    have h1 := ha .nil
    rw [hat] at h1
    obtain ⟨y1, y2⟩ := y
    dsimp only at h1
    subst h1
    rw [heldE_inv hv]
    rfl
theorem keyIntLit (x : Int) : Go.WideAt.IsKeyLit (.int .i64 x) := trivial
theorem Pend.put {w : World} {mb n : Nat} {q : PQ} (h : Pend w mb n q) {x : Int} (hx : (Lit.int .i64 x).wf = true) (p : List UInt8 × Nat) (hn : n < maxLen) :
    ∃ w', (Instr.mapUpdate 67 (.map (some mb)) (.int .i64 x) (.agg (secV p.1 p.2))).run Tryz.prog w = .ok () w' ∧ Pend w' mb (n + 1) (fun y => if y = x then some p else q y) ∧ Only w w' mb := by
  obtain ⟨D, hown, hD⟩ := h
  obtain ⟨w', hrun, hown', hmv⟩ := hown.store lawInt Tryz.underlying67 hn (keyInt hx) (heldE_mk (secV p.1 p.2))
  refine ⟨w', hrun, ⟨_, hown', fun y hy => ?_⟩, hmv.grown⟩
  by_cases hi : y = x
  · subst hi
    dsimp only
    rw [if_pos rfl]
    refine ⟨?_, fun z => ?_⟩
    · rw [Go.Maps.has_put_same hown.isMap (keyIntLit y)]; rfl
    · rw [Go.Maps.atKey_put_same hown.isMap (keyIntLit y)]
  · have hne : Lit.int .i64 y ≠ Lit.int .i64 x := fun hh => hi (by injection hh)
    obtain ⟨q1, q2⟩ := hD y hy
    dsimp only
    rw [if_neg hi]
    refine ⟨?_, fun z => ?_⟩
    · rw [Go.Maps.has_put_other hne, q1]
    · rw [Go.Maps.atKey_put_other hne, q2]
theorem clear_map {P : Program} {t ty k e : TypeId} {w : World} {b : Nat} {es : Array MapEntry} {clock : Nat} (ht : P.underlying t = some (.map k e)) (hb : w.heap[b]? = some (.map es clock)) :
    (Builtin.clear_ #[t] ty #[.map (some b)]).run P w = .ok (.tuple #[]) (setBlock w b (.map #[] clock)) := by
  simp [Builtin.clear_, run_underlying ht, Go.MapKept.run_getObj_map hb, Go.MapKept.run_setObj_map _ hb, Result.andThen, setBlock]
theorem Pend.clear {w : World} {mb n : Nat} {q : PQ} (h : Pend w mb n q) :
    ∃ w', (∀ ty, (Builtin.clear_ #[67] ty #[.map (some mb)]).run Tryz.prog w = .ok (.tuple #[]) w') ∧ Pend w' mb 0 (fun _ => none) ∧ Only w w' mb := by
  obtain ⟨D, ⟨es, clock, hb, F, hs, rfl⟩, hD⟩ := h
  refine ⟨_, fun ty => clear_map Tryz.underlying67 hb, ⟨.map [], ⟨#[], clock, heap_setBlock_same hb _, ⟨by simp, stamped_empty clock, by simp⟩, Nat.le_refl _, rfl⟩, fun x _ => ⟨rfl, fun z => rfl⟩⟩, ?_⟩
  exact ⟨rfl, rfl, rfl, by simp [setBlock], fun i _ hi => heap_setBlock_other hb _ (fun e => hi (by rw [e]))⟩
/-- The keys, sorted, are the places that wait. -/
theorem Says.perm {w : World} {mb n : Nat} {D : DataW (Array Value)} {L : List Dsk.Sec} (hown : w.ownsMap Tryz.prog 3 heldE mb n D) (h : Says D (Dsk.pendI L)) (hL : L.length ≤ 1000000) :
    ((Dsk.waits L).map (fun i : Nat => (i : Int))).Perm (intKeys D) := by
  obtain ⟨es, hD, hpw, _⟩ := hown.entries lawInt
  have hint : ∀ p ∈ es, ∃ x, p.1 = .int .i64 x ∧ (Lit.int .i64 x).wf = true := by
    intro p hp'
    obtain ⟨es', hD', hk'⟩ := hown.keysOf
    rw [hD] at hD'
    injection hD' with hD'
    rw [hD'] at hp'
    obtain ⟨key, hkey⟩ := hk' p hp'
    obtain ⟨x, _, hx, hw⟩ := Maps.keyOf_i64 Tryz.underlying3 hkey
    exact ⟨x, hx, hw⟩
  · rw [hD]
    refine perm_intKeys hpw (fun p hp' => ?_) (Dsk.waitsI_nodup L) fun x => ?_
    · obtain ⟨x, hx, _⟩ := hint p hp'; exact ⟨x, hx⟩
    · rw [Dsk.mem_waitsI]
      by_cases hx : (Lit.int .i64 x).wf = true
      · rw [← hD, (h x hx).1]
      · constructor
        · intro hh
          exfalso
          apply hx
          obtain ⟨i, hi, rfl⟩ := List.mem_map.1 ((Dsk.mem_waitsI L x).2 hh)
          have hlt : i < L.length := by
            have := (Dsk.waits_mem L i).1 hi
            refine Nat.lt_of_not_le fun hge => ?_
            rw [List.getElem?_eq_none hge] at this
            cases this
          exact wfn (by omega)
        · intro hh
          exfalso
          apply hx
          rw [Go.Maps.has_eq, List.any_eq_true] at hh
          obtain ⟨p, hp', he⟩ := hh
          obtain ⟨y, hy, hw⟩ := hint p hp'
          rw [hy] at he
          have := Go.WideAt.sameKey_eq he
          injection this with _ this
          rw [← this]; exact hw
theorem Says.keys {w : World} {mb n : Nat} {D : DataW (Array Value)} {L : List Dsk.Sec} (hown : w.ownsMap Tryz.prog 3 heldE mb n D) (h : Says D (Dsk.pendI L)) (hL : L.length ≤ 1000000) {ss : List Int} (hp : ss.Perm (intKeys D)) :
    ss.mergeSort leI = (Dsk.waits L).map (fun i : Nat => (i : Int)) := by
  rw [mergeSort_of_perm_i (hp.trans (h.perm hown hL).symm), Dsk.waitsI_sorted]
theorem own_tight {H : Type} {P : Program} {k : TypeId} {R : Value → Option (DataW H × List MemPlace)} {w : World} {b n : Nat} {D : DataW H} (h : w.ownsMap P k R b n D) : w.ownsMap P k R b (Go.Maps.size D) D := by
  obtain ⟨es, clock, hb, F, hs, rfl⟩ := h
  exact ⟨es, clock, hb, F, by simp [Go.Maps.size, length_sorted], rfl⟩
/-- No more wait than there are sectors. -/
theorem Pend.tight {w : World} {mb n : Nat} {L : List Dsk.Sec} (h : Pend w mb n (Dsk.pendI L)) (hL : L.length ≤ 8192) : Pend w mb 8192 (Dsk.pendI L) := by
  obtain ⟨D, hown, hD⟩ := h
  have hp := (hD.perm hown (by omega)).length_eq
  have hl := Dsk.waits_len L
  rw [List.length_map] at hp
  have hs : Go.Maps.size D = (intKeys D).length := by
    obtain ⟨es, he, _⟩ := hown.entries lawInt
    rw [he]
    exact (List.length_map _).symm
  exact ⟨D, (own_tight hown).mono (by omega), hD⟩
end Go.Proofs.YtjdklifkalnamaaGreatDoor

namespace Go.Proofs.YtjdklifkalnamaaGreatDoor
open Go.RowKit
set_option linter.unusedVariables false

def Fok (f : Dsk.Fall) : Prop := f.keep < 18446744073709551616 ∧ -9223372036854775808 ≤ f.tear ∧ f.tear ≤ 9223372036854775807
def ArmOk (a : Option (Nat × Dsk.Fall)) (l0 k0 t0 : Int) : Prop := ∀ n f, a = some (n, f) → l0 = (n : Int) ∧ k0 = (f.keep : Int) ∧ t0 = f.tear ∧ n ≤ 9223372036854775807 ∧ Fok f
def dskCells (bd mb n : Nat) (up : Bool) (acts falls : Nat) (l0 k0 t0 : Int) (arm : Bool) : Array Value :=
  #[.slice (some ⟨bd, 0, none⟩) n n, .map (some mb), .bool up, .int .i64 (acts : Int), .int .i64 (falls : Int), .int .i64 l0, .int .u64 k0, .int .i64 t0, .bool arm]
/-- Block g is the document's disk d; its sectors lie in block bd, what waits in the map of block mb. -/
structure DiskAt (w : World) (g bd mb : Nat) (d : Dsk.St) : Prop where
  cells : ∃ l0 k0 t0, Has w g 71 (dskCells bd mb d.secs.length d.up d.acts d.falls l0 k0 t0 d.arm.isSome) ∧ ArmOk d.arm l0 k0 t0
  rows : Rows w bd d.secs
  pend : Pend w mb 8192 (Dsk.pendI d.secs)
  good : Dsk.Good d
  n1 : g ≠ bd
  n2 : g ≠ mb
  n3 : bd ≠ mb
  pos : 0 < d.secs.length
  most : d.secs.length ≤ 8192
theorem DiskAt.lt {w : World} {g bd mb : Nat} {d : Dsk.St} (h : DiskAt w g bd mb d) : g < w.heap.size ∧ bd < w.heap.size ∧ mb < w.heap.size := by
  obtain ⟨l0, k0, t0, h1, _⟩ := h.cells
  exact ⟨h1.lt, h.rows.lt, h.pend.lt⟩
theorem DiskAt.keep {w w' : World} {g bd mb : Nat} {d : Dsk.St} (h : DiskAt w g bd mb d) (h1 : w'.heap[g]? = w.heap[g]?) (h2 : w'.heap[bd]? = w.heap[bd]?) (h3 : w'.heap[mb]? = w.heap[mb]?) : DiskAt w' g bd mb d := by
  obtain ⟨l0, k0, t0, hc, ha⟩ := h.cells
  exact ⟨⟨l0, k0, t0, h1.trans hc, ha⟩, h.rows.keep h2, h.pend.keep h3, h.good, h.n1, h.n2, h.n3, h.pos, h.most⟩
theorem DiskAt.mv {w w' : World} {g bd mb : Nat} {d : Dsk.St} {s : List Nat} (h : DiskAt w g bd mb d) (hm : Mv w w' s) (h1 : g ∉ s) (h2 : bd ∉ s) (h3 : mb ∉ s) : DiskAt w' g bd mb d := by
  obtain ⟨l1, l2, l3⟩ := h.lt
  exact h.keep (hm.block _ l1 h1) (hm.block _ l2 h2) (hm.block _ l3 h3)
theorem DiskAt.below {w w' : World} {g bd mb : Nat} {d : Dsk.St} (h : DiskAt w g bd mb d) (hb : Below w.heap.size w w') : DiskAt w' g bd mb d := by
  obtain ⟨l1, l2, l3⟩ := h.lt
  exact h.keep (hb.block _ l1) (hb.block _ l2) (hb.block _ l3)

/-- What lies in a disk's own cells. -/
abbrev Cells9 (w : World) (g bd mb n : Nat) (up : Bool) (acts falls : Nat) (l0 k0 t0 : Int) (arm : Bool) : Prop :=
  w.cell? ⟨g, 0, none⟩ = some (.slice (some ⟨bd, 0, none⟩) n n) ∧ w.cell? ⟨g, 1, none⟩ = some (.map (some mb)) ∧ w.cell? ⟨g, 2, none⟩ = some (.bool up) ∧ w.cell? ⟨g, 3, none⟩ = some (.int .i64 (acts : Int)) ∧
  w.cell? ⟨g, 4, none⟩ = some (.int .i64 (falls : Int)) ∧ w.cell? ⟨g, 5, none⟩ = some (.int .i64 l0) ∧ w.cell? ⟨g, 6, none⟩ = some (.int .u64 k0) ∧ w.cell? ⟨g, 7, none⟩ = some (.int .i64 t0) ∧ w.cell? ⟨g, 8, none⟩ = some (.bool arm)
theorem cells9 {w : World} {g bd mb n : Nat} {up : Bool} {acts falls : Nat} {l0 k0 t0 : Int} {arm : Bool} (h : Has w g 71 (dskCells bd mb n up acts falls l0 k0 t0 arm)) : Cells9 w g bd mb n up acts falls l0 k0 t0 arm :=
  ⟨h.cell 0, h.cell 1, h.cell 2, h.cell 3, h.cell 4, h.cell 5, h.cell 6, h.cell 7, h.cell 8⟩

theorem run_made (bd n : Nat) (W : World) : (binOp .neq 66 (.slice (some ⟨bd, 0, none⟩) n n) (.slice none 0 0)).run Tryz.prog W = .ok (.bool true) W :=
  run_neq_slice_nil_any W _ _ _ _ _ _ _ Tryz.underlying66
theorem works_any {w : World} {g bd mb : Nat} {d : Dsk.St} (h : DiskAt w g bd mb d) :
    Calls Tryz.prog 32 #[.pointer (some ⟨g, 0, none⟩)] w fun r w' => r = .returned (.bool true) ∧ w = w' := by
  obtain ⟨l0, k0, t0, hc, _⟩ := h.cells
  obtain ⟨c0, _⟩ := cells9 hc
  generalize d.secs.length = n at c0
  have hne := fun W => run_made bd n W
  go_enter Tryz.func32, Tryz.ntmps32
  go_wp2_with fail
  go_ret
  exact ⟨rfl, rfl⟩
theorem powered_any {w : World} {g bd mb : Nat} {d : Dsk.St} (h : DiskAt w g bd mb d) :
    Calls Tryz.prog 36 #[.pointer (some ⟨g, 0, none⟩)] w fun r w' => r = .returned (.int .i64 (if d.up = true then 0 else 8)) ∧ w = w' := by
  have hw := works_any h
  obtain ⟨l0, k0, t0, hc, _⟩ := h.cells
  obtain ⟨_, _, c2, _⟩ := cells9 hc
  generalize d.up = up at c2 ⊢
  clear hc h
  have HW := Lib.hid hw; clear hw
  cases up
  · go_enter Tryz.func36, Tryz.ntmps36
    go_wp2_with fail
    refine HW.out.mono ?_
    rintro r w1 ⟨rfl, rfl⟩
    go_wp2_with fail
    go_ret
    exact ⟨rfl, rfl⟩
  · go_enter Tryz.func36, Tryz.ntmps36
    go_wp2_with fail
    refine HW.out.mono ?_
    rintro r w1 ⟨rfl, rfl⟩
    go_wp2_with fail
    go_ret
    exact ⟨rfl, rfl⟩
/-- Is there a sector i? -/
def inB (i : Int) (n : Nat) : Bool := decide (0 ≤ i) && decide (i < (n : Int))
theorem inB_true {i : Int} {n : Nat} : inB i n = true ↔ 0 ≤ i ∧ i < (n : Int) := by unfold inB; simp
theorem has_any {w : World} {g bd mb : Nat} {d : Dsk.St} (h : DiskAt w g bd mb d) (i : Int) :
    Calls Tryz.prog 70 #[.pointer (some ⟨g, 0, none⟩), .int .i64 i] w fun r w' => r = .returned (.bool (inB i d.secs.length)) ∧ w = w' := by
  have hw := works_any h
  obtain ⟨l0, k0, t0, hc, _⟩ := h.cells
  obtain ⟨c0, _⟩ := cells9 hc
  have hR : inB i d.secs.length = (decide (0 ≤ i) && decide (i < (d.secs.length : Int))) := rfl
  generalize inB i d.secs.length = rr at hR ⊢
  generalize d.secs.length = n at c0 hR
  clear hc h
  have HW := Lib.hid hw; clear hw
  have HR := Lib.hid hR; clear hR
  go_enter Tryz.func70, Tryz.ntmps70
  go_wp2_with fail
  refine HW.out.mono ?_
  rintro r w1 ⟨rfl, rfl⟩
  go_wp2_with fail
  all_goals go_ret
  all_goals refine ⟨ret_bool ?_, rfl⟩
  all_goals rw [HR.out]
  all_goals first
    | (rw [Bool.eq_iff_iff, Bool.and_eq_true, decide_eq_true_iff, decide_eq_true_iff]; omega)
    | (symm; rw [Bool.and_eq_true, decide_eq_true_iff, decide_eq_true_iff]; omega)
    | (symm; rw [Bool.eq_false_iff, ne_eq, Bool.and_eq_true, decide_eq_true_iff, decide_eq_true_iff]; omega)
theorem access_any {w : World} {g bd mb : Nat} {d : Dsk.St} (h : DiskAt w g bd mb d) (i : Int) :
    Calls Tryz.prog 56 #[.pointer (some ⟨g, 0, none⟩), .int .i64 i] w fun r w' => r = .returned (.int .i64 (if d.up = true then (if inB i d.secs.length = true then 0 else 5) else 8)) ∧ w = w' := by
  have hw := powered_any h
  have hh := has_any h i
  generalize d.up = up at hw ⊢
  generalize inB i d.secs.length = rr at hh ⊢
  clear h
  have HH := Lib.hid hh; clear hh
  have HW := Lib.hid hw; clear hw
  cases up
  · go_enter Tryz.func56, Tryz.ntmps56
    go_wp2_with fail
    refine HW.out.mono ?_
    rintro r w1 ⟨rfl, rfl⟩
    go_wp2_with fail
    go_ret
    exact ⟨rfl, rfl⟩
  · cases rr
    · go_enter Tryz.func56, Tryz.ntmps56
      go_wp2_with fail
      refine HW.out.mono ?_
      rintro r w1 ⟨rfl, rfl⟩
      go_wp2_with fail
      refine HH.out.mono ?_
      rintro r w1 ⟨rfl, rfl⟩
      go_wp2_with fail
      go_ret
      exact ⟨rfl, rfl⟩
    · go_enter Tryz.func56, Tryz.ntmps56
      go_wp2_with fail
      refine HW.out.mono ?_
      rintro r w1 ⟨rfl, rfl⟩
      go_wp2_with fail
      refine HH.out.mono ?_
      rintro r w1 ⟨rfl, rfl⟩
      go_wp2_with fail
      go_ret
      exact ⟨rfl, rfl⟩
end Go.Proofs.YtjdklifkalnamaaGreatDoor
