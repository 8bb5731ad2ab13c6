/-
  A mill in memory: its table, its notes, its cells; and what turns.
-/
import Derived.Test.YtgjknfphmmlcdaaDoorMillSpec
import Derived.Test.YtgjknfphmmlcdaaDoorShaTabs
import Derived.Maps.OwnSet
import Derived.DeepKeys4
namespace Go.Proofs.YtgjknfphmmlcdaaDoor
open Go.RowKit
open Go.Maps (Keyed IsMap Tidy has)
set_option linter.unusedVariables false

/-- Only the old blocks of s have turned. -/
structure Mv (w w' : World) (s : List Nat) : Prop where
  os : w'.os = w.os
  tape : w'.tape = w.tape
  output : w'.output = w.output
  size : w.heap.size ≤ w'.heap.size
  block : ∀ k, k < w.heap.size → k ∉ s → w'.heap[k]? = w.heap[k]?
theorem Mv.refl (w : World) (s : List Nat) : Mv w w s := ⟨rfl, rfl, rfl, Nat.le_refl _, fun _ _ _ => rfl⟩
theorem Mv.trans {a b c : World} {s : List Nat} (h : Mv a b s) (k : Mv b c s) : Mv a c s :=
  ⟨k.os.trans h.os, k.tape.trans h.tape, k.output.trans h.output, Nat.le_trans h.size k.size, fun i hi hn => (k.block i (Nat.lt_of_lt_of_le hi h.size) hn).trans (h.block i hi hn)⟩
theorem Mv.of_below {w w' : World} (h : Below w.heap.size w w') (s : List Nat) : Mv w w' s := ⟨h.os, h.tape, h.output, h.size, fun i hi _ => h.block i hi⟩
theorem Mv.of_only {w w' : World} {g : Nat} (h : Only w w' g) {s : List Nat} (hg : g ∈ s) : Mv w w' s := ⟨h.os, h.tape, h.output, h.size, fun i hi hn => h.block i hi (fun e => hn (by injection e with e; rw [e]; exact hg))⟩
theorem Mv.wide {w w' : World} {s t : List Nat} (h : Mv w w' s) (hs : ∀ x ∈ s, x ∈ t) : Mv w w' t := ⟨h.os, h.tape, h.output, h.size, fun i hi hn => h.block i hi (fun e => hn (hs i e))⟩
theorem Mv.below {w0 w w' : World} {s : List Nat} {B : Nat} (h : Mv w w' s) (hb : Below B w0 w) (hB : B ≤ w.heap.size) (hs : ∀ x ∈ s, B ≤ x) : Below B w0 w' :=
  hb.trans ⟨h.os, h.tape, h.output, h.size, fun i hi => h.block i (by omega) (fun hm => by have := hs i hm; omega)⟩
theorem Mv.drew {a b : World} {s : List Nat} (h : Mv a b s) : Mv a b.drew s := ⟨h.os, h.tape, h.output, h.size, h.block⟩
theorem Mv.from_drew {a b : World} {s : List Nat} (h : Mv a.drew b s) : Mv a b s := ⟨h.os, h.tape, h.output, h.size, h.block⟩
theorem Mv.alloc {a b : World} {s : List Nat} (h : Mv a b s) (o : Obj) : Mv a (b.alloc o) s := h.trans (Mv.of_below ((Below.refl _ b).alloc (Nat.le_refl _) o) s)
theorem Mv.has {w w' : World} {s : List Nat} {k : Nat} {t : TypeId} {cs : Array Value} (h : Mv w w' s) (hk : Has w k t cs) (hn : k ∉ s) : Has w' k t cs := (h.block k hk.lt hn).trans hk
theorem Mv.tabs {w w' : World} {s : List Nat} (h : Mv w w' s) (hT : Tabs w) (hs : ∀ x ∈ s, 2 ≤ x) : Tabs w' :=
  hT.below (B := 2) ⟨h.os, h.tape, h.output, h.size, fun i hi => h.block i (Nat.lt_of_lt_of_le hi hT.2.2) (fun hm => by have := hs i hm; omega)⟩ (Nat.le_refl _)
theorem Mv.upto {w w' : World} {s : List Nat} (h : Mv w w' s) : Below w.heap.size w w' ∨ ∃ x ∈ s, x < w.heap.size := by
  by_cases hx : ∃ x ∈ s, x < w.heap.size
  · exact Or.inr hx
  · exact Or.inl ⟨h.os, h.tape, h.output, h.size, fun i hi => h.block i hi (fun hm => hx ⟨i, hm, hi⟩)⟩

/-! ### keys and elements -/
def inVal (i : Mill.In) : Value := .agg #[.bool i.1, .string (S i.2.1), .string (S i.2.2)]
def inLit (i : Mill.In) : Lit := .string (keyBytes [.bool i.1, .string i.2.1, .string i.2.2])
theorem cellsIn : Tryd.prog.cellsOf 102 = 3 := by kernel_rfl
theorem cellsStr : Tryd.prog.cellsOf 9 = 1 := by kernel_rfl
theorem cellsBool : Tryd.prog.cellsOf 4 = 1 := by kernel_rfl
theorem keyIn : Tryd.prog.keyType 102 = true := by kernel_rfl
theorem rowIn : (102 : TypeId) < Tryd.prog.types.size := of_decide_eq_true (by kernel_rfl)
theorem wideIn : (match Tryd.prog.underlying 102 with | some (.array _ _) | some (.struct _) => true | _ => false) = true := by kernel_rfl
set_option maxRecDepth 100000 in
theorem lawIn : Keyed Tryd.prog 102 := Keyed.of_law (deep_law_laid laidOut (m := 3) (by omega) rowIn (by kernel_rfl) wideIn)
theorem lawStr : Keyed Tryd.prog 9 := Go.Maps.string_keyed Tryd.underlying9

theorem succ_of_pos {n : Nat} (h : 0 < n) : ∃ m, n = m + 1 := ⟨n - 1, by omega⟩
theorem typesPos : ∃ n, Tryd.prog.types.size = n + 1 := succ_of_pos (of_decide_eq_true (by kernel_rfl))
theorem litsStr (d : Nat) (l : List UInt8) (h : l.length ≤ maxLen) : Tryd.prog.keyLits (d + 1) 9 [.string (S l)] = some [.string l] := by
  have hs : (S l).size ≤ maxLen := h
  unfold Program.keyLits
  rw [Tryd.underlying9]
  simp only [hs, if_true]
  simp [S]
theorem litsBool (d : Nat) (b : Bool) : Tryd.prog.keyLits (d + 1) 4 [.bool b] = some [.bool b] := by
  unfold Program.keyLits
  rw [Tryd.underlying4]
theorem keyOf_in (i : Mill.In) (h1 : i.2.1.length ≤ maxLen) (h2 : i.2.2.length ≤ maxLen) : keyOf Tryd.prog 102 (inVal i) = some (inLit i) := by
  obtain ⟨b, k, t⟩ := i
  have hf : (inVal (b, k, t)).formed Tryd.prog 102 = true := by
    simp [Value.formed, inVal, Tryd.underlying102, cellsIn]
  obtain ⟨n, hn⟩ := typesPos
  have hk : Tryd.prog.keyLits (Tryd.prog.types.size + 1) 102 [.bool b, .string (S k), .string (S t)] = some [.bool b, .string k, .string t] := by
    rw [hn]
    unfold Program.keyLits
    rw [Tryd.underlying102]
    have hb := litsBool n b
    have hs := litsStr n k h1
    have ht := litsStr n t h2
    simp [cellsIn, cellsStr, cellsBool, hb, hs, ht, List.mapM_cons]
  unfold keyOf
  rw [Tryd.underlying102]
  simp only [keyIn, hf, Bool.and_self, if_true]
  have hc : (inVal (b, k, t)).cells.toList = [.bool b, .string (S k), .string (S t)] := rfl
  rw [hc, hk]
  rfl
theorem inVal_inj {i j : Mill.In} (h : inVal i = inVal j) : i = j := by
  obtain ⟨a, b, c⟩ := i
  obtain ⟨a', b', c'⟩ := j
  simp only [inVal, Value.agg.injEq] at h
  have h2 := congrArg Array.toList h
  simp only [List.cons.injEq, Value.bool.injEq, Value.string.injEq] at h2
  obtain ⟨rfl, hb, hc, _⟩ := h2
  rw [S_inj hb, S_inj hc]
theorem inLit_inj {i j : Mill.In} (hi1 : i.2.1.length ≤ maxLen) (hi2 : i.2.2.length ≤ maxLen) (hj1 : j.2.1.length ≤ maxLen) (hj2 : j.2.2.length ≤ maxLen) (h : inLit i = inLit j) : i = j :=
  inVal_inj (lawIn.inj (keyOf_in i hi1 hi2) (h ▸ keyOf_in j hj1 hj2))
theorem keyOf_str (l : List UInt8) (h : l.length ≤ maxLen) : keyOf Tryd.prog 9 (.string (S l)) = some (.string l) :=
  (Go.WideMaps.keyOf_string_mk Tryd.underlying9 (s := S l) h).trans (by simp [S])

theorem keyStrLit {l : List UInt8} : Go.WideAt.IsKeyLit (.string l) := trivial
theorem keyInLit (i : Mill.In) : Go.WideAt.IsKeyLit (inLit i) := trivial

/-- How a struct of one text reads. -/
def one1 : Value → Option (DataW Unit × List MemPlace)
  | .agg cs => match cs.toList with | [.string s] => some (.lit (.string s.data.toList), []) | _ => none
  | _ => none
theorem one1_mk (l : List UInt8) : one1 (.agg #[.string (S l)]) = some (.lit (.string l), []) := by simp [one1, S]
theorem one1_inv {v : Value} {l : List UInt8} {ps : List MemPlace} (h : one1 v = some (.lit (.string l), ps)) : v = .agg #[.string (S l)] := by
  unfold one1 at h
  split at h
  · rename_i cs
    split at h
    · rename_i s hs
      simp only [Option.some.injEq, Prod.mk.injEq, DataW.lit.injEq, Lit.string.injEq] at h
      obtain ⟨h1, _⟩ := h
      obtain ⟨cs⟩ := cs
      simp only at hs
      rw [hs, ← h1, S_of]
    · cases h
  · cases h

/-! ### the table -/
def Asks (w : World) (tv : Option Nat) (l : List Mill.En) : Prop := match tv with
  | none => l = []
  | some b => ∃ D : DataW Unit, w.ownsMap Tryd.prog 102 one1 b l.length D ∧ ∀ i : Mill.In, i.2.1.length ≤ maxLen → i.2.2.length ≤ maxLen →
      has D (inLit i) = (Mill.ask l i).isSome ∧ ∀ z : DataW Unit, D.atKey (inLit i) z = (match Mill.ask l i with | some o => .lit (.string o) | none => z)
theorem Asks.keep {w w' : World} {tv : Option Nat} {l : List Mill.En} (h : Asks w tv l) (hb : ∀ b, tv = some b → w'.heap[b]? = w.heap[b]?) : Asks w' tv l := by
  cases tv with
  | none => exact h
  | some b =>
    obtain ⟨D, ⟨es, clock, h1, h2⟩, h3⟩ := h
    exact ⟨D, ⟨es, clock, (hb b rfl).trans h1, h2⟩, h3⟩
theorem Asks.lt {w : World} {b : Nat} {l : List Mill.En} (h : Asks w (some b) l) : b < w.heap.size := by
  obtain ⟨D, h1, _⟩ := h
  exact h1.lt
theorem zeroOut (w : World) : (zeroValue 104).run Tryd.prog w = .ok (.agg #[.string (S [])]) w := by kernel_rfl
theorem zeroNote (w : World) : (zeroValue 67).run Tryd.prog w = .ok (.agg #[.string (S [])]) w := by kernel_rfl
theorem Asks.look {w : World} {tv : Option Nat} {l : List Mill.En} (h : Asks w tv l) (i : Mill.In) (h1 : i.2.1.length ≤ maxLen) (h2 : i.2.2.length ≤ maxLen) :
    (Instr.lookup 65 (.map tv) (inVal i) true).run Tryd.prog w = .ok (.tuple #[.agg #[.string (S ((Mill.ask l i).getD []))], .bool (Mill.ask l i).isSome]) w := by
  cases tv with
  | none =>
    obtain rfl : l = [] := h
    rw [Go.Maps.look_nil true lawIn Tryd.underlying65 (zeroOut w) (keyOf_in i h1 h2)]
    rfl
  | some b =>
    obtain ⟨D, hown, hD⟩ := h
    obtain ⟨hh, ha⟩ := hD i h1 h2
    obtain ⟨v, ps, hrun, hv⟩ := hown.look_ok lawIn Tryd.underlying65 (zeroOut w) (one1_mk []) (keyOf_in i h1 h2)
    rw [hrun, hh]
    rw [ha] at hv
    cases hm : Mill.ask l i with
    | none => rw [hm] at hv; rw [one1_inv hv]; rfl
    | some o => rw [hm] at hv; rw [one1_inv hv]; rfl
theorem Asks.made (w : World) : Asks (w.alloc (.map #[] 0)) (some w.heap.size) [] :=
  ⟨.map [], World.ownsMap_made w _ _ _, fun i _ _ => ⟨rfl, fun z => rfl⟩⟩
/-- An entry that nobody asked for yet is laid. -/
theorem Asks.put {w : World} {b : Nat} {l : List Mill.En} (h : Asks w (some b) l) (e : Mill.En) (hl : l.length < maxLen) (h2 : e.text.length ≤ maxLen) (hn : Mill.ask l e.inp = none) :
    ∃ w', (Instr.mapUpdate 65 (.map (some b)) (inVal e.inp) (.agg #[.string (S e.out)])).run Tryd.prog w = .ok () w' ∧ Asks w' (some b) (l ++ [e]) ∧ Only w w' b := by
  obtain ⟨D, hown, hD⟩ := h
  have k1 : e.inp.2.1.length ≤ maxLen := by
    unfold Mill.En.inp
    simp only
    split
    · rw [Sha.sum_len]; decide
    · exact Nat.zero_le _
  have k2 : e.inp.2.2.length ≤ maxLen := h2
  obtain ⟨w', hrun, hown', hmv⟩ := hown.store lawIn Tryd.underlying65 hl (keyOf_in e.inp k1 k2) (one1_mk e.out)
  refine ⟨w', hrun, ⟨D.put (inLit e.inp) (.lit (.string e.out)), by rw [List.length_append]; exact hown', fun i i1 i2 => ?_⟩, hmv.grown⟩
  rw [Mill.ask_snoc]
  by_cases hi : e.inp = i
  · subst hi
    rw [hn]
    refine ⟨?_, fun z => ?_⟩
    · rw [Go.Maps.has_put_same hown.isMap (keyInLit e.inp)]; simp
    · rw [Go.Maps.atKey_put_same hown.isMap (keyInLit e.inp)]; simp
  · have hne : inLit i ≠ inLit e.inp := fun hh => hi (inLit_inj i1 i2 k1 k2 hh).symm
    obtain ⟨q1, q2⟩ := hD i i1 i2
    refine ⟨?_, fun z => ?_⟩
    · rw [Go.Maps.has_put_other hne, q1]
      cases hm : Mill.ask l i <;> simp [hi]
    · rw [Go.Maps.atKey_put_other hne, q2]
      cases hm : Mill.ask l i <;> simp [hi]
/-- An entry that was asked for already counts for nothing. -/
theorem Asks.skip {w : World} {b : Nat} {l : List Mill.En} (h : Asks w (some b) l) (e : Mill.En) (hn : (Mill.ask l e.inp).isSome = true) : Asks w (some b) (l ++ [e]) := by
  obtain ⟨D, hown, hD⟩ := h
  refine ⟨D, hown.mono (by simp), fun i i1 i2 => ?_⟩
  obtain ⟨q1, q2⟩ := hD i i1 i2
  have he : Mill.ask (l ++ [e]) i = Mill.ask l i := by
    rw [Mill.ask_snoc]
    by_cases hi : e.inp = i
    · subst hi; rw [if_pos hn]
    · cases hm : Mill.ask l i <;> simp [hi]
  rw [he]
  exact ⟨q1, q2⟩

/-! ### the notes -/
def Noted (w : World) (b : Nat) (ns : List (List UInt8 × List UInt8)) : Prop :=
  ∃ D : DataW Unit, w.ownsMap Tryd.prog 9 one1 b ns.length D ∧ Go.Maps.size D = ns.length ∧ ∀ k : List UInt8, k.length ≤ maxLen →
      has D (.string k) = (ns.lookup k).isSome ∧ ∀ z : DataW Unit, D.atKey (.string k) z = (match ns.lookup k with | some o => .lit (.string o) | none => z)
theorem Noted.keep {w w' : World} {b : Nat} {ns : List (List UInt8 × List UInt8)} (h : Noted w b ns) (hb : w'.heap[b]? = w.heap[b]?) : Noted w' b ns := by
  obtain ⟨D, ⟨es, clock, h1, h2⟩, h3⟩ := h
  exact ⟨D, ⟨es, clock, hb.trans h1, h2⟩, h3⟩
theorem Noted.lt {w : World} {b : Nat} {ns : List (List UInt8 × List UInt8)} (h : Noted w b ns) : b < w.heap.size := by
  obtain ⟨D, h1, _⟩ := h
  exact h1.lt
theorem Noted.made (w : World) : Noted (w.alloc (.map #[] 0)) w.heap.size [] :=
  ⟨.map [], World.ownsMap_made w _ _ _, rfl, fun i _ => ⟨rfl, fun z => rfl⟩⟩
theorem Noted.len {w : World} {b : Nat} {ns : List (List UInt8 × List UInt8)} (h : Noted w b ns) (ty : TypeId) :
    (Builtin.len_ #[64] ty #[.map (some b)]).run Tryd.prog w = .ok (.int .i64 (ns.length : Int)) w := by
  obtain ⟨D, hown, hs, _⟩ := h
  rw [hown.len Tryd.underlying64, hs]
theorem Noted.look {w : World} {b : Nat} {ns : List (List UInt8 × List UInt8)} (h : Noted w b ns) (k : List UInt8) (h1 : k.length ≤ maxLen) :
    (Instr.lookup 64 (.map (some b)) (.string (S k)) true).run Tryd.prog w = .ok (.tuple #[.agg #[.string (S ((ns.lookup k).getD []))], .bool (ns.lookup k).isSome]) w := by
  obtain ⟨D, hown, _, hD⟩ := h
  obtain ⟨hh, ha⟩ := hD k h1
  obtain ⟨v, ps, hrun, hv⟩ := hown.look_ok lawStr Tryd.underlying64 (zeroNote w) (one1_mk []) (keyOf_str k h1)
  rw [hrun, hh]
  rw [ha] at hv
  cases hm : ns.lookup k with
  | none => rw [hm] at hv; rw [one1_inv hv]; rfl
  | some o => rw [hm] at hv; rw [one1_inv hv]; rfl
theorem lookup_snoc (ns : List (List UInt8 × List UInt8)) (k t k' : List UInt8) : (ns ++ [(k, t)]).lookup k' = if (ns.lookup k').isSome then ns.lookup k' else if k' = k then some t else none := by
  rw [List.lookup_append]
  cases h : ns.lookup k' with
  | some x => simp
  | none =>
    by_cases hk : k' = k
    · subst hk; simp
    · have : (k' == k) = false := by simpa using hk
      simp [List.lookup, this, hk]
theorem Noted.put {w : World} {b : Nat} {ns : List (List UInt8 × List UInt8)} (h : Noted w b ns) (k t : List UInt8) (hl : ns.length < maxLen) (h1 : k.length ≤ maxLen) (hn : ns.lookup k = none) :
    ∃ w', (Instr.mapUpdate 64 (.map (some b)) (.string (S k)) (.agg #[.string (S t)])).run Tryd.prog w = .ok () w' ∧ Noted w' b (ns ++ [(k, t)]) ∧ Only w w' b := by
  obtain ⟨D, hown, hs, hD⟩ := h
  obtain ⟨w', hrun, hown', hmv⟩ := hown.store lawStr Tryd.underlying64 hl (keyOf_str k h1) (one1_mk t)
  have hhas : has D (.string k) = false := by rw [(hD k h1).1, hn]; rfl
  refine ⟨w', hrun, ⟨D.put (.string k) (.lit (.string t)), by rw [List.length_append]; exact hown', ?_, fun k' i1 => ?_⟩, hmv.grown⟩
  · rw [Go.Maps.size_put (hown.tidy lawStr), hhas, hs]; simp
  rw [lookup_snoc]
  by_cases hi : k' = k
  · subst hi
    rw [hn]
    refine ⟨?_, fun z => ?_⟩
    · rw [Go.Maps.has_put_same hown.isMap keyStrLit]; simp
    · rw [Go.Maps.atKey_put_same hown.isMap keyStrLit]; simp
  · have hne : Lit.string k' ≠ Lit.string k := fun hh => hi (by injection hh)
    obtain ⟨q1, q2⟩ := hD k' i1
    refine ⟨?_, fun z => ?_⟩
    · rw [Go.Maps.has_put_other hne, q1]
      cases hm : ns.lookup k' <;> simp [hi]
    · rw [Go.Maps.atKey_put_other hne, q2]
      cases hm : ns.lookup k' <;> simp [hi]

/-! ### the mill -/
/-- What a mill's block holds. -/
def millCells (tv : Option Nat) (nb : Nat) (l : List Mill.En) (st : Mill.St) : Array Value :=
  #[.map tv, .bool (Mill.keyed l), .map (some nb), .string (S st.a), .string (S st.b), .bool st.met, .bool st.full, .int .i64 (st.sums : Int), .bool true]
/-- Block g is a mill with the table l, that has noted st in block nb. -/
def MillAt (w : World) (g nb : Nat) (l : List Mill.En) (st : Mill.St) : Prop :=
  ∃ tv, Has w g 70 (millCells tv nb l st) ∧ Asks w tv l ∧ Noted w nb st.notes ∧ g ≠ nb ∧ (∀ b, tv = some b → b ≠ g ∧ b ≠ nb) ∧ l.length < maxLen
theorem MillAt.keep {w w' : World} {g nb : Nat} {l : List Mill.En} {st : Mill.St} {s : List Nat} (h : MillAt w g nb l st) (hm : Mv w w' s) (hs : ∀ x ∈ s, w.heap.size ≤ x) : MillAt w' g nb l st := by
  obtain ⟨tv, h1, h2, h3, h4, h5, h6⟩ := h
  refine ⟨tv, hm.has h1 (fun e => by have := hs _ e; have := h1.lt; omega), h2.keep (fun b hb => ?_), h3.keep (hm.block _ h3.lt (fun e => by have := hs _ e; have := h3.lt; omega)), h4, h5, h6⟩
  subst hb
  exact hm.block _ h2.lt (fun e => by have := hs _ e; have := h2.lt; omega)
theorem MillAt.below {w w' : World} {g nb : Nat} {l : List Mill.En} {st : Mill.St} (h : MillAt w g nb l st) (hb : Below w.heap.size w w') : MillAt w' g nb l st :=
  h.keep (Mv.of_below hb []) (by simp)
theorem MillAt.lt {w : World} {g nb : Nat} {l : List Mill.En} {st : Mill.St} (h : MillAt w g nb l st) : g < w.heap.size ∧ nb < w.heap.size := by
  obtain ⟨tv, h1, h2, h3, _⟩ := h
  exact ⟨h1.lt, h3.lt⟩
end Go.Proofs.YtgjknfphmmlcdaaDoor
