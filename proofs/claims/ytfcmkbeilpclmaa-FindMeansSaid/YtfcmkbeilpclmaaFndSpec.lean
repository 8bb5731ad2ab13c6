/-
  Terms, queries, the order by a field, plain. No program stands here.
-/
import Derived.Test.YtfcmkbeilpclmaaPapSpec
import Derived.Test.YtfcmkbeilpclmaaValCmp
import Derived.Test.YtfcmkbeilpclmaaFndSort
namespace Go.Proofs.Ytfcmkbeilpclmaa
set_option linter.unusedVariables false
namespace Fnd

/-- A term's six fields. -/
structure Trm where
  name : List UInt8
  low : Val
  high : Val
  hasLow : Bool
  hasTop : Bool
  neg : Bool
deriving DecidableEq
/-- A query's four fields. -/
structure Qry where
  T : List Trm
  nm : List UInt8
  down : Bool
  most : Int
deriving DecidableEq
/-- A paper's first field of a name. -/
def field (L : List Fld) (n : List UInt8) : Option Val := (L.find? fun f => decide (f.name = n)).map Fld.val
def inLow (t : Trm) (v : Val) : Bool := !t.hasLow || (decide (v.kind = t.low.kind) && decide (0 ≤ Val.cmp v t.low))
def inTop (t : Trm) (v : Val) : Bool := !t.hasTop || (decide (v.kind = t.high.kind) && decide (Val.cmp v t.high ≤ 0))
def holds (t : Trm) (L : List Fld) : Bool :=
  match field L t.name with
  | none => false
  | some v => (inLow t v && inTop t v) != t.neg
def termE (t : Trm) : Int := if Pap.word 16 t.name = false then 14 else if ((t.hasLow && !t.low.right) || (t.hasTop && !t.high.right)) = true then 15 else 0
def termsE : List Trm → Int
  | [] => 0
  | t :: l => if termE t = 0 then termsE l else termE t
def check (q : Qry) : Int := if 8 < q.T.length ∨ q.most < 0 then 5 else if q.nm ≠ [] ∧ Pap.word 16 q.nm = false then 14 else termsE q.T
/-- Is a paper ahead of another one in the order by a field? -/
def ahead (a b : List Fld) (n : List UInt8) (down : Bool) : Bool :=
  match field a n, field b n with
  | some x, some y => if down = true then decide (0 < Val.cmp x y) else decide (Val.cmp x y < 0)
  | some _, none => true
  | none, _ => false
theorem ahead_weak (P : Nat → List Fld) (n : List UInt8) (d : Bool) : Weak (fun i j => ahead (P i) (P j) n d) := by
  constructor
  · intro a b h
    unfold ahead at *
    revert h
    cases field (P a) n with
    | none => intro h; cases h
    | some x =>
      cases field (P b) n with
      | none => intro h; rfl
      | some y =>
        have := cmp_anti x y
        cases d <;> simp <;> omega
  · intro a b c h1 h2
    unfold ahead at *
    revert h1 h2
    cases field (P a) n with
    | none =>
      cases field (P b) n with
      | none =>
        cases field (P c) n with
        | none => intro _ _; rfl
        | some z => intro _ h; cases h
      | some y => intro h; cases h
    | some x =>
      cases field (P c) n with
      | none => intro _ _; rfl
      | some z =>
        cases field (P b) n with
        | none => intro _ h; cases h
        | some y =>
          have a1 := cmp_anti x y
          have a2 := cmp_anti y z
          have a3 := cmp_anti x z
          have t1 := cmp_trans x y z
          have t2 := cmp_trans z y x
          cases d <;> simp <;> omega
/-- What a query finds, in order. -/
def order (q : Qry) (L : List (List Fld)) (i j : Nat) : Bool := if q.nm = [] then false else ahead (L.getD i []) (L.getD j []) q.nm q.down
theorem order_weak (q : Qry) (L : List (List Fld)) : Weak (order q L) := by
  by_cases h : q.nm = []
  · have e : order q L = fun _ _ => false := by funext i j; unfold order; rw [if_pos h]
    rw [e]
    exact ⟨fun _ _ h => (by cases h), fun _ _ _ _ _ => rfl⟩
  · have e : order q L = fun i j => ahead (L.getD i []) (L.getD j []) q.nm q.down := by funext i j; unfold order; rw [if_neg h]
    rw [e]
    exact ahead_weak (fun i => L.getD i []) q.nm q.down
def all (q : Qry) (L : List (List Fld)) (i : Nat) : Bool := q.T.all fun t => holds t (L.getD i [])
/-- The places, among the first k, for which all terms hold. -/
def found (q : Qry) (L : List (List Fld)) (k : Nat) : List Nat := (List.range k).filter (all q L)
theorem found_zero (q : Qry) (L : List (List Fld)) : found q L 0 = [] := rfl
theorem found_yes {q : Qry} {L : List (List Fld)} {k : Nat} (h : all q L k = true) : found q L (k + 1) = found q L k ++ [k] := by unfold found; rw [List.range_succ, List.filter_append]; simp [h]
theorem found_no {q : Qry} {L : List (List Fld)} {k : Nat} (h : all q L k = false) : found q L (k + 1) = found q L k := by unfold found; rw [List.range_succ, List.filter_append]; simp [h]
theorem found_rise (q : Qry) (L : List (List Fld)) (k : Nat) : (found q L k).Pairwise (· < ·) := List.pairwise_lt_range.filter _
theorem found_lt {q : Qry} {L : List (List Fld)} {k i : Nat} (h : i ∈ found q L k) : i < k ∧ all q L i = true := by
  obtain ⟨h1, h2⟩ := List.mem_filter.1 h
  exact ⟨List.mem_range.1 h1, h2⟩
def run (q : Qry) (L : List (List Fld)) : List Nat := (srt (order q L) (found q L L.length)).take q.most.toNat
/-! one term more -/
theorem holds_not (t : Trm) (b : Bool) (L : List Fld) : holds { t with neg := !b } L = ((field L t.name).isSome && !holds { t with neg := b } L) := by
  unfold holds
  cases h : field L t.name with
  | none => simp
  | some v => simp only [Option.isSome_some, Bool.true_and, inLow, inTop]; cases b <;> simp
theorem holds_there (n : List UInt8) (a b : Val) (L : List Fld) : holds ⟨n, a, b, false, false, false⟩ L = (field L n).isSome := by
  unfold holds
  cases h : field L n with
  | none => simp
  | some v => simp [inLow, inTop]
/-- What of a row meets p stands, in what meets p, at the number of those before it. -/
theorem filter_at {α : Type} (p : α → Bool) (z : List α) (n : Nat) (h : n < z.length) (hp : p z[n] = true) : (z.filter p)[((z.take n).filter p).length]? = some z[n] := by
  induction z generalizing n with
  | nil => cases h
  | cons a z ih =>
    cases n with
    | zero =>
      have e : p a = true := hp
      simp [e]
    | succ n =>
      have hp' : p (z[n]'(by simpa using h)) = true := hp
      have := ih n (by simpa using h) hp'
      cases e : p a with
      | true => simp [e, this]
      | false => simp [e, this]
theorem filter_not {α : Type} (p : α → Bool) (z : List α) (i n : Nat) (h : n < z.length) (hp : p z[n] = false) : (z.filter p)[i]? ≠ some z[n] := fun e => by
  have := (List.mem_filter.1 (List.mem_of_getElem? e)).2
  rw [hp] at this
  cases this
theorem filter_step {α : Type} (p : α → Bool) (z : List α) (n : Nat) (h : n < z.length) : ((z.take (n + 1)).filter p).length = ((z.take n).filter p).length + (if p z[n] = true then 1 else 0) := by
  rw [List.take_succ_eq_append_getElem h, List.filter_append, List.length_append]
  cases e : p z[n] <;> simp [e]
end Fnd
end Go.Proofs.Ytfcmkbeilpclmaa
