/-
  Papers in a row, terms in a row, in memory; a paper's first field of a name.
-/
import Derived.Test.YtfcmkbeilpclmaaFndSpec
import Derived.Test.YtfcmkbeilpclmaaRowC
import Derived.Test.YtfcmkbeilpclmaaFind
namespace Go.Proofs.Ytfcmkbeilpclmaa
open Go.RowKit
set_option linter.unusedVariables false

/-- A paper as a value, and where its fields lie. -/
structure Ppr where
  id : List UInt8
  cls : Int
  A : Option Addr
  L : List Fld
  cap : Nat
  b : Nat
def Ppr.cs (p : Ppr) : List Value := [.string (S p.id), .int .i64 p.cls, .slice p.A p.L.length p.cap]
def Ppr.v (p : Ppr) : Value := .agg #[.string (S p.id), .int .i64 p.cls, .slice p.A p.L.length p.cap]
theorem Ppr.cs_len (p : Ppr) : p.cs.length = 3 := rfl
/-- Its fields lie there: few, of values that are values. -/
structure Ppr.In (p : Ppr) (w : World) : Prop where
  fs : FSl w p.b p.A p.L
  few : p.L.length ≤ 1000000
  ok : ∀ f ∈ p.L, f.ok
theorem Ppr.In.below {p : Ppr} {w w' : World} (h : p.In w) (hb : Below w.heap.size w w') : p.In w' := ⟨h.fs.below hb (Nat.le_refl _), h.few, h.ok⟩
theorem Ppr.In.drew {p : Ppr} {w : World} (h : p.In w) (n : Nat) : p.In (w.drewN n) := h.below ⟨rfl, rfl, rfl, Nat.le_refl _, fun _ _ => rfl⟩
def pprs (L : List Ppr) : List Value := L.flatMap Ppr.cs
theorem pprs_len (L : List Ppr) : (pprs L).length = L.length * 3 := flat_len Ppr.cs 3 Ppr.cs_len L
/-- Papers in a row. -/
structure RowPp (w : World) (A : Option Addr) (L : List Ppr) : Prop where
  row : RowC w [] A (pprs L)
  each : ∀ p ∈ L, p.In w
theorem RowPp.below {w w' : World} {A : Option Addr} {L : List Ppr} (h : RowPp w A L) (hb : Below w.heap.size w w') : RowPp w' A L := ⟨h.row.below hb, fun p hp => (h.each p hp).below hb⟩
/-- One of them. -/
theorem RowPp.get {w : World} {A : Option Addr} {L : List Ppr} (h : RowPp w A L) (k : Nat) (hk : k < L.length) : ∃ b off, A = some ⟨b, off, none⟩ ∧ b < w.heap.size ∧
    w.cell? ⟨b, off + k * 3, none⟩ = some (.string (S (L[k]).id)) ∧ w.cell? ⟨b, off + k * 3 + 1, none⟩ = some (.int .i64 (L[k]).cls) ∧ w.cell? ⟨b, off + k * 3 + 2, none⟩ = some (.slice (L[k]).A (L[k]).L.length (L[k]).cap) ∧ (L[k]).In w := by
  obtain ⟨b, off, hA, hb, -, hr⟩ := h.row (fun e => by
    have := pprs_len L
    rw [e, List.length_nil] at this
    omega)
  have hg := fun j (hj : j < 3) => flat_get Ppr.cs 3 Ppr.cs_len L k hk j hj
  refine ⟨b, off, hA, hb, ?_, ?_, ?_, h.each _ (List.getElem_mem hk)⟩
  · exact hr (k * 3) _ ((hg 0 (by omega)).trans rfl)
  · rw [Nat.add_assoc]; exact hr (k * 3 + 1) _ ((hg 1 (by omega)).trans rfl)
  · rw [Nat.add_assoc]; exact hr (k * 3 + 2) _ ((hg 2 (by omega)).trans rfl)

/-- A term's fourteen cells. -/
def Fnd.Trm.cs (t : Fnd.Trm) : List Value := [.string (S t.name), .int .i64 t.low.kind, .bool t.low.flag, .int .i64 t.low.int, .int .u64 (t.low.bits : Int), .string (S t.low.text), .int .i64 t.high.kind, .bool t.high.flag, .int .i64 t.high.int, .int .u64 (t.high.bits : Int), .string (S t.high.text), .bool t.hasLow, .bool t.hasTop, .bool t.neg]
def Fnd.Trm.v (t : Fnd.Trm) : Value := .agg t.cs.toArray
theorem Fnd.Trm.cs_len (t : Fnd.Trm) : t.cs.length = 14 := rfl
theorem Fnd.Trm.cs_one (t : Fnd.Trm) : ∀ u ∈ t.cs, u.oneCell' = true := by
  intro u hu
  simp only [Fnd.Trm.cs, List.mem_cons, List.not_mem_nil, or_false] at hu
  rcases hu with rfl | rfl | rfl | rfl | rfl | rfl | rfl | rfl | rfl | rfl | rfl | rfl | rfl | rfl <;> rfl
structure Fnd.Trm.Ok (t : Fnd.Trm) : Prop where
  low : t.low.ok
  high : t.high.ok
  few : t.name.length ≤ 1000000
def tms (L : List Fnd.Trm) : List Value := L.flatMap Fnd.Trm.cs
theorem tms_len (L : List Fnd.Trm) : (tms L).length = L.length * 14 := flat_len Fnd.Trm.cs 14 Fnd.Trm.cs_len L
theorem tms_snoc (L : List Fnd.Trm) (x : Fnd.Trm) : tms L ++ x.cs = tms (L ++ [x]) := by unfold tms; rw [List.flatMap_append, List.flatMap_singleton]
/-- A term's cells one by one. -/
abbrev tcs (n : List UInt8) (lk : Int) (lf : Bool) (li : Int) (lb : Nat) (lt : List UInt8) (hk : Int) (hf : Bool) (hi : Int) (hb : Nat) (ht : List UInt8) (a b c : Bool) : Array Value := #[.string (S n), .int .i64 lk, .bool lf, .int .i64 li, .int .u64 (lb : Int), .string (S lt), .int .i64 hk, .bool hf, .int .i64 hi, .int .u64 (hb : Int), .string (S ht), .bool a, .bool b, .bool c]
theorem Fnd.Trm.v_eq (n : List UInt8) (lk : Int) (lf : Bool) (li : Int) (lb : Nat) (lt : List UInt8) (hk : Int) (hf : Bool) (hi : Int) (hb : Nat) (ht : List UInt8) (a b c : Bool) : Fnd.Trm.v ⟨n, ⟨lk, lf, li, lb, lt⟩, ⟨hk, hf, hi, hb, ht⟩, a, b, c⟩ = .agg (tcs n lk lf li lb lt hk hf hi hb ht a b c) := rfl
abbrev TLies (g : Nat) (n : List UInt8) (lk : Int) (lf : Bool) (li : Int) (lb : Nat) (lt : List UInt8) (hk : Int) (hf : Bool) (hi : Int) (hb : Nat) (ht : List UInt8) (a b c : Bool) (W : World) : Prop :=
  W.cell? ⟨g, 0, none⟩ = some (.string (S n)) ∧ W.cell? ⟨g, 1, none⟩ = some (.int .i64 lk) ∧ W.cell? ⟨g, 2, none⟩ = some (.bool lf) ∧ W.cell? ⟨g, 3, none⟩ = some (.int .i64 li) ∧ W.cell? ⟨g, 4, none⟩ = some (.int .u64 (lb : Int)) ∧ W.cell? ⟨g, 5, none⟩ = some (.string (S lt)) ∧
  W.cell? ⟨g, 6, none⟩ = some (.int .i64 hk) ∧ W.cell? ⟨g, 7, none⟩ = some (.bool hf) ∧ W.cell? ⟨g, 8, none⟩ = some (.int .i64 hi) ∧ W.cell? ⟨g, 9, none⟩ = some (.int .u64 (hb : Int)) ∧ W.cell? ⟨g, 10, none⟩ = some (.string (S ht)) ∧
  W.cell? ⟨g, 11, none⟩ = some (.bool a) ∧ W.cell? ⟨g, 12, none⟩ = some (.bool b) ∧ W.cell? ⟨g, 13, none⟩ = some (.bool c)
theorem tlies {W : World} {g : Nat} {n : List UInt8} {lk : Int} {lf : Bool} {li : Int} {lb : Nat} {lt : List UInt8} {hk : Int} {hf : Bool} {hi : Int} {hb : Nat} {ht : List UInt8} {a b c : Bool} {T : TypeId} (h : Has W g T (tcs n lk lf li lb lt hk hf hi hb ht a b c)) : TLies g n lk lf li lb lt hk hf hi hb ht a b c W :=
  ⟨h.cell 0, h.cell 1, h.cell 2, h.cell 3, h.cell 4, h.cell 5, h.cell 6, h.cell 7, h.cell 8, h.cell 9, h.cell 10, h.cell 11, h.cell 12, h.cell 13⟩
/-- Terms in a row. -/
abbrev RowTm (w : World) (A : Option Addr) (L : List Fnd.Trm) : Prop := RowC w [] A (tms L)
theorem RowTm.get {w : World} {A : Option Addr} {L : List Fnd.Trm} (h : RowTm w A L) (k : Nat) (hk : k < L.length) : ∃ b off, A = some ⟨b, off, none⟩ ∧ b < w.heap.size ∧ ∀ j u, (L[k]).cs[j]? = some u → w.cell? ⟨b, off + k * 14 + j, none⟩ = some u := by
  obtain ⟨b, off, hA, hb, -, hr⟩ := h (fun e => by
    have := tms_len L
    rw [e, List.length_nil] at this
    omega)
  refine ⟨b, off, hA, hb, fun j u hu => ?_⟩
  have hj : j < 14 := by
    have := (List.getElem?_eq_some_iff.1 hu).1
    rwa [Fnd.Trm.cs_len] at this
  rw [Nat.add_assoc]
  exact hr (k * 14 + j) u ((flat_get Fnd.Trm.cs 14 Fnd.Trm.cs_len L k hk j hj).trans hu)

namespace Fnd
theorem field_cases (L : List Fld) (n : List UInt8) : (Pap.find n L = -1 ∧ field L n = none) ∨ ∃ (k : Nat) (h : k < L.length), Pap.find n L = (k : Int) ∧ field L n = some L[k].val := by
  unfold Pap.find field
  cases h : L.findIdx? (fun f => f.name == n) with
  | none =>
    refine Or.inl ⟨rfl, ?_⟩
    rw [List.findIdx?_eq_none_iff] at h
    rw [List.find?_eq_none.2 (fun x hx => by have := h x hx; simpa using this)]
    rfl
  | some k =>
    obtain ⟨hk, he, hb⟩ := List.findIdx?_eq_some_iff_getElem.1 h
    refine Or.inr ⟨k, hk, rfl, ?_⟩
    have : L.find? (fun f => decide (f.name = n)) = some L[k] := List.find?_eq_some_iff_getElem.2 ⟨by simpa using he, k, hk, rfl, fun j hj => by simpa using hb j hj⟩
    rw [this]
    rfl
theorem field_ok {L : List Fld} (h : ∀ f ∈ L, f.ok) {n : List UInt8} {v : Val} (hv : field L n = some v) : v.ok := by
  unfold field at hv
  cases hf : L.find? (fun f => decide (f.name = n)) with
  | none => rw [hf] at hv; cases hv
  | some f =>
    rw [hf] at hv
    injection hv with hv
    rw [← hv]
    exact h f (List.mem_of_find?_eq_some hf)
end Fnd
end Go.Proofs.Ytfcmkbeilpclmaa
