/-
  StaOne: the texts Mem, PapWord, Bytes, Mv, RowC, Math, ReadSpec, ReadPure, EvSpec in one.
-/
import Derived.WalkKit
import Derived.ProofKit
import Derived.Handy
import Derived.Lib.Hide
import Derived.Laws.IdiomStrings
import Derived.Laws.IdiomCopy
import Derived.Deep.MidRow
import Derived.Laws.AppendOwn
import Derived.OwnWalk
namespace Go.Proofs.Ytojemaaljjibiaa
set_option linter.unusedVariables false
open Go.RowKit

/-- Block g is just the cells cs, of elements of type t, none of them frozen. -/
def Has (w : World) (g : Nat) (t : TypeId) (cs : Array Value) : Prop := w.heap[g]? = some (.cells cs t (0, 0))

theorem Has.lt {w : World} {g : Nat} {t : TypeId} {cs : Array Value} (h : Has w g t cs) : g < w.heap.size := by
  refine Nat.lt_of_not_le fun hge => ?_
  rw [Has, Array.getElem?_eq_none hge] at h
  cases h
theorem Has.cell {w : World} {g : Nat} {t : TypeId} {cs : Array Value} (h : Has w g t cs) (i : Nat) : w.cell? ⟨g, i, none⟩ = cs[i]? := by
  unfold Has at h; simp [World.cell?, h]
theorem Has.free {w : World} {g : Nat} {t : TypeId} {cs : Array Value} (h : Has w g t cs) (i : Nat) : w.frozen? ⟨g, i, none⟩ = false := by
  unfold Has at h; simp [World.frozen?, h]
theorem Has.made (w : World) (t : TypeId) (cs : Array Value) : Has (w.alloc (.cells cs t)) w.heap.size t cs := heap_alloc_new w _
theorem Has.of_alloc {w : World} {g : Nat} {t : TypeId} {cs : Array Value} (h : Has w g t cs) (o : Obj) : Has (w.alloc o) g t cs := (Below.heap_alloc w o g h.lt).trans h
theorem Has.set {w : World} {g : Nat} {t : TypeId} {cs : Array Value} (h : Has w g t cs) (i : Nat) (u : Value) : Has (w.setCell ⟨g, i, none⟩ u) g t (cs.setIfInBounds i u) := by
  unfold Has at *; simp [World.setCell, Array.getElem?_modify, h]
theorem Has.other {w : World} {g : Nat} {t : TypeId} {cs : Array Value} (h : Has w g t cs) {p : Addr} (hp : g ≠ p.block) (u : Value) : Has (w.setCell p u) g t cs := (Below.heap_setCell w p u g hp).trans h
theorem Has.below {w w' : World} {B g : Nat} {t : TypeId} {cs : Array Value} (h : Has w g t cs) (hb : Below B w w') (hg : g < B) : Has w' g t cs := (hb.block g hg).trans h

/-- Bytes as a list, as a text; as cells. -/
def S (l : List UInt8) : ByteArray := ⟨l.toArray⟩
def bcells (l : List UInt8) : List Value := l.map fun c => Value.int .u8 c.toNat

theorem S_nums (l : List UInt8) : strOfNums (l.map fun c => (c.toNat : Int)) = S l := by
  have h : (l.map fun c => (c.toNat : Int)).map (fun n => UInt8.ofNat n.toNat) = l := by
    rw [List.map_map]; conv => rhs; rw [← List.map_id l]
    apply List.map_congr_left; intro c _; simp
  unfold strOfNums S; rw [h]

/-- A row of bytes turned into a text. -/
theorem conv_text {P : Program} {src e dst : Nat} (hs : P.underlying src = some (.slice e)) (he : P.underlying e = some (.int .u8)) (hd : P.underlying dst = some .string)
    {w : World} {b off n cap : Nat} (l : List UInt8) (hn : l.length = n) (hc : ∀ i, i < n → w.cell? ⟨b, off + i, none⟩ = (bcells l)[i]?) :
    (convert src dst (.slice (some ⟨b, off, none⟩) n cap)).run P w = .ok (.string (S l)) w := by
  have h := run_convert_bytes_arg (P := P) w src e hs he b off n cap (l.map fun c => (c.toNat : Int)) (by simpa using hn) (fun i hi => by
    rw [hc i hi]
    have hi' : i < l.length := by omega
    simp [bcells, List.getElem?_eq_getElem hi', List.getD]) dst hd
  rw [h, S_nums]

theorem S_size (l : List UInt8) : (S l).size = l.length := rfl
theorem S_append (a b : List UInt8) : S a ++ S b = S (a ++ b) := by
  apply ByteArray.ext
  simp [S]
theorem S_extract (l : List UInt8) (a b : Nat) : (S l).extract a b = S ((l.take b).drop a) := by
  apply ByteArray.ext
  simp [S, ByteArray.data_extract]
  rw [List.drop_take]
theorem S_get (l : List UInt8) (i : Nat) (h : i < (S l).size) : (S l)[i]'h = l[i]'h := by
  simp [S, ByteArray.getElem_eq_getElem_data]
  rfl
theorem S_toList (l : List UInt8) : (S l).toList = l := by
  rw [ByteArray.toList_eq]; simp [S]
attribute [go_sem] S_toList List.isEmpty_nil List.isEmpty_cons
attribute [go_sem] S_size S_append S_extract List.drop_zero List.length_cons List.length_nil
/-- A text's byte: laid ahead of a walk. -/
theorem run_index_S {P : Program} (w : World) {t : TypeId} (l : List UInt8) (k : IntKind) (i : Nat) (h : P.underlying t = some .string) (h1 : i < l.length) :
    (Instr.index t (.string (S l)) (.int k (i : Int))).run P w = .ok (.int .u8 l[i].toNat) w := by
  rw [run_index_string w t (S l) k i h, dif_pos ⟨by omega, by rw [S_size]; omega⟩]
  rw [S_get]
  rfl
theorem S_of (s : ByteArray) : S s.data.toList = s := by
  cases s; simp [S]

theorem ret_bool {a b : Bool} (h : a = b) : Ending.returned (.bool a) = .returned (.bool b) := by rw [h]
end Go.Proofs.Ytojemaaljjibiaa

namespace Go.Proofs.Ytojemaaljjibiaa
set_option linter.unusedVariables false

namespace Pap
/-- A sign of a word. -/
def wch (c : UInt8) : Bool := decide ((97 ≤ c.toNat ∧ c.toNat ≤ 122) ∨ (65 ≤ c.toNat ∧ c.toNat ≤ 90) ∨ (48 ≤ c.toNat ∧ c.toNat ≤ 57) ∨ c.toNat = 45 ∨ c.toNat = 95 ∨ c.toNat = 46)
def word (most : Nat) (s : List UInt8) : Bool := decide (0 < s.length ∧ s.length ≤ most) && s.all wch
theorem word_len {most : Nat} {s : List UInt8} (h : word most s = true) : 0 < s.length ∧ s.length ≤ most := by
  unfold word at h
  rw [Bool.and_eq_true] at h
  exact of_decide_eq_true h.1
end Pap
end Go.Proofs.Ytojemaaljjibiaa

namespace Go.Proofs.Ytojemaaljjibiaa
set_option linter.unusedVariables false
open Go.RowKit

/-! A text turned into a row of bytes. -/
def bcap (W : World) (e : TypeId) (l : List UInt8) : Nat := grownCap W l.length 0 e
def brow (W : World) (e : TypeId) (l : List UInt8) : Array Value := bytesRow (S l) (bcap W e l)
def bworld (W : World) (e : TypeId) (l : List UInt8) : World := W.drew.alloc (.cells (brow W e l) e ((brow W e l).size, (brow W e l).size + 1))

theorem bworld_size (W : World) (e : TypeId) (l : List UInt8) : (bworld W e l).heap.size = W.heap.size + 1 := by unfold bworld; simp
attribute [go_sem] bworld_size

/-! A slice that reads as bytes: its cells lie in block b; a slice of no bytes may lie anywhere. -/
def Bytes (w : World) (b : Nat) (A : Option Addr) (l : List UInt8) : Prop := l ≠ [] → ∃ off, A = some ⟨b, off, none⟩ ∧ ∀ i, i < l.length → w.cell? ⟨b, off + i, none⟩ = (bcells l)[i]?

theorem Bytes.keep {w w' : World} {b : Nat} {A : Option Addr} {l : List UInt8} (h : Bytes w b A l) (hb : w'.heap[b]? = w.heap[b]?) : Bytes w' b A l := fun hl => by
  obtain ⟨off, hA, hc⟩ := h hl
  exact ⟨off, hA, fun i hi => (World.cell?_of_block hb).trans (hc i hi)⟩
theorem Bytes.nil (w : World) (b : Nat) (A : Option Addr) : Bytes w b A [] := fun h => absurd rfl h
theorem Bytes.take {w : World} {b : Nat} {A : Option Addr} {l : List UInt8} (h : Bytes w b A l) (k : Nat) : Bytes w b A (l.take k) := fun hl => by
  obtain ⟨off, hA, hc⟩ := h (by rintro rfl; simp at hl)
  refine ⟨off, hA, fun i hi => ?_⟩
  rw [List.length_take] at hi
  rw [hc i (by omega)]
  unfold bcells
  rw [List.map_take, List.getElem?_take, if_pos (by omega)]
theorem Bytes.drop {w : World} {b : Nat} {A : Option Addr} {l : List UInt8} (h : Bytes w b A l) (k : Nat) : Bytes w b (A.map (·.add k)) (l.drop k) := fun hl => by
  obtain ⟨off, rfl, hc⟩ := h (by rintro rfl; simp at hl)
  refine ⟨off + k, ?_, fun i hi => ?_⟩
  · simp only [Option.map_some, Option.some.injEq]
    unfold Addr.add; split <;> simp_all
  · rw [List.length_drop] at hi
    rw [Nat.add_assoc, hc (k + i) (by omega)]
    unfold bcells
    rw [List.map_drop, List.getElem?_drop]
theorem Bytes.lt {w : World} {b : Nat} {A : Option Addr} {l : List UInt8} (h : Bytes w b A l) (hl : l ≠ []) : b < w.heap.size := by
  obtain ⟨off, _, hc⟩ := h hl
  have h0 : 0 < l.length := List.length_pos_iff.2 hl
  have := hc 0 h0
  rw [show (bcells l)[0]? = some (.int .u8 (l[0].toNat : Int)) by simp [bcells, List.getElem?_eq_getElem h0]] at this
  exact World.block_lt_of_cell? w _ this

/-! Only block g of the old ones has turned. -/
abbrev Only (w w' : World) (g : Nat) : Prop := w.grownBy w' (some g)
theorem Only.refl (w : World) (g : Nat) : Only w w g := ⟨rfl, rfl, rfl, Nat.le_refl _, fun _ _ _ => rfl⟩
theorem Only.trans {a b c : World} {g : Nat} (h : Only a b g) (k : Only b c g) : Only a c g :=
  ⟨k.os.trans h.os, k.tape.trans h.tape, k.output.trans h.output, Nat.le_trans h.size k.size, fun i hi hn => (k.block i (Nat.lt_of_lt_of_le hi h.size) hn).trans (h.block i hi hn)⟩
theorem Only.set (w : World) (g i : Nat) (u : Value) : Only w (w.setCell ⟨g, i, none⟩ u) g :=
  ⟨rfl, rfl, rfl, by simp [World.setCell], fun k _ hn => Below.heap_setCell w ⟨g, i, none⟩ u k (fun e => hn (by rw [e]))⟩
theorem Only.of_below {w w' : World} (h : Below w.heap.size w w') (g : Nat) : Only w w' g := ⟨h.os, h.tape, h.output, h.size, fun i hi _ => h.block i hi⟩
theorem Only.has {w w' : World} {g k : Nat} {t : TypeId} {cs : Array Value} (h : Only w w' g) (hk : Has w k t cs) (hne : k ≠ g) : Has w' k t cs :=
  (h.block k hk.lt (fun e => hne (by injection e))).trans hk
theorem Only.bytes {w w' : World} {g b : Nat} {A : Option Addr} {l : List UInt8} (h : Only w w' g) (hk : Bytes w b A l) (hne : b ≠ g) : Bytes w' b A l := by
  by_cases hl : l = []
  · subst hl; exact Bytes.nil _ _ _
  · exact hk.keep (h.block b (hk.lt hl) (fun e => hne (by injection e)))
theorem Only.below {w0 w w' : World} {g B : Nat} (h : Only w w' g) (hb : Below B w0 w) (hB : B ≤ w.heap.size) (hg : B ≤ g) : Below B w0 w' :=
  hb.grown h hB (fun k e => by injection e with e; omega)
end Go.Proofs.Ytojemaaljjibiaa

namespace Go.Proofs.Ytojemaaljjibiaa
open Go.RowKit
set_option linter.unusedVariables false

/-- Only the old blocks of s have turned. -/
structure Mv (w w' : World) (s : List Nat) : Prop where
  os : w'.os = w.os
  tape : w'.tape = w.tape
  output : w'.output = w.output
  size : w.heap.size ≤ w'.heap.size
  block : ∀ k, k < w.heap.size → k ∉ s → w'.heap[k]? = w.heap[k]?
theorem Mv.refl (w : World) (s : List Nat) : Mv w w s := ⟨rfl, rfl, rfl, Nat.le_refl _, fun _ _ _ => rfl⟩
theorem Mv.trans {a b c : World} {s : List Nat} (h : Mv a b s) (k : Mv b c s) : Mv a c s :=
  ⟨k.os.trans h.os, k.tape.trans h.tape, k.output.trans h.output, Nat.le_trans h.size k.size, fun i hi hn => (k.block i (Nat.lt_of_lt_of_le hi h.size) hn).trans (h.block i hi hn)⟩
theorem Mv.of_below {w w' : World} (h : Below w.heap.size w w') (s : List Nat) : Mv w w' s := ⟨h.os, h.tape, h.output, h.size, fun i hi _ => h.block i hi⟩
theorem Mv.of_only {w w' : World} {g : Nat} (h : Only w w' g) {s : List Nat} (hg : g ∈ s) : Mv w w' s := ⟨h.os, h.tape, h.output, h.size, fun i hi hn => h.block i hi (fun e => hn (by injection e with e; rw [e]; exact hg))⟩
theorem Mv.wide {w w' : World} {s t : List Nat} (h : Mv w w' s) (hs : ∀ x ∈ s, x ∈ t) : Mv w w' t := ⟨h.os, h.tape, h.output, h.size, fun i hi hn => h.block i hi (fun e => hn (hs i e))⟩
theorem Mv.below {w0 w w' : World} {s : List Nat} {B : Nat} (h : Mv w w' s) (hb : Below B w0 w) (hB : B ≤ w.heap.size) (hs : ∀ x ∈ s, B ≤ x) : Below B w0 w' :=
  hb.trans ⟨h.os, h.tape, h.output, h.size, fun i hi => h.block i (by omega) (fun hm => by have := hs i hm; omega)⟩
theorem Mv.drew {a b : World} {s : List Nat} (h : Mv a b s) : Mv a b.drew s := ⟨h.os, h.tape, h.output, h.size, h.block⟩
theorem Mv.alloc {a b : World} {s : List Nat} (h : Mv a b s) (o : Obj) : Mv a (b.alloc o) s := h.trans (Mv.of_below ((Below.refl _ b).alloc (Nat.le_refl _) o) s)
theorem Mv.has {w w' : World} {s : List Nat} {k : Nat} {t : TypeId} {cs : Array Value} (h : Mv w w' s) (hk : Has w k t cs) (hn : k ∉ s) : Has w' k t cs := (h.block k hk.lt hn).trans hk

theorem asize (w : World) (o : Obj) : (w.alloc o).heap.size = w.heap.size + 1 := by simp
/-! many cells of one block at once -/
theorem Has.there {w : World} {g o n : Nat} {t : TypeId} {cs : Array Value} (h : Has w g t cs) (hb : o + n ≤ cs.size) : w.there g o n := fun j hj => by
  refine ⟨?_, h.free _⟩
  rw [h.cell]
  rw [Array.getElem?_eq_getElem (by omega)]
  rfl
end Go.Proofs.Ytojemaaljjibiaa

namespace Go.Proofs.Ytojemaaljjibiaa
open Go.RowKit
set_option linter.unusedVariables false

theorem World.cell_block {w w' : World} {b off : Nat} {v : Value} (h : w'.heap[b]? = w.heap[b]?) (hc : w.cell? ⟨b, off, none⟩ = some v) : w'.cell? ⟨b, off, none⟩ = some v := by
  unfold World.cell? at hc ⊢
  rw [h]; exact hc
/-- Texts as values. -/
def tvs (L : List (List UInt8)) : List Value := L.map fun s => .string (S s)
theorem tvs_snoc (L : List (List UInt8)) (x : List UInt8) : tvs L ++ [.string (S x)] = tvs (L ++ [x]) := by simp [tvs]
theorem own_mv {w w' : World} {B e s n : Nat} {v : Value} {xs : List Value} {t : List Nat} (h : w.ownsRow B e s v n xs) (hm : Mv w w' t) (ht : ∀ x ∈ t, x < B) : w'.ownsRow B e s v n xs := by
  refine ⟨h.1, ?_⟩
  rcases h.2 with hn | ⟨g, cap, cur, rfl, hb, hgg, rest⟩
  · exact .inl hn
  · exact .inr ⟨g, cap, cur, rfl, hb, (hm.block g (Array.getElem?_eq_some_iff.1 hgg).1 (fun hx => by have := ht g hx; omega)).trans hgg, rest⟩
theorem own_low {w : World} {B B' e s n : Nat} {v : Value} {xs : List Value} (h : w.ownsRow B e s v n xs) (hb : B' ≤ B) : w.ownsRow B' e s v n xs := by
  refine ⟨h.1, ?_⟩
  rcases h.2 with hn | ⟨g, cap, cur, rfl, hg, rest⟩
  · exact .inl hn
  · exact .inr ⟨g, cap, cur, rfl, Nat.le_trans hb hg, rest⟩
theorem Mv.of_grown {w w' : World} {row : Option Nat} (h : w.grownBy w' row) {s : List Nat} (hs : ∀ k, row = some k → k ∈ s) : Mv w w' s :=
  ⟨h.os, h.tape, h.output, h.size, fun i hi hn => h.block i hi (fun e => hn (hs i e.symm))⟩
theorem Mv.own {w w3 w5 : World} {s : List Nat} {row : Option Nat} (h : Mv w w3 s) (hg : w3.grownBy w5 row) (hr : ∀ k, row = some k → w.heap.size ≤ k) : Mv w w5 s :=
  ⟨hg.os.trans h.os, hg.tape.trans h.tape, hg.output.trans h.output, Nat.le_trans h.size hg.size, fun i hi hn => (hg.block i (Nat.lt_of_lt_of_le hi h.size) (fun e => by have := hr i e.symm; omega)).trans (h.block i hi hn)⟩
theorem grown_alloc {w w' : World} {row : Option Nat} (o : Obj) (h : (w.alloc o).grownBy w' row) : w.grownBy w' row :=
  ⟨h.os, h.tape, h.output, Nat.le_trans (by simp) h.size, fun i hi hn => (h.block i (by simp; omega) hn).trans (Below.heap_alloc w o i hi)⟩
/-- The address behind k elements of sz cells. -/
def aft (A : Option Addr) (cap k sz : Nat) : Option Addr := if cap = k then A else A.map (·.add (k * sz))
theorem add_flat' (b off i : Nat) : (⟨b, off, none⟩ : Addr).add i = ⟨b, off + i, none⟩ := by
  unfold Addr.add; split <;> simp_all
/-- A slice at A reads as values, in a block that is there and none of s. -/
def RowC (w : World) (s : List Nat) (A : Option Addr) (cs : List Value) : Prop := cs ≠ [] → ∃ b off, A = some ⟨b, off, none⟩ ∧ b < w.heap.size ∧ b ∉ s ∧ ∀ j u, cs[j]? = some u → w.cell? ⟨b, off + j, none⟩ = some u
theorem RowC.nil (w : World) (s : List Nat) (A : Option Addr) : RowC w s A [] := fun h => absurd rfl h
theorem RowC.mv {w w' : World} {s t : List Nat} {A : Option Addr} {cs : List Value} (h : RowC w s A cs) (hm : Mv w w' t) (ht : ∀ x ∈ t, x ∈ s) : RowC w' s A cs := fun hl => by
  obtain ⟨b, off, hA, hb, hn, hr⟩ := h hl
  exact ⟨b, off, hA, Nat.lt_of_lt_of_le hb hm.size, hn, fun j u hu => World.cell_block (hm.block b hb (fun hx => hn (ht b hx))) (hr j u hu)⟩
theorem RowC.below {w w' : World} {s : List Nat} {A : Option Addr} {cs : List Value} (h : RowC w s A cs) (hb : Below w.heap.size w w') : RowC w' s A cs := h.mv (Mv.of_below hb []) (by simp)
theorem RowC.take {w : World} {s : List Nat} {A : Option Addr} {cs : List Value} (h : RowC w s A cs) (k : Nat) : RowC w s A (cs.take k) := fun hl => by
  obtain ⟨b, off, hA, hb, hn, hr⟩ := h (fun e => hl (by rw [e, List.take_nil]))
  refine ⟨b, off, hA, hb, hn, fun j u hu => hr j u ?_⟩
  rw [List.getElem?_take] at hu
  split at hu
  · exact hu
  · cases hu
theorem RowC.drop {w : World} {s : List Nat} {A : Option Addr} {cs : List Value} (h : RowC w s A cs) (cap k sz : Nat) (hc : cs.length ≤ cap * sz) : RowC w s (aft A cap k sz) (cs.drop (k * sz)) := fun hl => by
  have hne : ¬ cap = k := fun e => hl (List.drop_eq_nil_of_le (by rw [← e]; exact hc))
  obtain ⟨b, off, hA, hb, hn, hr⟩ := h (fun e => hl (by rw [e, List.drop_nil]))
  refine ⟨b, off + k * sz, ?_, hb, hn, fun j u hu => ?_⟩
  · unfold aft
    rw [if_neg hne, hA, Option.map_some, add_flat']
  · rw [List.getElem?_drop] at hu
    rw [Nat.add_assoc]
    exact hr _ u hu
theorem RowC.sub {w : World} {s t : List Nat} {A : Option Addr} {cs : List Value} (h : RowC w s A cs) (hs : ∀ x ∈ t, x ∈ s) : RowC w t A cs := fun hl => by
  obtain ⟨b, off, hA, hb, hn, hr⟩ := h hl
  exact ⟨b, off, hA, hb, fun hx => hn (hs b hx), hr⟩
/-- A slice that was there. -/
def RowCA (w : World) (A : Option Addr) (cs : List Value) : Prop := RowC w [] A cs
theorem RowCA.at {w0 W : World} {A : Option Addr} {cs : List Value} (h : RowCA w0 A cs) (hb : Below w0.heap.size w0 W) {s : List Nat} (hs : ∀ x ∈ s, w0.heap.size ≤ x) : RowC W s A cs := fun hl => by
  obtain ⟨b, off, hA, hbl, _, hr⟩ := h hl
  exact ⟨b, off, hA, Nat.lt_of_lt_of_le hbl hb.size, (fun hx => by have := hs b hx; omega), fun j u hu => World.cell_block (hb.block b hbl) (hr j u hu)⟩
/-- Numbers as values. -/
def ivs (L : List Int) : List Value := L.map fun x => .int .i64 x
theorem ivs_drop (L : List Int) (k : Nat) : (ivs L).drop (k * 1) = ivs (L.drop k) := by unfold ivs; rw [List.map_drop, Nat.mul_one]
/-- A slice at A reads as numbers. -/
abbrev RowI (w : World) (s : List Nat) (A : Option Addr) (L : List Int) : Prop := RowC w s A (ivs L)
theorem RowI.aft {w : World} {s : List Nat} {A : Option Addr} {L : List Int} (h : RowI w s A L) (cap k : Nat) (hc : L.length ≤ cap) : RowI w s (aft A cap k 1) (L.drop k) := by
  have := RowC.drop h cap k 1 (by unfold ivs; rw [List.length_map]; omega)
  rwa [ivs_drop] at this
theorem RowI.get {w : World} {s : List Nat} {A : Option Addr} {L : List Int} (h : RowI w s A L) (k : Nat) (hk : k < L.length) : ∃ b off, A = some ⟨b, off, none⟩ ∧ w.cell? ⟨b, off + k, none⟩ = some (.int .i64 (L[k])) := by
  obtain ⟨b, off, hA, _, _, hr⟩ := h (fun e => by
    have : (ivs L).length = L.length := by unfold ivs; rw [List.length_map]
    rw [e, List.length_nil] at this
    omega)
  exact ⟨b, off, hA, hr k _ (by unfold ivs; rw [List.getElem?_map, List.getElem?_eq_getElem hk]; rfl)⟩

theorem flat_len {α : Type} (f : α → List Value) (k : Nat) (hf : ∀ a, (f a).length = k) (L : List α) : (L.flatMap f).length = L.length * k := by
  induction L with
  | nil => simp
  | cons x xs ih => rw [List.flatMap_cons, List.length_append, hf, ih, List.length_cons, Nat.succ_mul, Nat.add_comm]
theorem flat_get {α : Type} (f : α → List Value) (k : Nat) (hf : ∀ a, (f a).length = k) (L : List α) : ∀ (i : Nat) (h : i < L.length) (j : Nat), j < k → (L.flatMap f)[i * k + j]? = (f L[i])[j]? := by
  induction L with
  | nil => intro i h; cases h
  | cons x xs ih =>
    intro i h j hj
    rw [List.flatMap_cons]
    cases i with
    | zero => rw [Nat.zero_mul, Nat.zero_add, List.getElem?_append_left (by rw [hf]; exact hj)]; rfl
    | succ i =>
      rw [List.length_cons] at h
      rw [List.getElem?_append_right (by rw [hf, Nat.succ_mul]; omega), hf, show (i + 1) * k + j - k = i * k + j from by rw [Nat.succ_mul]; omega]
      exact ih i (by omega) j hj
theorem flat_drop {α : Type} (f : α → List Value) (k : Nat) (hf : ∀ a, (f a).length = k) (L : List α) : ∀ n, (L.flatMap f).drop (n * k) = (L.drop n).flatMap f := by
  induction L with
  | nil => intro n; simp
  | cons x xs ih =>
    intro n
    cases n with
    | zero => simp
    | succ n =>
      rw [List.flatMap_cons, List.drop_succ_cons, List.drop_append, hf, show (n + 1) * k - k = n * k from by rw [Nat.succ_mul]; omega, ih, List.drop_eq_nil_of_le (by rw [hf, Nat.succ_mul]; omega), List.nil_append]
/-- A slip. -/
structure Slp where
  n : List UInt8
  p : List UInt8
  c : List UInt8
  e : Bool
  deriving DecidableEq
def Slp.cs (x : Slp) : List Value := [.string (S x.n), .string (S x.p), .string (S x.c), .bool x.e]
theorem Slp.cs_len (x : Slp) : x.cs.length = 4 := rfl
/-- Slips as values. -/
def svs (L : List Slp) : List Value := L.flatMap Slp.cs
theorem svs_len (L : List Slp) : (svs L).length = L.length * 4 := flat_len Slp.cs 4 Slp.cs_len L
theorem svs_snoc (L : List Slp) (x : Slp) : svs L ++ x.cs = svs (L ++ [x]) := by unfold svs; rw [List.flatMap_append, List.flatMap_singleton]
/-- A slice at A reads as slips. -/
abbrev RowP (w : World) (s : List Nat) (A : Option Addr) (L : List Slp) : Prop := RowC w s A (svs L)
theorem RowP.aft {w : World} {s : List Nat} {A : Option Addr} {L : List Slp} (h : RowP w s A L) (cap k : Nat) (hc : L.length ≤ cap) : RowP w s (aft A cap k 4) (L.drop k) := by
  have := RowC.drop h cap k 4 (by rw [svs_len]; omega)
  unfold svs at this
  rwa [flat_drop Slp.cs 4 Slp.cs_len] at this
/-- A slip lies at an offset of a block. -/
def PAt (W : World) (b o : Nat) (x : Slp) : Prop :=
  W.cell? ⟨b, o, none⟩ = some (.string (S x.n)) ∧ W.cell? ⟨b, o + 1, none⟩ = some (.string (S x.p)) ∧ W.cell? ⟨b, o + 2, none⟩ = some (.string (S x.c)) ∧ W.cell? ⟨b, o + 3, none⟩ = some (.bool x.e)
theorem RowP.get {w : World} {s : List Nat} {A : Option Addr} {L : List Slp} (h : RowP w s A L) (k : Nat) (hk : k < L.length) : ∃ b off, A = some ⟨b, off, none⟩ ∧ b < w.heap.size ∧ b ∉ s ∧ PAt w b (off + k * 4) (L[k]) := by
  obtain ⟨b, off, hA, hb, hn, hr⟩ := h (fun e => by
    have := svs_len L
    rw [e, List.length_nil] at this
    omega)
  have hg := fun j (hj : j < 4) => flat_get Slp.cs 4 Slp.cs_len L k hk j hj
  refine ⟨b, off, hA, hb, hn, ?_, ?_, ?_, ?_⟩
  · exact hr (k * 4) _ ((hg 0 (by omega)).trans rfl)
  · rw [Nat.add_assoc]; exact hr (k * 4 + 1) _ ((hg 1 (by omega)).trans rfl)
  · rw [Nat.add_assoc]; exact hr (k * 4 + 2) _ ((hg 2 (by omega)).trans rfl)
  · rw [Nat.add_assoc]; exact hr (k * 4 + 3) _ ((hg 3 (by omega)).trans rfl)
/-- Parts as values. -/
def pcs (p : Nat × Nat) : List Value := [.int .i64 (p.1 : Int), .int .i64 (p.2 : Int)]
def pvs (L : List (Nat × Nat)) : List Value := L.flatMap pcs
theorem pcs_len (x : Nat × Nat) : (pcs x).length = 2 := rfl
theorem pvs_len (L : List (Nat × Nat)) : (pvs L).length = L.length * 2 := flat_len pcs 2 pcs_len L
abbrev RowPt (w : World) (s : List Nat) (A : Option Addr) (L : List (Nat × Nat)) : Prop := RowC w s A (pvs L)
theorem RowPt.get {w : World} {s : List Nat} {A : Option Addr} {L : List (Nat × Nat)} (h : RowPt w s A L) (k : Nat) (hk : k < L.length) : ∃ b off, A = some ⟨b, off, none⟩ ∧ b < w.heap.size ∧ b ∉ s ∧ w.cell? ⟨b, off + k * 2, none⟩ = some (.int .i64 ((L[k]).1 : Int)) ∧ w.cell? ⟨b, off + k * 2 + 1, none⟩ = some (.int .i64 ((L[k]).2 : Int)) := by
  obtain ⟨b, off, hA, hb, hn, hr⟩ := h (fun e => by
    have := pvs_len L
    rw [e, List.length_nil] at this
    omega)
  have hg := fun j (hj : j < 2) => flat_get pcs 2 pcs_len L k hk j hj
  refine ⟨b, off, hA, hb, hn, ?_, ?_⟩
  · exact hr (k * 2) _ ((hg 0 (by omega)).trans rfl)
  · rw [Nat.add_assoc]; exact hr (k * 2 + 1) _ ((hg 1 (by omega)).trans rfl)
/-- A row of the call's own, read. -/
theorem own_rowC {w : World} {B e sz n : Nat} {v : Value} {cs : List Value} {s : List Nat} (h : w.ownsRow B e sz v n cs) (hs : ∀ x ∈ s, x < B) (hz : 0 < sz) : ∃ A cap, v = .slice A n cap ∧ n ≤ cap ∧ cap ≤ maxLen ∧ (A = none → cs = [] ∧ n = 0 ∧ cap = 0) ∧ cs.length = n * sz ∧ RowC w s A cs := by
  rcases h.2 with ⟨rfl, rfl⟩ | ⟨b, cap, cur, rfl, hb, hgg, hc, hcm, _⟩
  · refine ⟨none, 0, rfl, Nat.le_refl _, Nat.zero_le _, fun _ => ⟨List.eq_nil_of_length_eq_zero ?_, rfl, rfl⟩, h.1, fun hr => ?_⟩
    · rw [h.1, Nat.zero_mul]
    · exact absurd (List.eq_nil_of_length_eq_zero (by rw [h.1, Nat.zero_mul])) hr
  · refine ⟨some ⟨b, 0, none⟩, cap, rfl, hc, hcm, (fun e => by cases e), h.1, fun hr => ⟨b, 0, rfl, (Array.getElem?_eq_some_iff.1 hgg).1, fun hx => ?_, fun j u hu => ?_⟩⟩
    · have := hs b hx
      omega
    · have := h.cells (g := b) rfl j u hu
      rwa [add_flat'] at this
end Go.Proofs.Ytojemaaljjibiaa

namespace Go.Proofs.Ytojemaaljjibiaa
namespace M

/-- The digits of a number, the highest first, at most k of them. -/
def digF : Nat → Nat → List UInt8
  | 0, _ => []
  | k + 1, n => if n = 0 then [] else digF k (n / 256) ++ [UInt8.ofNat (n % 256)]

def dig (n : Nat) : List UInt8 := digF 8 n

/-- The encoding of a number, as bytes; empty where it has none. -/
def encL (n : Int) : List UInt8 := if 0 ≤ n ∧ n < 72057594037927936 then UInt8.ofNat (dig n.toNat).length :: dig n.toNat else []

end M
end Go.Proofs.Ytojemaaljjibiaa

namespace Go.Proofs.Ytojemaaljjibiaa
namespace R
abbrev St := List UInt8 × Int
def failE (k e : Int) : Int := if e = 0 then k else e
def fail (k : Int) (st : St) : St := (st.1, failE k st.2)
def next (n : Int) (st : St) : List UInt8 × St :=
  if st.2 ≠ 0 then ([], st) else if n < 0 then ([], (st.1, 1)) else if (st.1.length : Int) < n then ([], (st.1, 2)) else (st.1.take n.toNat, (st.1.drop n.toNat, 0))
def digits (st : St) : Int × St :=
  match next 1 st with
  | ([], st1) => (0, st1)
  | (c :: _, st1) => if 7 < c.toNat then (0, fail 4 st1) else (c.toNat, st1)
def fold (l : List UInt8) : Nat := l.foldl (fun n c => n * 256 + c.toNat) 0
def lead (l : List UInt8) (st : St) : St := if l.head? = some 0 then fail 4 st else st
def num (most : Int) (st : St) : Int × St :=
  let d := digits st
  let b := next d.1 d.2
  let st3 := lead b.1 b.2
  let n : Int := fold b.1
  let st4 := if most < n then fail 3 st3 else st3
  (if st4.2 = 0 then n else 0, st4)
def text (most : Int) (st : St) : List UInt8 × St := next (num most st).1 (num most st).2
def left (st : St) : Int := if st.2 ≠ 0 then 0 else st.1.length

end R
end Go.Proofs.Ytojemaaljjibiaa

namespace Go.Proofs.Ytojemaaljjibiaa
namespace R
open M

/-! How a number is read. -/

end R
end Go.Proofs.Ytojemaaljjibiaa

namespace Go.Proofs.Ytojemaaljjibiaa
open Go.Op (bytesLess)
set_option linter.unusedVariables false

/-- A paper as it is kept. -/
structure Ent where
  id : List UInt8
  cls : Int
  born : Int
  slot : Int
  L : List Slp
  gone : Bool
  H : List (List UInt8)
  deriving DecidableEq
/-- An event. -/
structure Evt where
  kind : Int
  ent : Ent
  seq : Int
  idx : Int
  name : List UInt8
  size : Int
  root : List UInt8
  now : Int
  deriving DecidableEq
def Ent.zero : Ent := ⟨[], 0, 0, 0, [], false, []⟩
def Evt.zero : Evt := ⟨0, Ent.zero, 0, 0, [], 0, [], 0⟩
namespace Ev
abbrev T := List UInt8
/-- Is each one ahead of the next? -/
def rise : List T → Bool
  | [] => true
  | [_] => true
  | a :: b :: r => bytesLess a b && rise (b :: r)
def rng (n m : Int) : Bool := decide (0 ≤ n ∧ n ≤ m)
/-- May a slip be? -/
def slipR (gone : Bool) (s : Slp) : Bool :=
  Pap.word 16 s.n && decide (s.p.length = 32) && (if s.e then decide (s.c.length = 0) else decide (16 ≤ s.c.length ∧ s.c.length ≤ 224) && !gone)
/-- May a paper as it is kept be? -/
def entR (e : Ent) : Bool :=
  Pap.word 24 e.id && rng e.cls 7 && rng e.born 1099511627776 && rng e.slot 63 && decide (1 ≤ e.L.length ∧ e.L.length ≤ 12) && decide (e.H.length ≤ 4) &&
    (e.H.all (Pap.word 16) && rise e.H) && (e.L.all (slipR e.gone) && rise (e.L.map Slp.n))
/-- May an event be? -/
def right (v : Evt) : Bool :=
  if v.kind = 1 then entR v.ent
  else if v.kind = 2 then rng v.seq 63 && rng v.idx 11
  else if v.kind = 3 then rng v.seq 63
  else if v.kind = 4 ∨ v.kind = 5 then rng v.seq 63 && Pap.word 16 v.name
  else if v.kind = 6 then rng v.size 64 && decide (v.root.length = 32)
  else if v.kind = 7 then rng v.now 1099511627776
  else false
/-! bytes -/
def txt (s : T) : T := M.encL s.length ++ s
def flg (b : Bool) : T := [if b then 1 else 0]
def encS (s : Slp) : T := txt s.n ++ txt s.p ++ flg s.e ++ if s.e then [] else txt s.c
def encE (e : Ent) : T := txt e.id ++ M.encL e.cls ++ M.encL e.born ++ M.encL e.slot ++ flg e.gone ++ M.encL e.H.length ++ e.H.flatMap txt ++ M.encL e.L.length ++ e.L.flatMap encS
def enc (v : Evt) : T :=
  M.encL v.kind ++
    (if v.kind = 1 then encE v.ent
    else if v.kind = 2 then M.encL v.seq ++ M.encL v.idx
    else if v.kind = 3 then M.encL v.seq
    else if v.kind = 4 ∨ v.kind = 5 then M.encL v.seq ++ txt v.name
    else if v.kind = 6 then M.encL v.size ++ txt v.root
    else M.encL v.now)
/-- An event's bytes, or nothing. -/
def bytes (v : Evt) : T := if right v = true then enc v else []
/-! what is right -/
theorem rng_iff {n m : Int} : rng n m = true ↔ 0 ≤ n ∧ n ≤ m := by unfold rng; rw [decide_eq_true_iff]
theorem right1 {v : Evt} (h : v.kind = 1) : right v = entR v.ent := by unfold right; rw [if_pos h]
theorem right2 {v : Evt} (h : v.kind = 2) : right v = (rng v.seq 63 && rng v.idx 11) := by unfold right; rw [if_neg (by omega), if_pos h]
theorem right3 {v : Evt} (h : v.kind = 3) : right v = rng v.seq 63 := by unfold right; rw [if_neg (by omega), if_neg (by omega), if_pos h]
theorem right4 {v : Evt} (h : v.kind = 4 ∨ v.kind = 5) : right v = (rng v.seq 63 && Pap.word 16 v.name) := by unfold right; rw [if_neg (by omega), if_neg (by omega), if_neg (by omega), if_pos h]
theorem right6 {v : Evt} (h : v.kind = 6) : right v = (rng v.size 64 && decide (v.root.length = 32)) := by unfold right; rw [if_neg (by omega), if_neg (by omega), if_neg (by omega), if_neg (by omega), if_pos h]
theorem right7 {v : Evt} (h : v.kind = 7) : right v = rng v.now 1099511627776 := by unfold right; rw [if_neg (by omega), if_neg (by omega), if_neg (by omega), if_neg (by omega), if_neg (by omega), if_pos h]
theorem right0 {v : Evt} (h1 : v.kind < 1 ∨ 7 < v.kind) : right v = false := by unfold right; rw [if_neg (by omega), if_neg (by omega), if_neg (by omega), if_neg (by omega), if_neg (by omega), if_neg (by omega)]
theorem kinds (v : Evt) : v.kind = 1 ∨ v.kind = 2 ∨ v.kind = 3 ∨ (v.kind = 4 ∨ v.kind = 5) ∨ v.kind = 6 ∨ v.kind = 7 ∨ (v.kind < 1 ∨ 7 < v.kind) := by omega
theorem right_kind {v : Evt} (h : right v = true) : 1 ≤ v.kind ∧ v.kind ≤ 7 := by
  rcases kinds v with q | q | q | q | q | q | q
  all_goals first | omega | (rw [right0 q] at h; cases h)
/-- What is right of a paper, one by one. -/
theorem entR_iff {e : Ent} : entR e = true ↔ Pap.word 24 e.id = true ∧ (0 ≤ e.cls ∧ e.cls ≤ 7) ∧ (0 ≤ e.born ∧ e.born ≤ 1099511627776) ∧ (0 ≤ e.slot ∧ e.slot ≤ 63) ∧ (1 ≤ e.L.length ∧ e.L.length ≤ 12) ∧ e.H.length ≤ 4 ∧
    (∀ x ∈ e.H, Pap.word 16 x = true) ∧ rise e.H = true ∧ (∀ x ∈ e.L, slipR e.gone x = true) ∧ rise (e.L.map Slp.n) = true := by
  unfold entR
  simp only [Bool.and_eq_true, rng_iff, decide_eq_true_iff, List.all_eq_true]
  constructor
  · rintro ⟨⟨⟨⟨⟨⟨⟨a, b⟩, c⟩, d⟩, e⟩, f⟩, g, h⟩, i, j⟩
    exact ⟨a, b, c, d, e, f, g, h, i, j⟩
  · rintro ⟨a, b, c, d, e, f, g, h, i, j⟩
    exact ⟨⟨⟨⟨⟨⟨⟨a, b⟩, c⟩, d⟩, e⟩, f⟩, g, h⟩, i, j⟩
theorem slipR_iff {g : Bool} {s : Slp} : slipR g s = true ↔ Pap.word 16 s.n = true ∧ s.p.length = 32 ∧ (s.e = true → s.c = []) ∧ (s.e = false → 16 ≤ s.c.length ∧ s.c.length ≤ 224 ∧ g = false) := by
  unfold slipR
  cases he : s.e
  · simp only [Bool.and_eq_true, decide_eq_true_iff, Bool.false_eq_true, if_false, false_implies, true_and, Bool.not_eq_true', forall_const, and_assoc]
  · simp only [Bool.and_eq_true, decide_eq_true_iff, if_true, List.length_eq_zero_iff, forall_const, and_assoc, Bool.true_eq_false, false_implies, and_true]
/-! how long -/
end Ev
end Go.Proofs.Ytojemaaljjibiaa
