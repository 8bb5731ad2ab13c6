/-
  StaOne: the texts Mem, PapWord, Bytes, Mv, RowC, Math, ReadSpec, ReadPure, EvSpec in one.
-/
import Derived.WalkKit
import Derived.ProofKit
import Derived.Handy
import Derived.Lib.Hide
import Derived.Laws.IdiomStrings
import Derived.Laws.IdiomCopy
import Derived.Deep.MidRow
import Derived.Laws.AppendOwn
import Derived.OwnWalk
namespace Go.Proofs.Ytojemaaljjibiaa
set_option linter.unusedVariables false
open Go.RowKit

/-- Block g is just the cells cs, of elements of type t, none of them frozen. -/
def Has (w : World) (g : Nat) (t : TypeId) (cs : Array Value) : Prop := w.heap[g]? = some (.cells cs t (0, 0))

theorem Has.lt {w : World} {g : Nat} {t : TypeId} {cs : Array Value} (h : Has w g t cs) : g < w.heap.size := by
  refine Nat.lt_of_not_le fun hge => ?_
  rw [Has, Array.getElem?_eq_none hge] at h
  cases h
theorem Has.cell {w : World} {g : Nat} {t : TypeId} {cs : Array Value} (h : Has w g t cs) (i : Nat) : w.cell? ⟨g, i, none⟩ = cs[i]? := by
  unfold Has at h; simp [World.cell?, h]
theorem Has.free {w : World} {g : Nat} {t : TypeId} {cs : Array Value} (h : Has w g t cs) (i : Nat) : w.frozen? ⟨g, i, none⟩ = false := by
  unfold Has at h; simp [World.frozen?, h]
theorem Has.made (w : World) (t : TypeId) (cs : Array Value) : Has (w.alloc (.cells cs t)) w.heap.size t cs := heap_alloc_new w _
theorem Has.of_alloc {w : World} {g : Nat} {t : TypeId} {cs : Array Value} (h : Has w g t cs) (o : Obj) : Has (w.alloc o) g t cs := (Below.heap_alloc w o g h.lt).trans h
theorem Has.set {w : World} {g : Nat} {t : TypeId} {cs : Array Value} (h : Has w g t cs) (i : Nat) (u : Value) : Has (w.setCell ⟨g, i, none⟩ u) g t (cs.setIfInBounds i u) := by
  unfold Has at *; simp [World.setCell, Array.getElem?_modify, h]
theorem Has.other {w : World} {g : Nat} {t : TypeId} {cs : Array Value} (h : Has w g t cs) {p : Addr} (hp : g ≠ p.block) (u : Value) : Has (w.setCell p u) g t cs := (Below.heap_setCell w p u g hp).trans h
theorem Has.below {w w' : World} {B g : Nat} {t : TypeId} {cs : Array Value} (h : Has w g t cs) (hb : Below B w w') (hg : g < B) : Has w' g t cs := (hb.block g hg).trans h

/-- An array's tail, from z on, as a slice. -/
theorem arr_from {P : Program} {t e n : Nat} (ht : P.underlying t = some (.array n e)) (hs : ∀ w : World, (sizeOf e).run P w = .ok 1 w) (b z : Nat) (hz : z < n) (w : World) :
    (Instr.sliceAt t (.pointer (some ⟨b, 0, none⟩)) (some (.int .i64 (z : Int))) none none).run P w = .ok (.slice (some ⟨b, z, none⟩) (n - z) (n - z)) w := by
  have hl : P.arrayLen t = n := by simp [Program.arrayLen, ht]
  have he : P.elem t = e := by simp [Program.elem, ht]
  have h := run_sliceAt_array_l (P := P) w t ⟨b, 0, none⟩ (by rw [hl, he]; exact ht) .i64 (z : Int) (by omega) (by rw [hl]; omega)
  rw [h, he, hs]
  have hne : n ≠ z := by omega
  have hadd : (⟨b, 0, none⟩ : Addr).add z = ⟨b, z, none⟩ := by unfold Addr.add; split <;> simp_all
  simp [Result.andThen, slicedAt, hl, hne, hadd]

/-- Bytes as a list, as a text; as cells. -/
def S (l : List UInt8) : ByteArray := ⟨l.toArray⟩
def bcells (l : List UInt8) : List Value := l.map fun c => Value.int .u8 c.toNat

theorem S_nums (l : List UInt8) : strOfNums (l.map fun c => (c.toNat : Int)) = S l := by
  have h : (l.map fun c => (c.toNat : Int)).map (fun n => UInt8.ofNat n.toNat) = l := by
    rw [List.map_map]; conv => rhs; rw [← List.map_id l]
    apply List.map_congr_left; intro c _; simp
  unfold strOfNums S; rw [h]

/-- A row of bytes turned into a text. -/
theorem conv_text {P : Program} {src e dst : Nat} (hs : P.underlying src = some (.slice e)) (he : P.underlying e = some (.int .u8)) (hd : P.underlying dst = some .string)
    {w : World} {b off n cap : Nat} (l : List UInt8) (hn : l.length = n) (hc : ∀ i, i < n → w.cell? ⟨b, off + i, none⟩ = (bcells l)[i]?) :
    (convert src dst (.slice (some ⟨b, off, none⟩) n cap)).run P w = .ok (.string (S l)) w := by
  have h := run_convert_bytes_arg (P := P) w src e hs he b off n cap (l.map fun c => (c.toNat : Int)) (by simpa using hn) (fun i hi => by
    rw [hc i hi]
    have hi' : i < l.length := by omega
    simp [bcells, List.getElem?_eq_getElem hi', List.getD]) dst hd
  rw [h, S_nums]

theorem S_size (l : List UInt8) : (S l).size = l.length := rfl
theorem S_append (a b : List UInt8) : S a ++ S b = S (a ++ b) := by
  apply ByteArray.ext
  simp [S]
theorem S_extract (l : List UInt8) (a b : Nat) : (S l).extract a b = S ((l.take b).drop a) := by
  apply ByteArray.ext
  simp [S, ByteArray.data_extract]
  rw [List.drop_take]
theorem S_get (l : List UInt8) (i : Nat) (h : i < (S l).size) : (S l)[i]'h = l[i]'h := by
  simp [S, ByteArray.getElem_eq_getElem_data]
  rfl
theorem S_toList (l : List UInt8) : (S l).toList = l := by
  rw [ByteArray.toList_eq]; simp [S]
attribute [go_sem] S_toList List.isEmpty_nil List.isEmpty_cons
attribute [go_sem] S_size S_append S_extract List.drop_zero List.length_cons List.length_nil
/-- A text's byte: laid ahead of a walk. -/
theorem run_index_S {P : Program} (w : World) {t : TypeId} (l : List UInt8) (k : IntKind) (i : Nat) (h : P.underlying t = some .string) (h1 : i < l.length) :
    (Instr.index t (.string (S l)) (.int k (i : Int))).run P w = .ok (.int .u8 l[i].toNat) w := by
  rw [run_index_string w t (S l) k i h, dif_pos ⟨by omega, by rw [S_size]; omega⟩]
  rw [S_get]
  rfl
theorem S_of (s : ByteArray) : S s.data.toList = s := by
  cases s; simp [S]

theorem ret_str {a b : ByteArray} (h : a = b) : Ending.returned (.string a) = .returned (.string b) := by rw [h]
theorem ret_bool {a b : Bool} (h : a = b) : Ending.returned (.bool a) = .returned (.bool b) := by rw [h]
end Go.Proofs.Ytojemaaljjibiaa

namespace Go.Proofs.Ytojemaaljjibiaa
set_option linter.unusedVariables false

namespace Pap
/-- A sign of a word. -/
def wch (c : UInt8) : Bool := decide ((97 ≤ c.toNat ∧ c.toNat ≤ 122) ∨ (65 ≤ c.toNat ∧ c.toNat ≤ 90) ∨ (48 ≤ c.toNat ∧ c.toNat ≤ 57) ∨ c.toNat = 45 ∨ c.toNat = 95 ∨ c.toNat = 46)
def word (most : Nat) (s : List UInt8) : Bool := decide (0 < s.length ∧ s.length ≤ most) && s.all wch
theorem word_len {most : Nat} {s : List UInt8} (h : word most s = true) : 0 < s.length ∧ s.length ≤ most := by
  unfold word at h
  rw [Bool.and_eq_true] at h
  exact of_decide_eq_true h.1
end Pap
end Go.Proofs.Ytojemaaljjibiaa

namespace Go.Proofs.Ytojemaaljjibiaa
set_option linter.unusedVariables false
open Go.RowKit

/-! A text turned into a row of bytes. -/
def bcap (W : World) (e : TypeId) (l : List UInt8) : Nat := grownCap W l.length 0 e
def brow (W : World) (e : TypeId) (l : List UInt8) : Array Value := bytesRow (S l) (bcap W e l)
def bworld (W : World) (e : TypeId) (l : List UInt8) : World := W.drew.alloc (.cells (brow W e l) e ((brow W e l).size, (brow W e l).size + 1))

theorem conv_bytes {P : Program} {src dst e : TypeId} (hs : P.underlying src = some .string) (hd : P.underlying dst = some (.slice e)) (he : P.underlying e = some (.int .u8)) (W : World) (l : List UInt8) :
    (convert src dst (.string (S l))).run P W = .ok (.slice (some ⟨W.heap.size, 0, none⟩) l.length (bcap W e l)) (bworld W e l) :=
  run_bytes_of_string W src dst e (S l) hs hd he
theorem bworld_size (W : World) (e : TypeId) (l : List UInt8) : (bworld W e l).heap.size = W.heap.size + 1 := by unfold bworld; simp
attribute [go_sem] bworld_size
theorem bworld_below (W : World) (e : TypeId) (l : List UInt8) : Below W.heap.size W (bworld W e l) := by
  unfold bworld
  exact ((Below.refl _ W).drew).alloc (Nat.le_refl _) _
theorem bworld_cell (W : World) (e : TypeId) (l : List UInt8) (i : Nat) (hi : i < l.length) : (bworld W e l).cell? ⟨W.heap.size, i, none⟩ = (bcells l)[i]? := by
  have h : (bworld W e l).heap[W.heap.size]? = some (.cells (brow W e l) e ((brow W e l).size, (brow W e l).size + 1)) := by
    unfold bworld; exact heap_alloc_new W.drew _
  simp only [World.cell?, h, brow, bytesRow, S, bcells]
  simp [Array.getElem?_append, hi]

/-! A slice that reads as bytes: its cells lie in block b; a slice of no bytes may lie anywhere. -/
def Bytes (w : World) (b : Nat) (A : Option Addr) (l : List UInt8) : Prop := l ≠ [] → ∃ off, A = some ⟨b, off, none⟩ ∧ ∀ i, i < l.length → w.cell? ⟨b, off + i, none⟩ = (bcells l)[i]?

theorem Bytes.keep {w w' : World} {b : Nat} {A : Option Addr} {l : List UInt8} (h : Bytes w b A l) (hb : w'.heap[b]? = w.heap[b]?) : Bytes w' b A l := fun hl => by
  obtain ⟨off, hA, hc⟩ := h hl
  exact ⟨off, hA, fun i hi => (World.cell?_of_block hb).trans (hc i hi)⟩
theorem Bytes.nil (w : World) (b : Nat) (A : Option Addr) : Bytes w b A [] := fun h => absurd rfl h
theorem Bytes.take {w : World} {b : Nat} {A : Option Addr} {l : List UInt8} (h : Bytes w b A l) (k : Nat) : Bytes w b A (l.take k) := fun hl => by
  obtain ⟨off, hA, hc⟩ := h (by rintro rfl; simp at hl)
  refine ⟨off, hA, fun i hi => ?_⟩
  rw [List.length_take] at hi
  rw [hc i (by omega)]
  unfold bcells
  rw [List.map_take, List.getElem?_take, if_pos (by omega)]
theorem Bytes.drop {w : World} {b : Nat} {A : Option Addr} {l : List UInt8} (h : Bytes w b A l) (k : Nat) : Bytes w b (A.map (·.add k)) (l.drop k) := fun hl => by
  obtain ⟨off, rfl, hc⟩ := h (by rintro rfl; simp at hl)
  refine ⟨off + k, ?_, fun i hi => ?_⟩
  · simp only [Option.map_some, Option.some.injEq]
    unfold Addr.add; split <;> simp_all
  · rw [List.length_drop] at hi
    rw [Nat.add_assoc, hc (k + i) (by omega)]
    unfold bcells
    rw [List.map_drop, List.getElem?_drop]
theorem Bytes.lt {w : World} {b : Nat} {A : Option Addr} {l : List UInt8} (h : Bytes w b A l) (hl : l ≠ []) : b < w.heap.size := by
  obtain ⟨off, _, hc⟩ := h hl
  have h0 : 0 < l.length := List.length_pos_iff.2 hl
  have := hc 0 h0
  rw [show (bcells l)[0]? = some (.int .u8 (l[0].toNat : Int)) by simp [bcells, List.getElem?_eq_getElem h0]] at this
  exact World.block_lt_of_cell? w _ this

/-! Only block g of the old ones has turned. -/
abbrev Only (w w' : World) (g : Nat) : Prop := w.grownBy w' (some g)
theorem Only.refl (w : World) (g : Nat) : Only w w g := ⟨rfl, rfl, rfl, Nat.le_refl _, fun _ _ _ => rfl⟩
theorem Only.trans {a b c : World} {g : Nat} (h : Only a b g) (k : Only b c g) : Only a c g :=
  ⟨k.os.trans h.os, k.tape.trans h.tape, k.output.trans h.output, Nat.le_trans h.size k.size, fun i hi hn => (k.block i (Nat.lt_of_lt_of_le hi h.size) hn).trans (h.block i hi hn)⟩
theorem Only.set (w : World) (g i : Nat) (u : Value) : Only w (w.setCell ⟨g, i, none⟩ u) g :=
  ⟨rfl, rfl, rfl, by simp [World.setCell], fun k _ hn => Below.heap_setCell w ⟨g, i, none⟩ u k (fun e => hn (by rw [e]))⟩
theorem Only.of_below {w w' : World} (h : Below w.heap.size w w') (g : Nat) : Only w w' g := ⟨h.os, h.tape, h.output, h.size, fun i hi _ => h.block i hi⟩
theorem Only.has {w w' : World} {g k : Nat} {t : TypeId} {cs : Array Value} (h : Only w w' g) (hk : Has w k t cs) (hne : k ≠ g) : Has w' k t cs :=
  (h.block k hk.lt (fun e => hne (by injection e))).trans hk
theorem Only.bytes {w w' : World} {g b : Nat} {A : Option Addr} {l : List UInt8} (h : Only w w' g) (hk : Bytes w b A l) (hne : b ≠ g) : Bytes w' b A l := by
  by_cases hl : l = []
  · subst hl; exact Bytes.nil _ _ _
  · exact hk.keep (h.block b (hk.lt hl) (fun e => hne (by injection e)))
theorem Only.below {w0 w w' : World} {g B : Nat} (h : Only w w' g) (hb : Below B w0 w) (hB : B ≤ w.heap.size) (hg : B ≤ g) : Below B w0 w' :=
  hb.grown h hB (fun k e => by injection e with e; omega)
end Go.Proofs.Ytojemaaljjibiaa

namespace Go.Proofs.Ytojemaaljjibiaa
open Go.RowKit
set_option linter.unusedVariables false

/-- Only the old blocks of s have turned. -/
structure Mv (w w' : World) (s : List Nat) : Prop where
  os : w'.os = w.os
  tape : w'.tape = w.tape
  output : w'.output = w.output
  size : w.heap.size ≤ w'.heap.size
  block : ∀ k, k < w.heap.size → k ∉ s → w'.heap[k]? = w.heap[k]?
theorem Mv.refl (w : World) (s : List Nat) : Mv w w s := ⟨rfl, rfl, rfl, Nat.le_refl _, fun _ _ _ => rfl⟩
theorem Mv.trans {a b c : World} {s : List Nat} (h : Mv a b s) (k : Mv b c s) : Mv a c s :=
  ⟨k.os.trans h.os, k.tape.trans h.tape, k.output.trans h.output, Nat.le_trans h.size k.size, fun i hi hn => (k.block i (Nat.lt_of_lt_of_le hi h.size) hn).trans (h.block i hi hn)⟩
theorem Mv.of_below {w w' : World} (h : Below w.heap.size w w') (s : List Nat) : Mv w w' s := ⟨h.os, h.tape, h.output, h.size, fun i hi _ => h.block i hi⟩
theorem Mv.of_only {w w' : World} {g : Nat} (h : Only w w' g) {s : List Nat} (hg : g ∈ s) : Mv w w' s := ⟨h.os, h.tape, h.output, h.size, fun i hi hn => h.block i hi (fun e => hn (by injection e with e; rw [e]; exact hg))⟩
theorem Mv.wide {w w' : World} {s t : List Nat} (h : Mv w w' s) (hs : ∀ x ∈ s, x ∈ t) : Mv w w' t := ⟨h.os, h.tape, h.output, h.size, fun i hi hn => h.block i hi (fun e => hn (hs i e))⟩
theorem Mv.below {w0 w w' : World} {s : List Nat} {B : Nat} (h : Mv w w' s) (hb : Below B w0 w) (hB : B ≤ w.heap.size) (hs : ∀ x ∈ s, B ≤ x) : Below B w0 w' :=
  hb.trans ⟨h.os, h.tape, h.output, h.size, fun i hi => h.block i (by omega) (fun hm => by have := hs i hm; omega)⟩
theorem Mv.drew {a b : World} {s : List Nat} (h : Mv a b s) : Mv a b.drew s := ⟨h.os, h.tape, h.output, h.size, h.block⟩
theorem Mv.alloc {a b : World} {s : List Nat} (h : Mv a b s) (o : Obj) : Mv a (b.alloc o) s := h.trans (Mv.of_below ((Below.refl _ b).alloc (Nat.le_refl _) o) s)
theorem Mv.has {w w' : World} {s : List Nat} {k : Nat} {t : TypeId} {cs : Array Value} (h : Mv w w' s) (hk : Has w k t cs) (hn : k ∉ s) : Has w' k t cs := (h.block k hk.lt hn).trans hk

theorem asize (w : World) (o : Obj) : (w.alloc o).heap.size = w.heap.size + 1 := by simp
/-! many cells of one block at once -/
theorem Has.there {w : World} {g o n : Nat} {t : TypeId} {cs : Array Value} (h : Has w g t cs) (hb : o + n ≤ cs.size) : w.there g o n := fun j hj => by
  refine ⟨?_, h.free _⟩
  rw [h.cell]
  rw [Array.getElem?_eq_getElem (by omega)]
  rfl
end Go.Proofs.Ytojemaaljjibiaa

namespace Go.Proofs.Ytojemaaljjibiaa
open Go.RowKit
set_option linter.unusedVariables false

theorem World.cell_block {w w' : World} {b off : Nat} {v : Value} (h : w'.heap[b]? = w.heap[b]?) (hc : w.cell? ⟨b, off, none⟩ = some v) : w'.cell? ⟨b, off, none⟩ = some v := by
  unfold World.cell? at hc ⊢
  rw [h]; exact hc
/-- Texts as values. -/
def tvs (L : List (List UInt8)) : List Value := L.map fun s => .string (S s)
theorem tvs_snoc (L : List (List UInt8)) (x : List UInt8) : tvs L ++ [.string (S x)] = tvs (L ++ [x]) := by simp [tvs]
theorem own_mv {w w' : World} {B e s n : Nat} {v : Value} {xs : List Value} {t : List Nat} (h : w.ownsRow B e s v n xs) (hm : Mv w w' t) (ht : ∀ x ∈ t, x < B) : w'.ownsRow B e s v n xs := by
  refine ⟨h.1, ?_⟩
  rcases h.2 with hn | ⟨g, cap, cur, rfl, hb, hgg, rest⟩
  · exact .inl hn
  · exact .inr ⟨g, cap, cur, rfl, hb, (hm.block g (Array.getElem?_eq_some_iff.1 hgg).1 (fun hx => by have := ht g hx; omega)).trans hgg, rest⟩
theorem own_low {w : World} {B B' e s n : Nat} {v : Value} {xs : List Value} (h : w.ownsRow B e s v n xs) (hb : B' ≤ B) : w.ownsRow B' e s v n xs := by
  refine ⟨h.1, ?_⟩
  rcases h.2 with hn | ⟨g, cap, cur, rfl, hg, rest⟩
  · exact .inl hn
  · exact .inr ⟨g, cap, cur, rfl, Nat.le_trans hb hg, rest⟩
theorem Mv.of_grown {w w' : World} {row : Option Nat} (h : w.grownBy w' row) {s : List Nat} (hs : ∀ k, row = some k → k ∈ s) : Mv w w' s :=
  ⟨h.os, h.tape, h.output, h.size, fun i hi hn => h.block i hi (fun e => hn (hs i e.symm))⟩
theorem Mv.own {w w3 w5 : World} {s : List Nat} {row : Option Nat} (h : Mv w w3 s) (hg : w3.grownBy w5 row) (hr : ∀ k, row = some k → w.heap.size ≤ k) : Mv w w5 s :=
  ⟨hg.os.trans h.os, hg.tape.trans h.tape, hg.output.trans h.output, Nat.le_trans h.size hg.size, fun i hi hn => (hg.block i (Nat.lt_of_lt_of_le hi h.size) (fun e => by have := hr i e.symm; omega)).trans (h.block i hi hn)⟩
theorem grown_alloc {w w' : World} {row : Option Nat} (o : Obj) (h : (w.alloc o).grownBy w' row) : w.grownBy w' row :=
  ⟨h.os, h.tape, h.output, Nat.le_trans (by simp) h.size, fun i hi hn => (h.block i (by simp; omega) hn).trans (Below.heap_alloc w o i hi)⟩
/-- The address behind k elements of sz cells. -/
def aft (A : Option Addr) (cap k sz : Nat) : Option Addr := if cap = k then A else A.map (·.add (k * sz))
theorem add_flat' (b off i : Nat) : (⟨b, off, none⟩ : Addr).add i = ⟨b, off + i, none⟩ := by
  unfold Addr.add; split <;> simp_all
/-- A slice at A reads as values, in a block that is there and none of s. -/
def RowC (w : World) (s : List Nat) (A : Option Addr) (cs : List Value) : Prop := cs ≠ [] → ∃ b off, A = some ⟨b, off, none⟩ ∧ b < w.heap.size ∧ b ∉ s ∧ ∀ j u, cs[j]? = some u → w.cell? ⟨b, off + j, none⟩ = some u
theorem RowC.nil (w : World) (s : List Nat) (A : Option Addr) : RowC w s A [] := fun h => absurd rfl h
theorem RowC.mv {w w' : World} {s t : List Nat} {A : Option Addr} {cs : List Value} (h : RowC w s A cs) (hm : Mv w w' t) (ht : ∀ x ∈ t, x ∈ s) : RowC w' s A cs := fun hl => by
  obtain ⟨b, off, hA, hb, hn, hr⟩ := h hl
  exact ⟨b, off, hA, Nat.lt_of_lt_of_le hb hm.size, hn, fun j u hu => World.cell_block (hm.block b hb (fun hx => hn (ht b hx))) (hr j u hu)⟩
theorem RowC.below {w w' : World} {s : List Nat} {A : Option Addr} {cs : List Value} (h : RowC w s A cs) (hb : Below w.heap.size w w') : RowC w' s A cs := h.mv (Mv.of_below hb []) (by simp)
theorem RowC.take {w : World} {s : List Nat} {A : Option Addr} {cs : List Value} (h : RowC w s A cs) (k : Nat) : RowC w s A (cs.take k) := fun hl => by
  obtain ⟨b, off, hA, hb, hn, hr⟩ := h (fun e => hl (by rw [e, List.take_nil]))
  refine ⟨b, off, hA, hb, hn, fun j u hu => hr j u ?_⟩
  rw [List.getElem?_take] at hu
  split at hu
  · exact hu
  · cases hu
theorem RowC.drop {w : World} {s : List Nat} {A : Option Addr} {cs : List Value} (h : RowC w s A cs) (cap k sz : Nat) (hc : cs.length ≤ cap * sz) : RowC w s (aft A cap k sz) (cs.drop (k * sz)) := fun hl => by
  have hne : ¬ cap = k := fun e => hl (List.drop_eq_nil_of_le (by rw [← e]; exact hc))
  obtain ⟨b, off, hA, hb, hn, hr⟩ := h (fun e => hl (by rw [e, List.drop_nil]))
  refine ⟨b, off + k * sz, ?_, hb, hn, fun j u hu => ?_⟩
  · unfold aft
    rw [if_neg hne, hA, Option.map_some, add_flat']
  · rw [List.getElem?_drop] at hu
    rw [Nat.add_assoc]
    exact hr _ u hu
theorem RowC.sub {w : World} {s t : List Nat} {A : Option Addr} {cs : List Value} (h : RowC w s A cs) (hs : ∀ x ∈ t, x ∈ s) : RowC w t A cs := fun hl => by
  obtain ⟨b, off, hA, hb, hn, hr⟩ := h hl
  exact ⟨b, off, hA, hb, fun hx => hn (hs b hx), hr⟩
/-- A slice that was there. -/
def RowCA (w : World) (A : Option Addr) (cs : List Value) : Prop := RowC w [] A cs
theorem RowCA.at {w0 W : World} {A : Option Addr} {cs : List Value} (h : RowCA w0 A cs) (hb : Below w0.heap.size w0 W) {s : List Nat} (hs : ∀ x ∈ s, w0.heap.size ≤ x) : RowC W s A cs := fun hl => by
  obtain ⟨b, off, hA, hbl, _, hr⟩ := h hl
  exact ⟨b, off, hA, Nat.lt_of_lt_of_le hbl hb.size, (fun hx => by have := hs b hx; omega), fun j u hu => World.cell_block (hb.block b hbl) (hr j u hu)⟩
/-- Numbers as values. -/
def ivs (L : List Int) : List Value := L.map fun x => .int .i64 x
theorem ivs_drop (L : List Int) (k : Nat) : (ivs L).drop (k * 1) = ivs (L.drop k) := by unfold ivs; rw [List.map_drop, Nat.mul_one]
/-- A slice at A reads as numbers. -/
abbrev RowI (w : World) (s : List Nat) (A : Option Addr) (L : List Int) : Prop := RowC w s A (ivs L)
theorem RowI.aft {w : World} {s : List Nat} {A : Option Addr} {L : List Int} (h : RowI w s A L) (cap k : Nat) (hc : L.length ≤ cap) : RowI w s (aft A cap k 1) (L.drop k) := by
  have := RowC.drop h cap k 1 (by unfold ivs; rw [List.length_map]; omega)
  rwa [ivs_drop] at this
theorem RowI.get {w : World} {s : List Nat} {A : Option Addr} {L : List Int} (h : RowI w s A L) (k : Nat) (hk : k < L.length) : ∃ b off, A = some ⟨b, off, none⟩ ∧ w.cell? ⟨b, off + k, none⟩ = some (.int .i64 (L[k])) := by
  obtain ⟨b, off, hA, _, _, hr⟩ := h (fun e => by
    have : (ivs L).length = L.length := by unfold ivs; rw [List.length_map]
    rw [e, List.length_nil] at this
    omega)
  exact ⟨b, off, hA, hr k _ (by unfold ivs; rw [List.getElem?_map, List.getElem?_eq_getElem hk]; rfl)⟩

theorem flat_len {α : Type} (f : α → List Value) (k : Nat) (hf : ∀ a, (f a).length = k) (L : List α) : (L.flatMap f).length = L.length * k := by
  induction L with
  | nil => simp
  | cons x xs ih => rw [List.flatMap_cons, List.length_append, hf, ih, List.length_cons, Nat.succ_mul, Nat.add_comm]
theorem flat_get {α : Type} (f : α → List Value) (k : Nat) (hf : ∀ a, (f a).length = k) (L : List α) : ∀ (i : Nat) (h : i < L.length) (j : Nat), j < k → (L.flatMap f)[i * k + j]? = (f L[i])[j]? := by
  induction L with
  | nil => intro i h; cases h
  | cons x xs ih =>
    intro i h j hj
    rw [List.flatMap_cons]
    cases i with
    | zero => rw [Nat.zero_mul, Nat.zero_add, List.getElem?_append_left (by rw [hf]; exact hj)]; rfl
    | succ i =>
      rw [List.length_cons] at h
      rw [List.getElem?_append_right (by rw [hf, Nat.succ_mul]; omega), hf, show (i + 1) * k + j - k = i * k + j from by rw [Nat.succ_mul]; omega]
      exact ih i (by omega) j hj
theorem flat_drop {α : Type} (f : α → List Value) (k : Nat) (hf : ∀ a, (f a).length = k) (L : List α) : ∀ n, (L.flatMap f).drop (n * k) = (L.drop n).flatMap f := by
  induction L with
  | nil => intro n; simp
  | cons x xs ih =>
    intro n
    cases n with
    | zero => simp
    | succ n =>
      rw [List.flatMap_cons, List.drop_succ_cons, List.drop_append, hf, show (n + 1) * k - k = n * k from by rw [Nat.succ_mul]; omega, ih, List.drop_eq_nil_of_le (by rw [hf, Nat.succ_mul]; omega), List.nil_append]
/-- A slip. -/
structure Slp where
  n : List UInt8
  p : List UInt8
  c : List UInt8
  e : Bool
  deriving DecidableEq
def Slp.cs (x : Slp) : List Value := [.string (S x.n), .string (S x.p), .string (S x.c), .bool x.e]
theorem Slp.cs_len (x : Slp) : x.cs.length = 4 := rfl
/-- Slips as values. -/
def svs (L : List Slp) : List Value := L.flatMap Slp.cs
theorem svs_len (L : List Slp) : (svs L).length = L.length * 4 := flat_len Slp.cs 4 Slp.cs_len L
theorem svs_snoc (L : List Slp) (x : Slp) : svs L ++ x.cs = svs (L ++ [x]) := by unfold svs; rw [List.flatMap_append, List.flatMap_singleton]
/-- A slice at A reads as slips. -/
abbrev RowP (w : World) (s : List Nat) (A : Option Addr) (L : List Slp) : Prop := RowC w s A (svs L)
theorem RowP.aft {w : World} {s : List Nat} {A : Option Addr} {L : List Slp} (h : RowP w s A L) (cap k : Nat) (hc : L.length ≤ cap) : RowP w s (aft A cap k 4) (L.drop k) := by
  have := RowC.drop h cap k 4 (by rw [svs_len]; omega)
  unfold svs at this
  rwa [flat_drop Slp.cs 4 Slp.cs_len] at this
/-- A slip lies at an offset of a block. -/
def PAt (W : World) (b o : Nat) (x : Slp) : Prop :=
  W.cell? ⟨b, o, none⟩ = some (.string (S x.n)) ∧ W.cell? ⟨b, o + 1, none⟩ = some (.string (S x.p)) ∧ W.cell? ⟨b, o + 2, none⟩ = some (.string (S x.c)) ∧ W.cell? ⟨b, o + 3, none⟩ = some (.bool x.e)
theorem RowP.get {w : World} {s : List Nat} {A : Option Addr} {L : List Slp} (h : RowP w s A L) (k : Nat) (hk : k < L.length) : ∃ b off, A = some ⟨b, off, none⟩ ∧ b < w.heap.size ∧ b ∉ s ∧ PAt w b (off + k * 4) (L[k]) := by
  obtain ⟨b, off, hA, hb, hn, hr⟩ := h (fun e => by
    have := svs_len L
    rw [e, List.length_nil] at this
    omega)
  have hg := fun j (hj : j < 4) => flat_get Slp.cs 4 Slp.cs_len L k hk j hj
  refine ⟨b, off, hA, hb, hn, ?_, ?_, ?_, ?_⟩
  · exact hr (k * 4) _ ((hg 0 (by omega)).trans rfl)
  · rw [Nat.add_assoc]; exact hr (k * 4 + 1) _ ((hg 1 (by omega)).trans rfl)
  · rw [Nat.add_assoc]; exact hr (k * 4 + 2) _ ((hg 2 (by omega)).trans rfl)
  · rw [Nat.add_assoc]; exact hr (k * 4 + 3) _ ((hg 3 (by omega)).trans rfl)
/-- Parts as values. -/
def pcs (p : Nat × Nat) : List Value := [.int .i64 (p.1 : Int), .int .i64 (p.2 : Int)]
def pvs (L : List (Nat × Nat)) : List Value := L.flatMap pcs
theorem pcs_len (x : Nat × Nat) : (pcs x).length = 2 := rfl
theorem pvs_len (L : List (Nat × Nat)) : (pvs L).length = L.length * 2 := flat_len pcs 2 pcs_len L
abbrev RowPt (w : World) (s : List Nat) (A : Option Addr) (L : List (Nat × Nat)) : Prop := RowC w s A (pvs L)
theorem RowPt.get {w : World} {s : List Nat} {A : Option Addr} {L : List (Nat × Nat)} (h : RowPt w s A L) (k : Nat) (hk : k < L.length) : ∃ b off, A = some ⟨b, off, none⟩ ∧ b < w.heap.size ∧ b ∉ s ∧ w.cell? ⟨b, off + k * 2, none⟩ = some (.int .i64 ((L[k]).1 : Int)) ∧ w.cell? ⟨b, off + k * 2 + 1, none⟩ = some (.int .i64 ((L[k]).2 : Int)) := by
  obtain ⟨b, off, hA, hb, hn, hr⟩ := h (fun e => by
    have := pvs_len L
    rw [e, List.length_nil] at this
    omega)
  have hg := fun j (hj : j < 2) => flat_get pcs 2 pcs_len L k hk j hj
  refine ⟨b, off, hA, hb, hn, ?_, ?_⟩
  · exact hr (k * 2) _ ((hg 0 (by omega)).trans rfl)
  · rw [Nat.add_assoc]; exact hr (k * 2 + 1) _ ((hg 1 (by omega)).trans rfl)
/-- A row of the call's own, read. -/
theorem own_rowC {w : World} {B e sz n : Nat} {v : Value} {cs : List Value} {s : List Nat} (h : w.ownsRow B e sz v n cs) (hs : ∀ x ∈ s, x < B) (hz : 0 < sz) : ∃ A cap, v = .slice A n cap ∧ n ≤ cap ∧ cap ≤ maxLen ∧ (A = none → cs = [] ∧ n = 0 ∧ cap = 0) ∧ cs.length = n * sz ∧ RowC w s A cs := by
  rcases h.2 with ⟨rfl, rfl⟩ | ⟨b, cap, cur, rfl, hb, hgg, hc, hcm, _⟩
  · refine ⟨none, 0, rfl, Nat.le_refl _, Nat.zero_le _, fun _ => ⟨List.eq_nil_of_length_eq_zero ?_, rfl, rfl⟩, h.1, fun hr => ?_⟩
    · rw [h.1, Nat.zero_mul]
    · exact absurd (List.eq_nil_of_length_eq_zero (by rw [h.1, Nat.zero_mul])) hr
  · refine ⟨some ⟨b, 0, none⟩, cap, rfl, hc, hcm, (fun e => by cases e), h.1, fun hr => ⟨b, 0, rfl, (Array.getElem?_eq_some_iff.1 hgg).1, fun hx => ?_, fun j u hu => ?_⟩⟩
    · have := hs b hx
      omega
    · have := h.cells (g := b) rfl j u hu
      rwa [add_flat'] at this
end Go.Proofs.Ytojemaaljjibiaa

namespace Go.Proofs.Ytojemaaljjibiaa
namespace M

/-- The digits of a number, the highest first, at most k of them. -/
def digF : Nat → Nat → List UInt8
  | 0, _ => []
  | k + 1, n => if n = 0 then [] else digF k (n / 256) ++ [UInt8.ofNat (n % 256)]

def dig (n : Nat) : List UInt8 := digF 8 n

/-- The encoding of a number, as bytes; empty where it has none. -/
def encL (n : Int) : List UInt8 := if 0 ≤ n ∧ n < 72057594037927936 then UInt8.ofNat (dig n.toNat).length :: dig n.toNat else []

theorem digF_zero (k : Nat) : digF k 0 = [] := by cases k <;> simp [digF]

theorem digF_len : ∀ (k n : Nat), (digF k n).length ≤ k := by
  intro k
  induction k with
  | zero => intro n; simp [digF]
  | succ k ih =>
    intro n
    unfold digF
    split
    · simp
    · have := ih (n / 256); simp; omega

/-- More room changes nothing where there is room enough. -/
theorem digF_more : ∀ (k j n : Nat), n < 256 ^ k → digF (k + j) n = digF k n := by
  intro k
  induction k with
  | zero => intro j n h; have : n = 0 := by simpa using h
            subst this; rw [digF_zero, digF_zero]
  | succ k ih =>
    intro j n h
    have e : k + 1 + j = (k + j) + 1 := by omega
    rw [e]
    unfold digF
    split
    · rfl
    · rw [ih j (n / 256) (by rw [Nat.pow_succ] at h; exact Nat.div_lt_of_lt_mul (by omega))]

theorem dig_zero : dig 0 = [] := digF_zero 8

theorem dig_step (n : Nat) (h0 : 0 < n) (h : n < 72057594037927936) : dig n = dig (n / 256) ++ [UInt8.ofNat (n % 256)] := by
  unfold dig
  rw [show digF 8 n = digF 7 (n / 256) ++ [UInt8.ofNat (n % 256)] by rw [digF, if_neg (by omega)]]
  rw [show (8 : Nat) = 7 + 1 from rfl, digF_more 7 1 (n / 256) (by have : (256 : Nat) ^ 7 = 72057594037927936 := by decide
                                                                   omega)]

theorem dig_len (n : Nat) (h : n < 72057594037927936) : (dig n).length ≤ 7 := by
  unfold dig
  rw [show (8 : Nat) = 7 + 1 from rfl, digF_more 7 1 n (by have : (256 : Nat) ^ 7 = 72057594037927936 := by decide
                                                           omega)]
  exact digF_len 7 n

theorem encL_len (n : Int) : (encL n).length ≤ 8 := by
  unfold encL
  split
  · have := dig_len n.toNat (by omega)
    simp; omega
  · simp

end M
end Go.Proofs.Ytojemaaljjibiaa

namespace Go.Proofs.Ytojemaaljjibiaa
namespace R
abbrev St := List UInt8 × Int
def failE (k e : Int) : Int := if e = 0 then k else e
def fail (k : Int) (st : St) : St := (st.1, failE k st.2)
def next (n : Int) (st : St) : List UInt8 × St :=
  if st.2 ≠ 0 then ([], st) else if n < 0 then ([], (st.1, 1)) else if (st.1.length : Int) < n then ([], (st.1, 2)) else (st.1.take n.toNat, (st.1.drop n.toNat, 0))
def digits (st : St) : Int × St :=
  match next 1 st with
  | ([], st1) => (0, st1)
  | (c :: _, st1) => if 7 < c.toNat then (0, fail 4 st1) else (c.toNat, st1)
def fold (l : List UInt8) : Nat := l.foldl (fun n c => n * 256 + c.toNat) 0
def lead (l : List UInt8) (st : St) : St := if l.head? = some 0 then fail 4 st else st
def num (most : Int) (st : St) : Int × St :=
  let d := digits st
  let b := next d.1 d.2
  let st3 := lead b.1 b.2
  let n : Int := fold b.1
  let st4 := if most < n then fail 3 st3 else st3
  (if st4.2 = 0 then n else 0, st4)
def text (most : Int) (st : St) : List UInt8 × St := next (num most st).1 (num most st).2
def flag (st : St) : Bool × St :=
  match next 1 st with
  | ([], st1) => (false, st1)
  | (c :: _, st1) => (c.toNat == 1, if 1 < c.toNat then fail 4 st1 else st1)
def left (st : St) : Int := if st.2 ≠ 0 then 0 else st.1.length
def fin (st : St) : St := if 0 < left st then fail 4 st else st

theorem fold_snoc (l : List UInt8) (c : UInt8) : fold (l ++ [c]) = fold l * 256 + c.toNat := by simp [fold]
end R
end Go.Proofs.Ytojemaaljjibiaa

namespace Go.Proofs.Ytojemaaljjibiaa
namespace R
open M

theorem digF_head : ∀ (k n : Nat), n < 256 ^ k → (digF k n).head? ≠ some 0 := by
  intro k
  induction k with
  | zero => intro n _; simp [digF]
  | succ k ih =>
    intro n hlt
    unfold digF
    split
    · simp
    · rename_i hn
      have hlt' : n / 256 < 256 ^ k := by rw [Nat.pow_succ] at hlt; exact Nat.div_lt_of_lt_mul (by omega)
      by_cases he : digF k (n / 256) = []
      · rw [he]
        simp only [List.nil_append, List.head?_cons, ne_eq, Option.some.injEq]
        intro e
        have e2 : (UInt8.ofNat (n % 256)).toNat = 0 := by rw [e]; rfl
        rw [UInt8.toNat_ofNat'] at e2
        cases k with
        | zero => simp at hlt'; omega
        | succ k =>
          unfold digF at he
          split at he
          · omega
          · simp at he
      · rw [List.head?_append]
        cases hx : (digF k (n / 256)).head? with
        | none => exact absurd (List.head?_eq_none_iff.1 hx) he
        | some x => intro e; exact ih (n / 256) hlt' (by rw [hx]; simpa using e)
theorem dig_head (n : Nat) (h : n < 72057594037927936) : (dig n).head? ≠ some 0 :=
  digF_head 8 n (by have : (256 : Nat) ^ 8 = 18446744073709551616 := by decide
                    omega)
theorem fold_dig : ∀ (k n : Nat), n < 256 ^ k → fold (digF k n) = n := by
  intro k
  induction k with
  | zero => intro n h; simp at h; subst h; rfl
  | succ k ih =>
    intro n hlt
    unfold digF
    split
    · rename_i h; rw [h]; rfl
    · have hlt' : n / 256 < 256 ^ k := by rw [Nat.pow_succ] at hlt; exact Nat.div_lt_of_lt_mul (by omega)
      rw [fold_snoc, ih _ hlt', UInt8.toNat_ofNat']
      omega
theorem fold_dig8 (n : Nat) (h : n < 72057594037927936) : fold (dig n) = n :=
  fold_dig 8 n (by have : (256 : Nat) ^ 8 = 18446744073709551616 := by decide
                   omega)

/-! How a number is read. -/
theorem next_ok (n : Nat) (l : List UInt8) (h : n ≤ l.length) : next n (l, 0) = (l.take n, (l.drop n, 0)) := by
  have : ¬ l.length < n := by omega
  simp [next, this]
theorem digits_cons (c : UInt8) (l : List UInt8) : digits (c :: l, 0) = if 7 < c.toNat then ((0 : Int), ((l, 4) : St)) else ((c.toNat : Int), ((l, 0) : St)) := by
  have h := next_ok 1 (c :: l) (by simp)
  unfold digits
  rw [show (1 : Int) = ((1 : Nat) : Int) from rfl, h]
  rfl

/-- A number that was written is read. -/
theorem num_fwd (m n : Int) (r : List UInt8) (h0 : 0 ≤ n) (h1 : n < 72057594037927936) (hm : n ≤ m) : num m (M.encL n ++ r, 0) = (n, (r, 0)) := by
  obtain ⟨k, rfl⟩ := Int.eq_ofNat_of_zero_le h0
  have hk : k < 72057594037927936 := by omega
  have hlen := M.dig_len k hk
  have he : M.encL (k : Int) = UInt8.ofNat (M.dig k).length :: M.dig k := by rw [M.encL, if_pos ⟨by omega, by omega⟩]; simp
  have hc : (UInt8.ofNat (M.dig k).length).toNat = (M.dig k).length := by rw [UInt8.toNat_ofNat']; omega
  have hd := digits_cons (UInt8.ofNat (M.dig k).length) (M.dig k ++ r)
  rw [hc, if_neg (by omega)] at hd
  have hn := next_ok (M.dig k).length (M.dig k ++ r) (by simp)
  unfold num
  rw [he, List.cons_append, hd]
  simp only [hn]
  rw [List.take_left, List.drop_left, fold_dig8 k hk, lead, if_neg (dig_head k hk)]
  have hmk : ¬ m < (k : Int) := by omega
  simp only [if_neg hmk]
  simp

/-- A text that was written is read. -/
theorem text_fwd (m : Int) (t r : List UInt8) (h1 : (t.length : Int) < 72057594037927936) (hm : (t.length : Int) ≤ m) : text m (M.encL t.length ++ t ++ r, 0) = (t, (r, 0)) := by
  unfold text
  rw [List.append_assoc, num_fwd m t.length (t ++ r) (by omega) h1 hm]
  rw [next_ok _ _ (by simp)]
  simp

end R
end Go.Proofs.Ytojemaaljjibiaa

namespace Go.Proofs.Ytojemaaljjibiaa
open Go.Op (bytesLess)
set_option linter.unusedVariables false

/-- A paper as it is kept. -/
structure Ent where
  id : List UInt8
  cls : Int
  born : Int
  slot : Int
  L : List Slp
  gone : Bool
  H : List (List UInt8)
  deriving DecidableEq
/-- An event. -/
structure Evt where
  kind : Int
  ent : Ent
  seq : Int
  idx : Int
  name : List UInt8
  size : Int
  root : List UInt8
  now : Int
  deriving DecidableEq
def Ent.zero : Ent := ⟨[], 0, 0, 0, [], false, []⟩
def Evt.zero : Evt := ⟨0, Ent.zero, 0, 0, [], 0, [], 0⟩
namespace Ev
abbrev T := List UInt8
/-- Is each one ahead of the next? -/
def rise : List T → Bool
  | [] => true
  | [_] => true
  | a :: b :: r => bytesLess a b && rise (b :: r)
def rng (n m : Int) : Bool := decide (0 ≤ n ∧ n ≤ m)
/-- May a slip be? -/
def slipR (gone : Bool) (s : Slp) : Bool :=
  Pap.word 16 s.n && decide (s.p.length = 32) && (if s.e then decide (s.c.length = 0) else decide (16 ≤ s.c.length ∧ s.c.length ≤ 224) && !gone)
/-- May a paper as it is kept be? -/
def entR (e : Ent) : Bool :=
  Pap.word 24 e.id && rng e.cls 7 && rng e.born 1099511627776 && rng e.slot 63 && decide (1 ≤ e.L.length ∧ e.L.length ≤ 12) && decide (e.H.length ≤ 4) &&
    (e.H.all (Pap.word 16) && rise e.H) && (e.L.all (slipR e.gone) && rise (e.L.map Slp.n))
/-- May an event be? -/
def right (v : Evt) : Bool :=
  if v.kind = 1 then entR v.ent
  else if v.kind = 2 then rng v.seq 63 && rng v.idx 11
  else if v.kind = 3 then rng v.seq 63
  else if v.kind = 4 ∨ v.kind = 5 then rng v.seq 63 && Pap.word 16 v.name
  else if v.kind = 6 then rng v.size 64 && decide (v.root.length = 32)
  else if v.kind = 7 then rng v.now 1099511627776
  else false
/-- An event with just what its kind has. -/
def clean (v : Evt) : Evt :=
  if v.kind = 1 then { Evt.zero with kind := 1, ent := v.ent }
  else if v.kind = 2 then { Evt.zero with kind := 2, seq := v.seq, idx := v.idx }
  else if v.kind = 3 then { Evt.zero with kind := 3, seq := v.seq }
  else if v.kind = 4 ∨ v.kind = 5 then { Evt.zero with kind := v.kind, seq := v.seq, name := v.name }
  else if v.kind = 6 then { Evt.zero with kind := 6, size := v.size, root := v.root }
  else if v.kind = 7 then { Evt.zero with kind := 7, now := v.now }
  else { Evt.zero with kind := v.kind }
/-! bytes -/
def txt (s : T) : T := M.encL s.length ++ s
def flg (b : Bool) : T := [if b then 1 else 0]
def encS (s : Slp) : T := txt s.n ++ txt s.p ++ flg s.e ++ if s.e then [] else txt s.c
def encE (e : Ent) : T := txt e.id ++ M.encL e.cls ++ M.encL e.born ++ M.encL e.slot ++ flg e.gone ++ M.encL e.H.length ++ e.H.flatMap txt ++ M.encL e.L.length ++ e.L.flatMap encS
def enc (v : Evt) : T :=
  M.encL v.kind ++
    (if v.kind = 1 then encE v.ent
    else if v.kind = 2 then M.encL v.seq ++ M.encL v.idx
    else if v.kind = 3 then M.encL v.seq
    else if v.kind = 4 ∨ v.kind = 5 then M.encL v.seq ++ txt v.name
    else if v.kind = 6 then M.encL v.size ++ txt v.root
    else M.encL v.now)
/-- An event's bytes, or nothing. -/
def bytes (v : Evt) : T := if right v = true then enc v else []
/-! what is right -/
theorem rng_iff {n m : Int} : rng n m = true ↔ 0 ≤ n ∧ n ≤ m := by unfold rng; rw [decide_eq_true_iff]
theorem right1 {v : Evt} (h : v.kind = 1) : right v = entR v.ent := by unfold right; rw [if_pos h]
theorem clean1 {v : Evt} (h : v.kind = 1) : clean v = { Evt.zero with kind := 1, ent := v.ent } := by unfold clean; rw [if_pos h]
theorem right2 {v : Evt} (h : v.kind = 2) : right v = (rng v.seq 63 && rng v.idx 11) := by unfold right; rw [if_neg (by omega), if_pos h]
theorem clean2 {v : Evt} (h : v.kind = 2) : clean v = { Evt.zero with kind := 2, seq := v.seq, idx := v.idx } := by unfold clean; rw [if_neg (by omega), if_pos h]
theorem right3 {v : Evt} (h : v.kind = 3) : right v = rng v.seq 63 := by unfold right; rw [if_neg (by omega), if_neg (by omega), if_pos h]
theorem clean3 {v : Evt} (h : v.kind = 3) : clean v = { Evt.zero with kind := 3, seq := v.seq } := by unfold clean; rw [if_neg (by omega), if_neg (by omega), if_pos h]
theorem right4 {v : Evt} (h : v.kind = 4 ∨ v.kind = 5) : right v = (rng v.seq 63 && Pap.word 16 v.name) := by unfold right; rw [if_neg (by omega), if_neg (by omega), if_neg (by omega), if_pos h]
theorem clean4 {v : Evt} (h : v.kind = 4 ∨ v.kind = 5) : clean v = { Evt.zero with kind := v.kind, seq := v.seq, name := v.name } := by unfold clean; rw [if_neg (by omega), if_neg (by omega), if_neg (by omega), if_pos h]
theorem right6 {v : Evt} (h : v.kind = 6) : right v = (rng v.size 64 && decide (v.root.length = 32)) := by unfold right; rw [if_neg (by omega), if_neg (by omega), if_neg (by omega), if_neg (by omega), if_pos h]
theorem clean6 {v : Evt} (h : v.kind = 6) : clean v = { Evt.zero with kind := 6, size := v.size, root := v.root } := by unfold clean; rw [if_neg (by omega), if_neg (by omega), if_neg (by omega), if_neg (by omega), if_pos h]
theorem right7 {v : Evt} (h : v.kind = 7) : right v = rng v.now 1099511627776 := by unfold right; rw [if_neg (by omega), if_neg (by omega), if_neg (by omega), if_neg (by omega), if_neg (by omega), if_pos h]
theorem clean7 {v : Evt} (h : v.kind = 7) : clean v = { Evt.zero with kind := 7, now := v.now } := by unfold clean; rw [if_neg (by omega), if_neg (by omega), if_neg (by omega), if_neg (by omega), if_neg (by omega), if_pos h]
theorem right0 {v : Evt} (h1 : v.kind < 1 ∨ 7 < v.kind) : right v = false := by unfold right; rw [if_neg (by omega), if_neg (by omega), if_neg (by omega), if_neg (by omega), if_neg (by omega), if_neg (by omega)]
theorem clean0 {v : Evt} (h1 : v.kind < 1 ∨ 7 < v.kind) : clean v = { Evt.zero with kind := v.kind } := by unfold clean; rw [if_neg (by omega), if_neg (by omega), if_neg (by omega), if_neg (by omega), if_neg (by omega), if_neg (by omega)]
theorem enc1 {v : Evt} (h : v.kind = 1) : enc v = M.encL v.kind ++ (encE v.ent) := by unfold enc; rw [if_pos h]
theorem enc2 {v : Evt} (h : v.kind = 2) : enc v = M.encL v.kind ++ (M.encL v.seq ++ M.encL v.idx) := by unfold enc; rw [if_neg (by omega), if_pos h]
theorem enc3 {v : Evt} (h : v.kind = 3) : enc v = M.encL v.kind ++ (M.encL v.seq) := by unfold enc; rw [if_neg (by omega), if_neg (by omega), if_pos h]
theorem enc4 {v : Evt} (h : v.kind = 4 ∨ v.kind = 5) : enc v = M.encL v.kind ++ (M.encL v.seq ++ txt v.name) := by unfold enc; rw [if_neg (by omega), if_neg (by omega), if_neg (by omega), if_pos h]
theorem enc6 {v : Evt} (h : v.kind = 6) : enc v = M.encL v.kind ++ (M.encL v.size ++ txt v.root) := by unfold enc; rw [if_neg (by omega), if_neg (by omega), if_neg (by omega), if_neg (by omega), if_pos h]
theorem enc7 {v : Evt} (h : v.kind = 7) : enc v = M.encL v.kind ++ (M.encL v.now) := by unfold enc; rw [if_neg (by omega), if_neg (by omega), if_neg (by omega), if_neg (by omega), if_neg (by omega)]
theorem kinds (v : Evt) : v.kind = 1 ∨ v.kind = 2 ∨ v.kind = 3 ∨ (v.kind = 4 ∨ v.kind = 5) ∨ v.kind = 6 ∨ v.kind = 7 ∨ (v.kind < 1 ∨ 7 < v.kind) := by omega
theorem right_clean (v : Evt) : right (clean v) = right v := by
  rcases kinds v with h | h | h | h | h | h | h
  · rw [clean1 h, right1 rfl, right1 h]
  · rw [clean2 h, right2 rfl, right2 h]
  · rw [clean3 h, right3 rfl, right3 h]
  · rw [clean4 h, right4 (v := { Evt.zero with kind := v.kind, seq := v.seq, name := v.name }) h, right4 h]
  · rw [clean6 h, right6 rfl, right6 h]
  · rw [clean7 h, right7 rfl, right7 h]
  · rw [clean0 h, right0 (v := { Evt.zero with kind := v.kind }) h, right0 h]
theorem enc_clean {v : Evt} (hv : right v = true) : enc (clean v) = enc v := by
  rcases kinds v with h | h | h | h | h | h | h
  · rw [clean1 h, enc1 rfl, enc1 h, h]
  · rw [clean2 h, enc2 rfl, enc2 h, h]
  · rw [clean3 h, enc3 rfl, enc3 h, h]
  · rw [clean4 h, enc4 (v := { Evt.zero with kind := v.kind, seq := v.seq, name := v.name }) h, enc4 h]
  · rw [clean6 h, enc6 rfl, enc6 h, h]
  · rw [clean7 h, enc7 rfl, enc7 h, h]
  · rw [right0 h] at hv; cases hv
theorem right_kind {v : Evt} (h : right v = true) : 1 ≤ v.kind ∧ v.kind ≤ 7 := by
  rcases kinds v with q | q | q | q | q | q | q
  all_goals first | omega | (rw [right0 q] at h; cases h)
/-- What is right of a paper, one by one. -/
theorem entR_iff {e : Ent} : entR e = true ↔ Pap.word 24 e.id = true ∧ (0 ≤ e.cls ∧ e.cls ≤ 7) ∧ (0 ≤ e.born ∧ e.born ≤ 1099511627776) ∧ (0 ≤ e.slot ∧ e.slot ≤ 63) ∧ (1 ≤ e.L.length ∧ e.L.length ≤ 12) ∧ e.H.length ≤ 4 ∧
    (∀ x ∈ e.H, Pap.word 16 x = true) ∧ rise e.H = true ∧ (∀ x ∈ e.L, slipR e.gone x = true) ∧ rise (e.L.map Slp.n) = true := by
  unfold entR
  simp only [Bool.and_eq_true, rng_iff, decide_eq_true_iff, List.all_eq_true]
  constructor
  · rintro ⟨⟨⟨⟨⟨⟨⟨a, b⟩, c⟩, d⟩, e⟩, f⟩, g, h⟩, i, j⟩
    exact ⟨a, b, c, d, e, f, g, h, i, j⟩
  · rintro ⟨a, b, c, d, e, f, g, h, i, j⟩
    exact ⟨⟨⟨⟨⟨⟨⟨a, b⟩, c⟩, d⟩, e⟩, f⟩, g, h⟩, i, j⟩
theorem slipR_iff {g : Bool} {s : Slp} : slipR g s = true ↔ Pap.word 16 s.n = true ∧ s.p.length = 32 ∧ (s.e = true → s.c = []) ∧ (s.e = false → 16 ≤ s.c.length ∧ s.c.length ≤ 224 ∧ g = false) := by
  unfold slipR
  cases he : s.e
  · simp only [Bool.and_eq_true, decide_eq_true_iff, Bool.false_eq_true, if_false, false_implies, true_and, Bool.not_eq_true', forall_const, and_assoc]
  · simp only [Bool.and_eq_true, decide_eq_true_iff, if_true, List.length_eq_zero_iff, forall_const, and_assoc, Bool.true_eq_false, false_implies, and_true]
/-! how long -/
theorem txt_len {s : T} (h : s.length < 256) : (txt s).length ≤ s.length + 2 := by
  have h2 : ∀ n : Fin 256, (M.encL (n.val : Int)).length ≤ 2 := by decide +kernel
  unfold txt
  rw [List.length_append]
  have := h2 ⟨s.length, h⟩
  dsimp only at this
  omega
theorem encL_len {n : Int} (h : 0 ≤ n ∧ n ≤ 1099511627776) : (M.encL n).length ≤ 8 := by
  obtain ⟨k, rfl⟩ := Int.eq_ofNat_of_zero_le h.1
  have hd := M.dig_len k (by omega)
  unfold M.encL
  rw [if_pos ⟨by omega, by omega⟩, List.length_cons, Int.toNat_natCast]
  omega
theorem encS_len {g : Bool} {s : Slp} (h : slipR g s = true) : (encS s).length ≤ 18 + 34 + 1 + 226 := by
  obtain ⟨h1, h2, h3, h4⟩ := slipR_iff.1 h
  have hn := (Pap.word_len h1).2
  have e1 := txt_len (s := s.n) (by omega)
  have e2 := txt_len (s := s.p) (by omega)
  unfold encS
  simp only [List.length_append]
  have e3 : (flg s.e).length = 1 := rfl
  cases he : s.e
  · obtain ⟨q1, q2, _⟩ := h4 he
    have e4 := txt_len (s := s.c) (by omega)
    rw [he] at e3
    simp only [Bool.false_eq_true, if_false]
    omega
  · rw [he] at e3
    simp only [if_true, List.length_nil]
    omega
theorem flat_le {α : Type} (f : α → T) (m : Nat) (L : List α) (h : ∀ x ∈ L, (f x).length ≤ m) : (L.flatMap f).length ≤ L.length * m := by
  induction L with
  | nil => simp
  | cons x L ih =>
    have h1 := h x (List.mem_cons_self ..)
    have h2 := ih (fun y hy => h y (List.mem_cons_of_mem _ hy))
    rw [List.flatMap_cons, List.length_append, List.length_cons, Nat.succ_mul]
    omega
theorem encE_len {e : Ent} (h : entR e = true) : (encE e).length ≤ 3600 := by
  obtain ⟨h1, h2, h3, h4, h5, h6, h7, h8, h9, h10⟩ := entR_iff.1 h
  have hn := (Pap.word_len h1).2
  have e1 := txt_len (s := e.id) (by omega)
  have e2 := encL_len (n := e.cls) (by omega)
  have e3 := encL_len h3
  have e4 := encL_len (n := e.slot) (by omega)
  have e5 : (flg e.gone).length = 1 := rfl
  have e6 := encL_len (n := (e.H.length : Int)) (by omega)
  have e7 := encL_len (n := (e.L.length : Int)) (by omega)
  have e8 := flat_le txt 18 e.H (fun x hx => by
    have q := (Pap.word_len (h7 x hx)).2
    have := txt_len (s := x) (by omega)
    omega)
  have e9 := flat_le encS 279 e.L (fun x hx => encS_len (h9 x hx))
  have e10 : e.H.length * 18 ≤ 4 * 18 := Nat.mul_le_mul_right _ h6
  have e11 : e.L.length * 279 ≤ 12 * 279 := Nat.mul_le_mul_right _ h5.2
  unfold encE
  simp only [List.length_append]
  omega
/-- Every event that may be has room in a record. -/
theorem enc_len {v : Evt} (h : right v = true) : (enc v).length ≤ 3608 := by
  have hk := right_kind h
  have e0 := encL_len (n := v.kind) (by omega)
  rcases kinds v with q | q | q | q | q | q | q
  · rw [right1 q] at h
    rw [enc1 q, List.length_append]
    have := encE_len h
    omega
  · rw [right2 q, Bool.and_eq_true, rng_iff, rng_iff] at h
    have a := encL_len (n := v.seq) (by omega)
    have b := encL_len (n := v.idx) (by omega)
    rw [enc2 q, List.length_append, List.length_append]
    omega
  · rw [right3 q, rng_iff] at h
    have a := encL_len (n := v.seq) (by omega)
    rw [enc3 q, List.length_append]
    omega
  · rw [right4 q, Bool.and_eq_true, rng_iff] at h
    have a := encL_len (n := v.seq) (by omega)
    have w := (Pap.word_len h.2).2
    have b := txt_len (s := v.name) (by omega)
    rw [enc4 q, List.length_append, List.length_append]
    omega
  · rw [right6 q, Bool.and_eq_true, rng_iff, decide_eq_true_iff] at h
    have a := encL_len (n := v.size) (by omega)
    have b := txt_len (s := v.root) (by omega)
    rw [enc6 q, List.length_append, List.length_append]
    omega
  · rw [right7 q, rng_iff] at h
    have a := encL_len (n := v.now) (by omega)
    rw [enc7 q, List.length_append]
    omega
  · rw [right0 q] at h; cases h
end Ev
end Go.Proofs.Ytojemaaljjibiaa
