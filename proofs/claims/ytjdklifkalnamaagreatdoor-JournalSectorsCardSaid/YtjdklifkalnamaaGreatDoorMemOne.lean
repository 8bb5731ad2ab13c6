/-
  MemOne: the texts Mem, Bytes, Mv in one.
-/
import Derived.WalkKit
import Derived.ProofKit
import Derived.Handy
import Derived.Lib.Hide
import Derived.Laws.IdiomStrings
import Derived.Laws.IdiomCopy
import Derived.Deep.MidRow
namespace Go.Proofs.YtjdklifkalnamaaGreatDoor
set_option linter.unusedVariables false
open Go.RowKit

/-- Block g is just the cells cs, of elements of type t, none of them frozen. -/
def Has (w : World) (g : Nat) (t : TypeId) (cs : Array Value) : Prop := w.heap[g]? = some (.cells cs t (0, 0))

theorem Has.lt {w : World} {g : Nat} {t : TypeId} {cs : Array Value} (h : Has w g t cs) : g < w.heap.size := by
  refine Nat.lt_of_not_le fun hge => ?_
  rw [Has, Array.getElem?_eq_none hge] at h
  cases h
theorem Has.cell {w : World} {g : Nat} {t : TypeId} {cs : Array Value} (h : Has w g t cs) (i : Nat) : w.cell? ⟨g, i, none⟩ = cs[i]? := by
  unfold Has at h; simp [World.cell?, h]
theorem Has.free {w : World} {g : Nat} {t : TypeId} {cs : Array Value} (h : Has w g t cs) (i : Nat) : w.frozen? ⟨g, i, none⟩ = false := by
  unfold Has at h; simp [World.frozen?, h]
theorem Has.made (w : World) (t : TypeId) (cs : Array Value) : Has (w.alloc (.cells cs t)) w.heap.size t cs := heap_alloc_new w _
theorem Has.of_alloc {w : World} {g : Nat} {t : TypeId} {cs : Array Value} (h : Has w g t cs) (o : Obj) : Has (w.alloc o) g t cs := (Below.heap_alloc w o g h.lt).trans h
theorem Has.set {w : World} {g : Nat} {t : TypeId} {cs : Array Value} (h : Has w g t cs) (i : Nat) (u : Value) : Has (w.setCell ⟨g, i, none⟩ u) g t (cs.setIfInBounds i u) := by
  unfold Has at *; simp [World.setCell, Array.getElem?_modify, h]
theorem Has.other {w : World} {g : Nat} {t : TypeId} {cs : Array Value} (h : Has w g t cs) {p : Addr} (hp : g ≠ p.block) (u : Value) : Has (w.setCell p u) g t cs := (Below.heap_setCell w p u g hp).trans h
theorem Has.below {w w' : World} {B g : Nat} {t : TypeId} {cs : Array Value} (h : Has w g t cs) (hb : Below B w w') (hg : g < B) : Has w' g t cs := (hb.block g hg).trans h

/-- An array's tail, from z on, as a slice. -/
theorem arr_from {P : Program} {t e n : Nat} (ht : P.underlying t = some (.array n e)) (hs : ∀ w : World, (sizeOf e).run P w = .ok 1 w) (b z : Nat) (hz : z < n) (w : World) :
    (Instr.sliceAt t (.pointer (some ⟨b, 0, none⟩)) (some (.int .i64 (z : Int))) none none).run P w = .ok (.slice (some ⟨b, z, none⟩) (n - z) (n - z)) w := by
  have hl : P.arrayLen t = n := by simp [Program.arrayLen, ht]
  have he : P.elem t = e := by simp [Program.elem, ht]
  have h := run_sliceAt_array_l (P := P) w t ⟨b, 0, none⟩ (by rw [hl, he]; exact ht) .i64 (z : Int) (by omega) (by rw [hl]; omega)
  rw [h, he, hs]
  have hne : n ≠ z := by omega
  have hadd : (⟨b, 0, none⟩ : Addr).add z = ⟨b, z, none⟩ := by unfold Addr.add; split <;> simp_all
  simp [Result.andThen, slicedAt, hl, hne, hadd]

/-- Bytes as a list, as a text; as cells. -/
def S (l : List UInt8) : ByteArray := ⟨l.toArray⟩
def bcells (l : List UInt8) : List Value := l.map fun c => Value.int .u8 c.toNat

theorem S_nums (l : List UInt8) : strOfNums (l.map fun c => (c.toNat : Int)) = S l := by
  have h : (l.map fun c => (c.toNat : Int)).map (fun n => UInt8.ofNat n.toNat) = l := by
    rw [List.map_map]; conv => rhs; rw [← List.map_id l]
    apply List.map_congr_left; intro c _; simp
  unfold strOfNums S; rw [h]

/-- A row of bytes turned into a text. -/
theorem conv_text {P : Program} {src e dst : Nat} (hs : P.underlying src = some (.slice e)) (he : P.underlying e = some (.int .u8)) (hd : P.underlying dst = some .string)
    {w : World} {b off n cap : Nat} (l : List UInt8) (hn : l.length = n) (hc : ∀ i, i < n → w.cell? ⟨b, off + i, none⟩ = (bcells l)[i]?) :
    (convert src dst (.slice (some ⟨b, off, none⟩) n cap)).run P w = .ok (.string (S l)) w := by
  have h := run_convert_bytes_arg (P := P) w src e hs he b off n cap (l.map fun c => (c.toNat : Int)) (by simpa using hn) (fun i hi => by
    rw [hc i hi]
    have hi' : i < l.length := by omega
    simp [bcells, List.getElem?_eq_getElem hi', List.getD]) dst hd
  rw [h, S_nums]

/-- One byte in a block of its own, turned into a text. -/
theorem conv_one {P : Program} {src e dst : Nat} (hs : P.underlying src = some (.slice e)) (he : P.underlying e = some (.int .u8)) (hd : P.underlying dst = some .string) (W : World) (c : Int) :
    (convert src dst (.slice (some ⟨W.heap.size, 0, none⟩) 1 1)).run P (W.alloc (.cells #[.int .u8 c] e)) = .ok (.string (S [UInt8.ofNat c.toNat])) (W.alloc (.cells #[.int .u8 c] e)) := by
  have h := run_convert_bytes_arg (P := P) (W.alloc (.cells #[.int .u8 c] e)) src e hs he W.heap.size 0 1 1 [c] rfl (fun i hi => by
    obtain rfl : i = 0 := by omega
    rw [(Has.made W e #[.int .u8 c]).cell]; rfl) dst hd
  exact h

theorem S_size (l : List UInt8) : (S l).size = l.length := rfl
theorem S_append (a b : List UInt8) : S a ++ S b = S (a ++ b) := by
  apply ByteArray.ext
  simp [S]
theorem S_extract (l : List UInt8) (a b : Nat) : (S l).extract a b = S ((l.take b).drop a) := by
  apply ByteArray.ext
  simp [S, ByteArray.data_extract]
  rw [List.drop_take]
theorem S_get (l : List UInt8) (i : Nat) (h : i < (S l).size) : (S l)[i]'h = l[i]'h := by
  simp [S, ByteArray.getElem_eq_getElem_data]
  rfl
theorem S_toList (l : List UInt8) : (S l).toList = l := by
  rw [ByteArray.toList_eq]; simp [S]
attribute [go_sem] S_toList List.isEmpty_nil List.isEmpty_cons
attribute [go_sem] S_size S_append S_extract List.drop_zero List.length_cons List.length_nil
/-- A text's byte: laid ahead of a walk. -/
theorem run_index_S {P : Program} (w : World) {t : TypeId} (l : List UInt8) (k : IntKind) (i : Nat) (h : P.underlying t = some .string) (h1 : i < l.length) :
    (Instr.index t (.string (S l)) (.int k (i : Int))).run P w = .ok (.int .u8 l[i].toNat) w := by
  rw [run_index_string w t (S l) k i h, dif_pos ⟨by omega, by rw [S_size]; omega⟩]
  rw [S_get]
  rfl
theorem run_index_S0 {P : Program} (w : World) {t : TypeId} (c : UInt8) (l : List UInt8) (k : IntKind) (h : P.underlying t = some .string) :
    (Instr.index t (.string (S (c :: l))) (.int k 0)).run P w = .ok (.int .u8 c.toNat) w :=
  run_index_S w (c :: l) k 0 h (by simp)
theorem S_inj {a b : List UInt8} (h : S a = S b) : a = b := by
  have := congrArg (fun x : ByteArray => x.data.toList) h
  simpa [S] using this
theorem S_of (s : ByteArray) : S s.data.toList = s := by
  cases s; simp [S]

theorem ret_str {a b : ByteArray} (h : a = b) : Ending.returned (.string a) = .returned (.string b) := by rw [h]
theorem ret_int {k : IntKind} {a b : Int} (h : a = b) : Ending.returned (.int k a) = .returned (.int k b) := by rw [h]
theorem ret_bool {a b : Bool} (h : a = b) : Ending.returned (.bool a) = .returned (.bool b) := by rw [h]
end Go.Proofs.YtjdklifkalnamaaGreatDoor

namespace Go.Proofs.YtjdklifkalnamaaGreatDoor
set_option linter.unusedVariables false
open Go.RowKit

/-! A text turned into a row of bytes. -/
def bcap (W : World) (e : TypeId) (l : List UInt8) : Nat := grownCap W l.length 0 e
def brow (W : World) (e : TypeId) (l : List UInt8) : Array Value := bytesRow (S l) (bcap W e l)
def bworld (W : World) (e : TypeId) (l : List UInt8) : World := W.drew.alloc (.cells (brow W e l) e ((brow W e l).size, (brow W e l).size + 1))

theorem conv_bytes {P : Program} {src dst e : TypeId} (hs : P.underlying src = some .string) (hd : P.underlying dst = some (.slice e)) (he : P.underlying e = some (.int .u8)) (W : World) (l : List UInt8) :
    (convert src dst (.string (S l))).run P W = .ok (.slice (some ⟨W.heap.size, 0, none⟩) l.length (bcap W e l)) (bworld W e l) :=
  run_bytes_of_string W src dst e (S l) hs hd he
theorem bworld_size (W : World) (e : TypeId) (l : List UInt8) : (bworld W e l).heap.size = W.heap.size + 1 := by unfold bworld; simp
attribute [go_sem] bworld_size
theorem bworld_below (W : World) (e : TypeId) (l : List UInt8) : Below W.heap.size W (bworld W e l) := by
  unfold bworld
  exact ((Below.refl _ W).drew).alloc (Nat.le_refl _) _
theorem bworld_cell (W : World) (e : TypeId) (l : List UInt8) (i : Nat) (hi : i < l.length) : (bworld W e l).cell? ⟨W.heap.size, i, none⟩ = (bcells l)[i]? := by
  have h : (bworld W e l).heap[W.heap.size]? = some (.cells (brow W e l) e ((brow W e l).size, (brow W e l).size + 1)) := by
    unfold bworld; exact heap_alloc_new W.drew _
  simp only [World.cell?, h, brow, bytesRow, S, bcells]
  simp [Array.getElem?_append, hi]
theorem bcap_le (W : World) (e : TypeId) (l : List UInt8) : l.length ≤ bcap W e l := by
  unfold bcap
  exact grownCap_ge _ _ _ _

/-! A slice that reads as bytes: its cells lie in block b; a slice of no bytes may lie anywhere. -/
def Bytes (w : World) (b : Nat) (A : Option Addr) (l : List UInt8) : Prop := l ≠ [] → ∃ off, A = some ⟨b, off, none⟩ ∧ ∀ i, i < l.length → w.cell? ⟨b, off + i, none⟩ = (bcells l)[i]?

theorem Bytes.keep {w w' : World} {b : Nat} {A : Option Addr} {l : List UInt8} (h : Bytes w b A l) (hb : w'.heap[b]? = w.heap[b]?) : Bytes w' b A l := fun hl => by
  obtain ⟨off, hA, hc⟩ := h hl
  exact ⟨off, hA, fun i hi => (World.cell?_of_block hb).trans (hc i hi)⟩
theorem Bytes.nil (w : World) (b : Nat) (A : Option Addr) : Bytes w b A [] := fun h => absurd rfl h
theorem Bytes.take {w : World} {b : Nat} {A : Option Addr} {l : List UInt8} (h : Bytes w b A l) (k : Nat) : Bytes w b A (l.take k) := fun hl => by
  obtain ⟨off, hA, hc⟩ := h (by rintro rfl; simp at hl)
  refine ⟨off, hA, fun i hi => ?_⟩
  rw [List.length_take] at hi
  rw [hc i (by omega)]
  unfold bcells
  rw [List.map_take, List.getElem?_take, if_pos (by omega)]
theorem Bytes.drop {w : World} {b : Nat} {A : Option Addr} {l : List UInt8} (h : Bytes w b A l) (k : Nat) : Bytes w b (A.map (·.add k)) (l.drop k) := fun hl => by
  obtain ⟨off, rfl, hc⟩ := h (by rintro rfl; simp at hl)
  refine ⟨off + k, ?_, fun i hi => ?_⟩
  · simp only [Option.map_some, Option.some.injEq]
    unfold Addr.add; split <;> simp_all
  · rw [List.length_drop] at hi
    rw [Nat.add_assoc, hc (k + i) (by omega)]
    unfold bcells
    rw [List.map_drop, List.getElem?_drop]
theorem Bytes.at0 {w : World} {b : Nat} {A : Option Addr} {c : UInt8} {l : List UInt8} (h : Bytes w b A (c :: l)) : ∃ off, A = some ⟨b, off, none⟩ ∧ w.cell? ⟨b, off, none⟩ = some (.int .u8 c.toNat) := by
  obtain ⟨off, hA, hc⟩ := h (by simp)
  exact ⟨off, hA, by have := hc 0 (by simp); simpa [bcells] using this⟩
theorem Bytes.lt {w : World} {b : Nat} {A : Option Addr} {l : List UInt8} (h : Bytes w b A l) (hl : l ≠ []) : b < w.heap.size := by
  obtain ⟨off, _, hc⟩ := h hl
  have h0 : 0 < l.length := List.length_pos_iff.2 hl
  have := hc 0 h0
  rw [show (bcells l)[0]? = some (.int .u8 (l[0].toNat : Int)) by simp [bcells, List.getElem?_eq_getElem h0]] at this
  exact World.block_lt_of_cell? w _ this

/-- A slice of bytes turned into a text. -/
theorem conv_bytes_text {P : Program} {src e dst : Nat} (hs : P.underlying src = some (.slice e)) (he : P.underlying e = some (.int .u8)) (hd : P.underlying dst = some .string)
    {w : World} {b : Nat} {A : Option Addr} {l : List UInt8} (h : Bytes w b A l) (c : Nat) : (convert src dst (.slice A l.length c)).run P w = .ok (.string (S l)) w := by
  by_cases hl : l = []
  · subst hl
    rw [run_convert_bytes_string w src dst e A _ c hs he hd]
    cases A with
    | none => simp [Conv.bytesToString]; rfl
    | some a =>
      have := run_bytesToString (P := P) w a 0 c [] (run_loadCells_list (P := P) w a [] (fun j v hj => by simp at hj))
      rw [show (S []) = ByteArray.empty from rfl]; simpa using this
  · obtain ⟨off, rfl, hc⟩ := h hl
    exact conv_text hs he hd l rfl hc

/-! Only block g of the old ones has turned. -/
abbrev Only (w w' : World) (g : Nat) : Prop := w.grownBy w' (some g)
theorem Only.refl (w : World) (g : Nat) : Only w w g := ⟨rfl, rfl, rfl, Nat.le_refl _, fun _ _ _ => rfl⟩
theorem Only.trans {a b c : World} {g : Nat} (h : Only a b g) (k : Only b c g) : Only a c g :=
  ⟨k.os.trans h.os, k.tape.trans h.tape, k.output.trans h.output, Nat.le_trans h.size k.size, fun i hi hn => (k.block i (Nat.lt_of_lt_of_le hi h.size) hn).trans (h.block i hi hn)⟩
theorem Only.set (w : World) (g i : Nat) (u : Value) : Only w (w.setCell ⟨g, i, none⟩ u) g :=
  ⟨rfl, rfl, rfl, by simp [World.setCell], fun k _ hn => Below.heap_setCell w ⟨g, i, none⟩ u k (fun e => hn (by rw [e]))⟩
theorem Only.of_below {w w' : World} (h : Below w.heap.size w w') (g : Nat) : Only w w' g := ⟨h.os, h.tape, h.output, h.size, fun i hi _ => h.block i hi⟩
theorem Only.has {w w' : World} {g k : Nat} {t : TypeId} {cs : Array Value} (h : Only w w' g) (hk : Has w k t cs) (hne : k ≠ g) : Has w' k t cs :=
  (h.block k hk.lt (fun e => hne (by injection e))).trans hk
theorem Only.bytes {w w' : World} {g b : Nat} {A : Option Addr} {l : List UInt8} (h : Only w w' g) (hk : Bytes w b A l) (hne : b ≠ g) : Bytes w' b A l := by
  by_cases hl : l = []
  · subst hl; exact Bytes.nil _ _ _
  · exact hk.keep (h.block b (hk.lt hl) (fun e => hne (by injection e)))
theorem Only.below {w0 w w' : World} {g B : Nat} (h : Only w w' g) (hb : Below B w0 w) (hB : B ≤ w.heap.size) (hg : B ≤ g) : Below B w0 w' :=
  hb.grown h hB (fun k e => by injection e with e; omega)
end Go.Proofs.YtjdklifkalnamaaGreatDoor

namespace Go.Proofs.YtjdklifkalnamaaGreatDoor
open Go.RowKit
set_option linter.unusedVariables false

/-- Only the old blocks of s have turned. -/
structure Mv (w w' : World) (s : List Nat) : Prop where
  os : w'.os = w.os
  tape : w'.tape = w.tape
  output : w'.output = w.output
  size : w.heap.size ≤ w'.heap.size
  block : ∀ k, k < w.heap.size → k ∉ s → w'.heap[k]? = w.heap[k]?
theorem Mv.refl (w : World) (s : List Nat) : Mv w w s := ⟨rfl, rfl, rfl, Nat.le_refl _, fun _ _ _ => rfl⟩
theorem Mv.trans {a b c : World} {s : List Nat} (h : Mv a b s) (k : Mv b c s) : Mv a c s :=
  ⟨k.os.trans h.os, k.tape.trans h.tape, k.output.trans h.output, Nat.le_trans h.size k.size, fun i hi hn => (k.block i (Nat.lt_of_lt_of_le hi h.size) hn).trans (h.block i hi hn)⟩
theorem Mv.of_below {w w' : World} (h : Below w.heap.size w w') (s : List Nat) : Mv w w' s := ⟨h.os, h.tape, h.output, h.size, fun i hi _ => h.block i hi⟩
theorem Mv.of_only {w w' : World} {g : Nat} (h : Only w w' g) {s : List Nat} (hg : g ∈ s) : Mv w w' s := ⟨h.os, h.tape, h.output, h.size, fun i hi hn => h.block i hi (fun e => hn (by injection e with e; rw [e]; exact hg))⟩
theorem Mv.wide {w w' : World} {s t : List Nat} (h : Mv w w' s) (hs : ∀ x ∈ s, x ∈ t) : Mv w w' t := ⟨h.os, h.tape, h.output, h.size, fun i hi hn => h.block i hi (fun e => hn (hs i e))⟩
theorem Mv.below {w0 w w' : World} {s : List Nat} {B : Nat} (h : Mv w w' s) (hb : Below B w0 w) (hB : B ≤ w.heap.size) (hs : ∀ x ∈ s, B ≤ x) : Below B w0 w' :=
  hb.trans ⟨h.os, h.tape, h.output, h.size, fun i hi => h.block i (by omega) (fun hm => by have := hs i hm; omega)⟩
theorem Mv.drew {a b : World} {s : List Nat} (h : Mv a b s) : Mv a b.drew s := ⟨h.os, h.tape, h.output, h.size, h.block⟩
theorem Mv.from_drew {a b : World} {s : List Nat} (h : Mv a.drew b s) : Mv a b s := ⟨h.os, h.tape, h.output, h.size, h.block⟩
theorem Mv.alloc {a b : World} {s : List Nat} (h : Mv a b s) (o : Obj) : Mv a (b.alloc o) s := h.trans (Mv.of_below ((Below.refl _ b).alloc (Nat.le_refl _) o) s)
theorem Mv.has {w w' : World} {s : List Nat} {k : Nat} {t : TypeId} {cs : Array Value} (h : Mv w w' s) (hk : Has w k t cs) (hn : k ∉ s) : Has w' k t cs := (h.block k hk.lt hn).trans hk
theorem Mv.upto {w w' : World} {s : List Nat} (h : Mv w w' s) : Below w.heap.size w w' ∨ ∃ x ∈ s, x < w.heap.size := by
  by_cases hx : ∃ x ∈ s, x < w.heap.size
  · exact Or.inr hx
  · exact Or.inl ⟨h.os, h.tape, h.output, h.size, fun i hi => h.block i hi (fun hm => hx ⟨i, hm, hi⟩)⟩

theorem asize (w : World) (o : Obj) : (w.alloc o).heap.size = w.heap.size + 1 := by simp
/-- An array's beginning, up to z, as a slice. -/
theorem arr_to {P : Program} {t e n : Nat} (ht : P.underlying t = some (.array n e)) (hs : ∀ w : World, (sizeOf e).run P w = .ok 1 w) (h0 : 0 < n) (b z : Nat) (hz : z ≤ n) (w : World) :
    (Instr.sliceAt t (.pointer (some ⟨b, 0, none⟩)) none (some (.int .i64 (z : Int))) none).run P w = .ok (.slice (some ⟨b, 0, none⟩) z n) w := by
  have hl : P.arrayLen t = n := by simp [Program.arrayLen, ht]
  have he : P.elem t = e := by simp [Program.elem, ht]
  have h := run_sliceAt_array_h (P := P) w t ⟨b, 0, none⟩ (by rw [hl, he]; exact ht) .i64 (z : Int) (by omega) (by rw [hl]; omega)
  rw [h, he, hs]
  have hne : n ≠ 0 := by omega
  have hadd : (⟨b, 0, none⟩ : Addr).add 0 = ⟨b, 0, none⟩ := by unfold Addr.add; split <;> simp_all
  simp [Result.andThen, slicedAt, hl, hne, hadd]
/-! many cells of one block at once -/
theorem only_setCells (g : Nat) : ∀ (vs : List Value) (o : Nat) (w : World), Only w (w.setCells g o vs) g := by
  intro vs
  induction vs with
  | nil => intro o w; exact Only.refl w g
  | cons v vs ih =>
    intro o w
    exact (Only.set w g o v).trans (ih (o + 1) _)
theorem Has.setCells {g : Nat} {t : TypeId} : ∀ (vs : List Value) (o : Nat) (w : World) (cs : Array Value), Has w g t cs → ∃ cs', Has (w.setCells g o vs) g t cs' ∧ cs'.size = cs.size := by
  intro vs
  induction vs with
  | nil => intro o w cs h; exact ⟨cs, h, rfl⟩
  | cons v vs ih =>
    intro o w cs h
    obtain ⟨cs', h', hs⟩ := ih (o + 1) _ _ (h.set o v)
    exact ⟨cs', h', by rw [hs, Array.size_setIfInBounds]⟩
theorem Has.there {w : World} {g o n : Nat} {t : TypeId} {cs : Array Value} (h : Has w g t cs) (hb : o + n ≤ cs.size) : w.there g o n := fun j hj => by
  refine ⟨?_, h.free _⟩
  rw [h.cell]
  rw [Array.getElem?_eq_getElem (by omega)]
  rfl
theorem rangeAt_keep {w w' : World} {b o : Nat} {cs : List Value} (h : w.rangeAt b o cs) (hb : w'.heap[b]? = w.heap[b]?) : w'.rangeAt b o cs := fun j v hv => (World.cell?_of_block hb).trans (h j v hv)
theorem Has.range {w : World} {g : Nat} {t : TypeId} {cs : List Value} (h : Has w g t cs.toArray) : w.rangeAt g 0 cs := fun j v hv => by
  rw [h.cell, Nat.zero_add]
  simpa using hv
end Go.Proofs.YtjdklifkalnamaaGreatDoor
