/-
  Words for memory, more: a text turned into a row of bytes; a slice that reads as bytes; only one old block has turned. No program stands here.
-/
import Derived.Test.YtfcmkbeilpclmaaMem
import Derived.Laws.IdiomStrings
namespace Go.Proofs.Ytfcmkbeilpclmaa
set_option linter.unusedVariables false
open Go.RowKit

/-! A text turned into a row of bytes. -/
def bcap (W : World) (e : TypeId) (l : List UInt8) : Nat := grownCap W l.length 0 e
def brow (W : World) (e : TypeId) (l : List UInt8) : Array Value := bytesRow (S l) (bcap W e l)
def bworld (W : World) (e : TypeId) (l : List UInt8) : World := W.drew.alloc (.cells (brow W e l) e ((brow W e l).size, (brow W e l).size + 1))

theorem conv_bytes {P : Program} {src dst e : TypeId} (hs : P.underlying src = some .string) (hd : P.underlying dst = some (.slice e)) (he : P.underlying e = some (.int .u8)) (W : World) (l : List UInt8) :
    (convert src dst (.string (S l))).run P W = .ok (.slice (some ⟨W.heap.size, 0, none⟩) l.length (bcap W e l)) (bworld W e l) :=
  run_bytes_of_string W src dst e (S l) hs hd he
theorem bworld_size (W : World) (e : TypeId) (l : List UInt8) : (bworld W e l).heap.size = W.heap.size + 1 := by unfold bworld; simp
attribute [go_sem] bworld_size
theorem bworld_below (W : World) (e : TypeId) (l : List UInt8) : Below W.heap.size W (bworld W e l) := by
  unfold bworld
  exact ((Below.refl _ W).drew).alloc (Nat.le_refl _) _
theorem bworld_cell (W : World) (e : TypeId) (l : List UInt8) (i : Nat) (hi : i < l.length) : (bworld W e l).cell? ⟨W.heap.size, i, none⟩ = (bcells l)[i]? := by
  have h : (bworld W e l).heap[W.heap.size]? = some (.cells (brow W e l) e ((brow W e l).size, (brow W e l).size + 1)) := by
    unfold bworld; exact heap_alloc_new W.drew _
  simp only [World.cell?, h, brow, bytesRow, S, bcells]
  simp [Array.getElem?_append, hi]
theorem bcap_le (W : World) (e : TypeId) (l : List UInt8) : l.length ≤ bcap W e l := by
  unfold bcap
  exact grownCap_ge _ _ _ _

/-! A slice that reads as bytes: its cells lie in block b; a slice of no bytes may lie anywhere. -/
def Bytes (w : World) (b : Nat) (A : Option Addr) (l : List UInt8) : Prop := l ≠ [] → ∃ off, A = some ⟨b, off, none⟩ ∧ ∀ i, i < l.length → w.cell? ⟨b, off + i, none⟩ = (bcells l)[i]?

theorem Bytes.keep {w w' : World} {b : Nat} {A : Option Addr} {l : List UInt8} (h : Bytes w b A l) (hb : w'.heap[b]? = w.heap[b]?) : Bytes w' b A l := fun hl => by
  obtain ⟨off, hA, hc⟩ := h hl
  exact ⟨off, hA, fun i hi => (World.cell?_of_block hb).trans (hc i hi)⟩
theorem Bytes.nil (w : World) (b : Nat) (A : Option Addr) : Bytes w b A [] := fun h => absurd rfl h
theorem Bytes.take {w : World} {b : Nat} {A : Option Addr} {l : List UInt8} (h : Bytes w b A l) (k : Nat) : Bytes w b A (l.take k) := fun hl => by
  obtain ⟨off, hA, hc⟩ := h (by rintro rfl; simp at hl)
  refine ⟨off, hA, fun i hi => ?_⟩
  rw [List.length_take] at hi
  rw [hc i (by omega)]
  unfold bcells
  rw [List.map_take, List.getElem?_take, if_pos (by omega)]
theorem Bytes.drop {w : World} {b : Nat} {A : Option Addr} {l : List UInt8} (h : Bytes w b A l) (k : Nat) : Bytes w b (A.map (·.add k)) (l.drop k) := fun hl => by
  obtain ⟨off, rfl, hc⟩ := h (by rintro rfl; simp at hl)
  refine ⟨off + k, ?_, fun i hi => ?_⟩
  · simp only [Option.map_some, Option.some.injEq]
    unfold Addr.add; split <;> simp_all
  · rw [List.length_drop] at hi
    rw [Nat.add_assoc, hc (k + i) (by omega)]
    unfold bcells
    rw [List.map_drop, List.getElem?_drop]
theorem Bytes.at0 {w : World} {b : Nat} {A : Option Addr} {c : UInt8} {l : List UInt8} (h : Bytes w b A (c :: l)) : ∃ off, A = some ⟨b, off, none⟩ ∧ w.cell? ⟨b, off, none⟩ = some (.int .u8 c.toNat) := by
  obtain ⟨off, hA, hc⟩ := h (by simp)
  exact ⟨off, hA, by have := hc 0 (by simp); simpa [bcells] using this⟩
theorem Bytes.lt {w : World} {b : Nat} {A : Option Addr} {l : List UInt8} (h : Bytes w b A l) (hl : l ≠ []) : b < w.heap.size := by
  obtain ⟨off, _, hc⟩ := h hl
  have h0 : 0 < l.length := List.length_pos_iff.2 hl
  have := hc 0 h0
  rw [show (bcells l)[0]? = some (.int .u8 (l[0].toNat : Int)) by simp [bcells, List.getElem?_eq_getElem h0]] at this
  exact World.block_lt_of_cell? w _ this

/-- A slice of bytes turned into a text. -/
theorem conv_bytes_text {P : Program} {src e dst : Nat} (hs : P.underlying src = some (.slice e)) (he : P.underlying e = some (.int .u8)) (hd : P.underlying dst = some .string)
    {w : World} {b : Nat} {A : Option Addr} {l : List UInt8} (h : Bytes w b A l) (c : Nat) : (convert src dst (.slice A l.length c)).run P w = .ok (.string (S l)) w := by
  by_cases hl : l = []
  · subst hl
    rw [run_convert_bytes_string w src dst e A _ c hs he hd]
    cases A with
    | none => simp [Conv.bytesToString]; rfl
    | some a =>
      have := run_bytesToString (P := P) w a 0 c [] (run_loadCells_list (P := P) w a [] (fun j v hj => by simp at hj))
      rw [show (S []) = ByteArray.empty from rfl]; simpa using this
  · obtain ⟨off, rfl, hc⟩ := h hl
    exact conv_text hs he hd l rfl hc

/-! Only block g of the old ones has turned. -/
abbrev Only (w w' : World) (g : Nat) : Prop := w.grownBy w' (some g)
theorem Only.refl (w : World) (g : Nat) : Only w w g := ⟨rfl, rfl, rfl, Nat.le_refl _, fun _ _ _ => rfl⟩
theorem Only.trans {a b c : World} {g : Nat} (h : Only a b g) (k : Only b c g) : Only a c g :=
  ⟨k.os.trans h.os, k.tape.trans h.tape, k.output.trans h.output, Nat.le_trans h.size k.size, fun i hi hn => (k.block i (Nat.lt_of_lt_of_le hi h.size) hn).trans (h.block i hi hn)⟩
theorem Only.set (w : World) (g i : Nat) (u : Value) : Only w (w.setCell ⟨g, i, none⟩ u) g :=
  ⟨rfl, rfl, rfl, by simp [World.setCell], fun k _ hn => Below.heap_setCell w ⟨g, i, none⟩ u k (fun e => hn (by rw [e]))⟩
theorem Only.of_below {w w' : World} (h : Below w.heap.size w w') (g : Nat) : Only w w' g := ⟨h.os, h.tape, h.output, h.size, fun i hi _ => h.block i hi⟩
theorem Only.has {w w' : World} {g k : Nat} {t : TypeId} {cs : Array Value} (h : Only w w' g) (hk : Has w k t cs) (hne : k ≠ g) : Has w' k t cs :=
  (h.block k hk.lt (fun e => hne (by injection e))).trans hk
theorem Only.bytes {w w' : World} {g b : Nat} {A : Option Addr} {l : List UInt8} (h : Only w w' g) (hk : Bytes w b A l) (hne : b ≠ g) : Bytes w' b A l := by
  by_cases hl : l = []
  · subst hl; exact Bytes.nil _ _ _
  · exact hk.keep (h.block b (hk.lt hl) (fun e => hne (by injection e)))
theorem Only.below {w0 w w' : World} {g B : Nat} (h : Only w w' g) (hb : Below B w0 w) (hB : B ≤ w.heap.size) (hg : B ≤ g) : Below B w0 w' :=
  hb.grown h hB (fun k e => by injection e with e; omega)
end Go.Proofs.Ytfcmkbeilpclmaa
