/-
  Which of the old blocks have turned. No program stands here.
-/
import Derived.Test.YtfcmkbeilpclmaaBytes
import Derived.Laws.IdiomCopy
import Derived.Deep.MidRow
namespace Go.Proofs.Ytfcmkbeilpclmaa
open Go.RowKit
set_option linter.unusedVariables false

/-- Only the old blocks of s have turned. -/
structure Mv (w w' : World) (s : List Nat) : Prop where
  os : w'.os = w.os
  tape : w'.tape = w.tape
  output : w'.output = w.output
  size : w.heap.size ≤ w'.heap.size
  block : ∀ k, k < w.heap.size → k ∉ s → w'.heap[k]? = w.heap[k]?
theorem Mv.refl (w : World) (s : List Nat) : Mv w w s := ⟨rfl, rfl, rfl, Nat.le_refl _, fun _ _ _ => rfl⟩
theorem Mv.trans {a b c : World} {s : List Nat} (h : Mv a b s) (k : Mv b c s) : Mv a c s :=
  ⟨k.os.trans h.os, k.tape.trans h.tape, k.output.trans h.output, Nat.le_trans h.size k.size, fun i hi hn => (k.block i (Nat.lt_of_lt_of_le hi h.size) hn).trans (h.block i hi hn)⟩
theorem Mv.of_below {w w' : World} (h : Below w.heap.size w w') (s : List Nat) : Mv w w' s := ⟨h.os, h.tape, h.output, h.size, fun i hi _ => h.block i hi⟩
theorem Mv.of_only {w w' : World} {g : Nat} (h : Only w w' g) {s : List Nat} (hg : g ∈ s) : Mv w w' s := ⟨h.os, h.tape, h.output, h.size, fun i hi hn => h.block i hi (fun e => hn (by injection e with e; rw [e]; exact hg))⟩
theorem Mv.wide {w w' : World} {s t : List Nat} (h : Mv w w' s) (hs : ∀ x ∈ s, x ∈ t) : Mv w w' t := ⟨h.os, h.tape, h.output, h.size, fun i hi hn => h.block i hi (fun e => hn (hs i e))⟩
theorem Mv.below {w0 w w' : World} {s : List Nat} {B : Nat} (h : Mv w w' s) (hb : Below B w0 w) (hB : B ≤ w.heap.size) (hs : ∀ x ∈ s, B ≤ x) : Below B w0 w' :=
  hb.trans ⟨h.os, h.tape, h.output, h.size, fun i hi => h.block i (by omega) (fun hm => by have := hs i hm; omega)⟩
theorem Mv.drew {a b : World} {s : List Nat} (h : Mv a b s) : Mv a b.drew s := ⟨h.os, h.tape, h.output, h.size, h.block⟩
theorem Mv.from_drew {a b : World} {s : List Nat} (h : Mv a.drew b s) : Mv a b s := ⟨h.os, h.tape, h.output, h.size, h.block⟩
theorem Mv.alloc {a b : World} {s : List Nat} (h : Mv a b s) (o : Obj) : Mv a (b.alloc o) s := h.trans (Mv.of_below ((Below.refl _ b).alloc (Nat.le_refl _) o) s)
theorem Mv.has {w w' : World} {s : List Nat} {k : Nat} {t : TypeId} {cs : Array Value} (h : Mv w w' s) (hk : Has w k t cs) (hn : k ∉ s) : Has w' k t cs := (h.block k hk.lt hn).trans hk
theorem Mv.upto {w w' : World} {s : List Nat} (h : Mv w w' s) : Below w.heap.size w w' ∨ ∃ x ∈ s, x < w.heap.size := by
  by_cases hx : ∃ x ∈ s, x < w.heap.size
  · exact Or.inr hx
  · exact Or.inl ⟨h.os, h.tape, h.output, h.size, fun i hi => h.block i hi (fun hm => hx ⟨i, hm, hi⟩)⟩

theorem asize (w : World) (o : Obj) : (w.alloc o).heap.size = w.heap.size + 1 := by simp
/-- An array's beginning, up to z, as a slice. -/
theorem arr_to {P : Program} {t e n : Nat} (ht : P.underlying t = some (.array n e)) (hs : ∀ w : World, (sizeOf e).run P w = .ok 1 w) (h0 : 0 < n) (b z : Nat) (hz : z ≤ n) (w : World) :
    (Instr.sliceAt t (.pointer (some ⟨b, 0, none⟩)) none (some (.int .i64 (z : Int))) none).run P w = .ok (.slice (some ⟨b, 0, none⟩) z n) w := by
  have hl : P.arrayLen t = n := by simp [Program.arrayLen, ht]
  have he : P.elem t = e := by simp [Program.elem, ht]
  have h := run_sliceAt_array_h (P := P) w t ⟨b, 0, none⟩ (by rw [hl, he]; exact ht) .i64 (z : Int) (by omega) (by rw [hl]; omega)
  rw [h, he, hs]
  have hne : n ≠ 0 := by omega
  have hadd : (⟨b, 0, none⟩ : Addr).add 0 = ⟨b, 0, none⟩ := by unfold Addr.add; split <;> simp_all
  simp [Result.andThen, slicedAt, hl, hne, hadd]
/-! many cells of one block at once -/
theorem only_setCells (g : Nat) : ∀ (vs : List Value) (o : Nat) (w : World), Only w (w.setCells g o vs) g := by
  intro vs
  induction vs with
  | nil => intro o w; exact Only.refl w g
  | cons v vs ih =>
    intro o w
    exact (Only.set w g o v).trans (ih (o + 1) _)
theorem Has.setCells {g : Nat} {t : TypeId} : ∀ (vs : List Value) (o : Nat) (w : World) (cs : Array Value), Has w g t cs → ∃ cs', Has (w.setCells g o vs) g t cs' ∧ cs'.size = cs.size := by
  intro vs
  induction vs with
  | nil => intro o w cs h; exact ⟨cs, h, rfl⟩
  | cons v vs ih =>
    intro o w cs h
    obtain ⟨cs', h', hs⟩ := ih (o + 1) _ _ (h.set o v)
    exact ⟨cs', h', by rw [hs, Array.size_setIfInBounds]⟩
theorem Has.there {w : World} {g o n : Nat} {t : TypeId} {cs : Array Value} (h : Has w g t cs) (hb : o + n ≤ cs.size) : w.there g o n := fun j hj => by
  refine ⟨?_, h.free _⟩
  rw [h.cell]
  rw [Array.getElem?_eq_getElem (by omega)]
  rfl
theorem rangeAt_keep {w w' : World} {b o : Nat} {cs : List Value} (h : w.rangeAt b o cs) (hb : w'.heap[b]? = w.heap[b]?) : w'.rangeAt b o cs := fun j v hv => (World.cell?_of_block hb).trans (h j v hv)
theorem Has.range {w : World} {g : Nat} {t : TypeId} {cs : List Value} (h : Has w g t cs.toArray) : w.rangeAt g 0 cs := fun j v hv => by
  rw [h.cell, Nat.zero_add]
  simpa using hv
end Go.Proofs.Ytfcmkbeilpclmaa
