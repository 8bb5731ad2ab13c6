/-
  Words for memory: a block that is known whole, kept over draws, new blocks, stores elsewhere. No program stands here.
-/
import Derived.WalkKit
import Derived.ProofKit
import Derived.Handy
import Derived.Lib.Hide
namespace Go.Proofs.Ytfcmkbeilpclmaa
set_option linter.unusedVariables false
open Go.RowKit

/-- Block g is just the cells cs, of elements of type t, none of them frozen. -/
def Has (w : World) (g : Nat) (t : TypeId) (cs : Array Value) : Prop := w.heap[g]? = some (.cells cs t (0, 0))

theorem Has.lt {w : World} {g : Nat} {t : TypeId} {cs : Array Value} (h : Has w g t cs) : g < w.heap.size := by
  refine Nat.lt_of_not_le fun hge => ?_
  rw [Has, Array.getElem?_eq_none hge] at h
  cases h
theorem Has.cell {w : World} {g : Nat} {t : TypeId} {cs : Array Value} (h : Has w g t cs) (i : Nat) : w.cell? ⟨g, i, none⟩ = cs[i]? := by
  unfold Has at h; simp [World.cell?, h]
theorem Has.free {w : World} {g : Nat} {t : TypeId} {cs : Array Value} (h : Has w g t cs) (i : Nat) : w.frozen? ⟨g, i, none⟩ = false := by
  unfold Has at h; simp [World.frozen?, h]
theorem Has.made (w : World) (t : TypeId) (cs : Array Value) : Has (w.alloc (.cells cs t)) w.heap.size t cs := heap_alloc_new w _
theorem Has.of_alloc {w : World} {g : Nat} {t : TypeId} {cs : Array Value} (h : Has w g t cs) (o : Obj) : Has (w.alloc o) g t cs := (Below.heap_alloc w o g h.lt).trans h
theorem Has.set {w : World} {g : Nat} {t : TypeId} {cs : Array Value} (h : Has w g t cs) (i : Nat) (u : Value) : Has (w.setCell ⟨g, i, none⟩ u) g t (cs.setIfInBounds i u) := by
  unfold Has at *; simp [World.setCell, Array.getElem?_modify, h]
theorem Has.other {w : World} {g : Nat} {t : TypeId} {cs : Array Value} (h : Has w g t cs) {p : Addr} (hp : g ≠ p.block) (u : Value) : Has (w.setCell p u) g t cs := (Below.heap_setCell w p u g hp).trans h
theorem Has.below {w w' : World} {B g : Nat} {t : TypeId} {cs : Array Value} (h : Has w g t cs) (hb : Below B w w') (hg : g < B) : Has w' g t cs := (hb.block g hg).trans h

/-- An array's tail, from z on, as a slice. -/
theorem arr_from {P : Program} {t e n : Nat} (ht : P.underlying t = some (.array n e)) (hs : ∀ w : World, (sizeOf e).run P w = .ok 1 w) (b z : Nat) (hz : z < n) (w : World) :
    (Instr.sliceAt t (.pointer (some ⟨b, 0, none⟩)) (some (.int .i64 (z : Int))) none none).run P w = .ok (.slice (some ⟨b, z, none⟩) (n - z) (n - z)) w := by
  have hl : P.arrayLen t = n := by simp [Program.arrayLen, ht]
  have he : P.elem t = e := by simp [Program.elem, ht]
  have h := run_sliceAt_array_l (P := P) w t ⟨b, 0, none⟩ (by rw [hl, he]; exact ht) .i64 (z : Int) (by omega) (by rw [hl]; omega)
  rw [h, he, hs]
  have hne : n ≠ z := by omega
  have hadd : (⟨b, 0, none⟩ : Addr).add z = ⟨b, z, none⟩ := by unfold Addr.add; split <;> simp_all
  simp [Result.andThen, slicedAt, hl, hne, hadd]

/-- Bytes as a list, as a text; as cells. -/
def S (l : List UInt8) : ByteArray := ⟨l.toArray⟩
def bcells (l : List UInt8) : List Value := l.map fun c => Value.int .u8 c.toNat

theorem S_nums (l : List UInt8) : strOfNums (l.map fun c => (c.toNat : Int)) = S l := by
  have h : (l.map fun c => (c.toNat : Int)).map (fun n => UInt8.ofNat n.toNat) = l := by
    rw [List.map_map]; conv => rhs; rw [← List.map_id l]
    apply List.map_congr_left; intro c _; simp
  unfold strOfNums S; rw [h]

/-- A row of bytes turned into a text. -/
theorem conv_text {P : Program} {src e dst : Nat} (hs : P.underlying src = some (.slice e)) (he : P.underlying e = some (.int .u8)) (hd : P.underlying dst = some .string)
    {w : World} {b off n cap : Nat} (l : List UInt8) (hn : l.length = n) (hc : ∀ i, i < n → w.cell? ⟨b, off + i, none⟩ = (bcells l)[i]?) :
    (convert src dst (.slice (some ⟨b, off, none⟩) n cap)).run P w = .ok (.string (S l)) w := by
  have h := run_convert_bytes_arg (P := P) w src e hs he b off n cap (l.map fun c => (c.toNat : Int)) (by simpa using hn) (fun i hi => by
    rw [hc i hi]
    have hi' : i < l.length := by omega
    simp [bcells, List.getElem?_eq_getElem hi', List.getD]) dst hd
  rw [h, S_nums]

/-- One byte in a block of its own, turned into a text. -/
theorem conv_one {P : Program} {src e dst : Nat} (hs : P.underlying src = some (.slice e)) (he : P.underlying e = some (.int .u8)) (hd : P.underlying dst = some .string) (W : World) (c : Int) :
    (convert src dst (.slice (some ⟨W.heap.size, 0, none⟩) 1 1)).run P (W.alloc (.cells #[.int .u8 c] e)) = .ok (.string (S [UInt8.ofNat c.toNat])) (W.alloc (.cells #[.int .u8 c] e)) := by
  have h := run_convert_bytes_arg (P := P) (W.alloc (.cells #[.int .u8 c] e)) src e hs he W.heap.size 0 1 1 [c] rfl (fun i hi => by
    obtain rfl : i = 0 := by omega
    rw [(Has.made W e #[.int .u8 c]).cell]; rfl) dst hd
  exact h

theorem S_size (l : List UInt8) : (S l).size = l.length := rfl
theorem S_append (a b : List UInt8) : S a ++ S b = S (a ++ b) := by
  apply ByteArray.ext
  simp [S]
theorem S_extract (l : List UInt8) (a b : Nat) : (S l).extract a b = S ((l.take b).drop a) := by
  apply ByteArray.ext
  simp [S, ByteArray.data_extract]
  rw [List.drop_take]
theorem S_get (l : List UInt8) (i : Nat) (h : i < (S l).size) : (S l)[i]'h = l[i]'h := by
  simp [S, ByteArray.getElem_eq_getElem_data]
  rfl
theorem S_toList (l : List UInt8) : (S l).toList = l := by
  rw [ByteArray.toList_eq]; simp [S]
attribute [go_sem] S_toList List.isEmpty_nil List.isEmpty_cons
attribute [go_sem] S_size S_append S_extract List.drop_zero List.length_cons List.length_nil
/-- A text's byte: laid ahead of a walk. -/
theorem run_index_S {P : Program} (w : World) {t : TypeId} (l : List UInt8) (k : IntKind) (i : Nat) (h : P.underlying t = some .string) (h1 : i < l.length) :
    (Instr.index t (.string (S l)) (.int k (i : Int))).run P w = .ok (.int .u8 l[i].toNat) w := by
  rw [run_index_string w t (S l) k i h, dif_pos ⟨by omega, by rw [S_size]; omega⟩]
  rw [S_get]
  rfl
theorem run_index_S0 {P : Program} (w : World) {t : TypeId} (c : UInt8) (l : List UInt8) (k : IntKind) (h : P.underlying t = some .string) :
    (Instr.index t (.string (S (c :: l))) (.int k 0)).run P w = .ok (.int .u8 c.toNat) w :=
  run_index_S w (c :: l) k 0 h (by simp)
theorem S_inj {a b : List UInt8} (h : S a = S b) : a = b := by
  have := congrArg (fun x : ByteArray => x.data.toList) h
  simpa [S] using this
theorem S_of (s : ByteArray) : S s.data.toList = s := by
  cases s; simp [S]

theorem ret_str {a b : ByteArray} (h : a = b) : Ending.returned (.string a) = .returned (.string b) := by rw [h]
theorem ret_int {k : IntKind} {a b : Int} (h : a = b) : Ending.returned (.int k a) = .returned (.int k b) := by rw [h]
theorem ret_bool {a b : Bool} (h : a = b) : Ending.returned (.bool a) = .returned (.bool b) := by rw [h]
end Go.Proofs.Ytfcmkbeilpclmaa
