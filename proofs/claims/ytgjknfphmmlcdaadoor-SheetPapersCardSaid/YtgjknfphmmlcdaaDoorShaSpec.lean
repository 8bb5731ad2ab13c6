/-
  What a state holds of what was written: plain. No program stands here.
-/
import Derived.Test.YtgjknfphmmlcdaaDoorMixSpec
import Derived.Test.YtgjknfphmmlcdaaDoorSched
import Derived.Test.YtgjknfphmmlcdaaDoorShaNum
namespace Go.Proofs.YtgjknfphmmlcdaaDoor
open Go.RowKit
set_option linter.unusedVariables false

namespace Sha
def kl : List UInt32 := [1116352408, 1899447441, 3049323471, 3921009573, 961987163, 1508970993, 2453635748, 2870763221, 3624381080, 310598401, 607225278, 1426881987, 1925078388, 2162078206, 2614888103, 3248222580, 3835390401, 4022224774, 264347078, 604807628, 770255983, 1249150122, 1555081692, 1996064986, 2554220882, 2821834349, 2952996808, 3210313671, 3336571891, 3584528711, 113926993, 338241895, 666307205, 773529912, 1294757372, 1396182291, 1695183700, 1986661051, 2177026350, 2456956037, 2730485921, 2820302411, 3259730800, 3345764771, 3516065817, 3600352804, 4094571909, 275423344, 430227734, 506948616, 659060556, 883997877, 958139571, 1322822218, 1537002063, 1747873779, 1955562222, 2024104815, 2227730452, 2361852424, 2428436474, 2756734187, 3204031479, 3329325298]
def s0 : S8 := ⟨1779033703, 3144134277, 1013904242, 2773480762, 1359893119, 2600822924, 528734635, 1541459225⟩
/-- The words behind a block. -/
def mixB (s : S8) (b : List UInt8) : S8 := (s.rounds kl (sched b) 64).add s
/-- The words behind the first j blocks of m. -/
def hashN (m : List UInt8) : Nat → S8
  | 0 => s0
  | j + 1 => mixB (hashN m j) ((m.drop (64 * j)).take 64)
theorem hashN_app (m x : List UInt8) : ∀ j, 64 * j ≤ m.length → hashN (m ++ x) j = hashN m j
  | 0, _ => rfl
  | j + 1, h => by
    unfold hashN
    rw [hashN_app m x j (by omega), List.drop_append_of_le_length (by omega), List.take_append_of_le_length (by rw [List.length_drop]; omega)]
/-- The words as bytes. -/
def out (s : S8) : List UInt8 := (s.toList.map fun x => bek x.toNat 4).flatten
/-- The sum of m. -/
def sum (m : List UInt8) : List UInt8 := out (hashN (m ++ padb m.length) ((m ++ padb m.length).length / 64))
theorem padb_all (m : List UInt8) : (m ++ padb m.length).length % 64 = 0 := by
  rw [List.length_append, padb_len]; omega
theorem out_len (s : S8) : (out s).length = 32 := by simp [out, S8.toList, bek_len]
theorem sum_len (m : List UInt8) : (sum m).length = 32 := out_len _
end Sha

/-- A state's cells. -/
def stc (s : S8) (blk : List UInt8) (n : Nat) : List Value := (s.toList.map fun x => Value.int .u32 (x.toNat : Int)) ++ (bcells blk ++ [.int .i64 (n : Int), .bool true])
theorem stc_len (s : S8) (blk : List UInt8) (n : Nat) (h : blk.length = 64) : (stc s blk n).length = 74 := by simp [stc, S8.toList, bcells, h]
/-- The state in block g has taken the first t bytes of M. -/
def StAt (w : World) (T : TypeId) (g : Nat) (M : List UInt8) (t : Nat) : Prop :=
  ∃ blk : List UInt8, blk.length = 64 ∧ Has w g T (stc (Sha.hashN M (t / 64)) blk t).toArray ∧ blk.take (t % 64) = (M.take t).drop (64 * (t / 64))
theorem StAt.below {w w' : World} {T : TypeId} {g B : Nat} {M : List UInt8} {t : Nat} (h : StAt w T g M t) (hb : Below B w w') (hg : g < B) : StAt w' T g M t := by
  obtain ⟨blk, h1, h2, h3⟩ := h
  exact ⟨blk, h1, h2.below hb hg, h3⟩
theorem StAt.lt {w : World} {T : TypeId} {g : Nat} {M : List UInt8} {t : Nat} (h : StAt w T g M t) : g < w.heap.size := by
  obtain ⟨blk, h1, h2, h3⟩ := h
  exact h2.lt
/-- More is to be written. -/
theorem StAt.more {w : World} {T : TypeId} {g : Nat} {M : List UInt8} (x : List UInt8) (h : StAt w T g M M.length) : StAt w T g (M ++ x) M.length := by
  obtain ⟨blk, h1, h2, h3⟩ := h
  refine ⟨blk, h1, ?_, ?_⟩
  · rw [Sha.hashN_app M x _ (Nat.mul_div_le _ _)]; exact h2
  · rw [h3, List.take_append_of_le_length (Nat.le_refl _)]
theorem StAt.all {w : World} {T : TypeId} {g : Nat} {M x : List UInt8} {t : Nat} (h : StAt w T g (M ++ x) t) (ht : t = (M ++ x).length) : StAt w T g (M ++ x) (M ++ x).length := ht ▸ h

/-- A round's parts: the block behind a copy. -/
theorem blk_next (M blk : List UInt8) (t n : Nat) (hb : blk.length = 64) (ht : t + n ≤ M.length) (hn : t % 64 + n ≤ 64) (h : blk.take (t % 64) = (M.take t).drop (64 * (t / 64))) :
    (blk.take (t % 64) ++ ((M.drop t).take n ++ blk.drop (t % 64 + n))).take (t % 64 + n) = (M.take (t + n)).drop (64 * (t / 64)) := by
  have hl : (blk.take (t % 64)).length = t % 64 := by rw [List.length_take]; omega
  have hl2 : ((M.drop t).take n).length = n := by rw [List.length_take, List.length_drop]; omega
  rw [← List.append_assoc, List.take_append_of_le_length (by rw [List.length_append, hl, hl2]; omega), List.take_of_length_le (by rw [List.length_append, hl, hl2]; omega)]
  rw [h]
  have e : M.take (t + n) = M.take t ++ (M.drop t).take n := List.take_add ..
  rw [e, List.drop_append_of_le_length (by rw [List.length_take]; have := Nat.mul_div_le t 64; omega)]
end Go.Proofs.YtgjknfphmmlcdaaDoor
