/-
  The contracts of sha's appendNumber and padding.
-/
import Derived.Test.YtgjknfphmmlcdaaDoorBytes
import Derived.Test.YtgjknfphmmlcdaaDoorProg
import Derived.Laws.MakeOwn
import Derived.Laws.OwnMore
import Derived.Deep.DeepFit
import Derived.Maps.AppendAt
import Derived.WalkLawsBesides
namespace Go.Proofs.YtgjknfphmmlcdaaDoor
open Go.RowKit
set_option linter.unusedVariables false

theorem u8info : (Tryd.prog.info? 5).map (fun i => (i.zero, i.size, i.bytes)) = some (some (.int .u8 0), 1, 1) := by kernel_rfl

/-- A number's last k bytes, the highest first. -/
def bek (n k : Nat) : List UInt8 := (List.range k).map fun j => UInt8.ofNat (n / 256 ^ (k - 1 - j))
theorem bek_len (n k : Nat) : (bek n k).length = k := by simp [bek]
theorem bek_take (n k m : Nat) (h : m < k) : (bek n k).take (m + 1) = (bek n k).take m ++ [UInt8.ofNat (n / 256 ^ (k - 1 - m))] := by
  rw [List.take_succ_eq_append_getElem (by rw [bek_len]; exact h)]
  simp [bek]
theorem byte_of (n : Nat) (i : Nat) : ((n : Int) / 2 ^ (8 * i) % 256) = ((UInt8.ofNat (n / 256 ^ i)).toNat : Int) := by
  have h : (2 : Nat) ^ (8 * i) = 256 ^ i := by rw [Nat.pow_mul]
  have h2 : ((n : Int) / 2 ^ (8 * i) % 256) = ((n / 2 ^ (8 * i) % 256 : Nat) : Int) := by simp
  rw [h2, h]
  simp

theorem grown_alloc' {w w' : World} {o : Obj} {row : Option Nat} (h : (w.alloc o).grownBy w' row) : w.grownBy w' row :=
  ⟨h.os, h.tape, h.output, by have := h.size; simp at this; omega, fun i hi hn => (h.block i (by simp; omega) hn).trans (Below.heap_alloc w o i hi)⟩
def NumPost (w : World) (B : Nat) (l : List UInt8) (e : Ending) (w' : World) : Prop := ∃ v, e = .returned v ∧ w'.ownsRow B 5 1 v l.length (bcells l) ∧ Below B w w'

set_option maxHeartbeats 2000000 in
theorem appendNumber_any (v : Value) (l : List UInt8) (n k : Nat) (B : Nat) (w : World) (hown : w.ownsRow B 5 1 v l.length (bcells l)) (hB : B ≤ w.heap.size) (hl : l.length ≤ 1000000) (hk : k ≤ 8) (hn : n < 18446744073709551616) :
    Calls Tryd.prog 63 #[v, .int .u64 (n : Int), .int .i64 (k : Int)] w (NumPost w B (l ++ bek n k)) := by
  obtain ⟨i0, hi, hz0, hz1, hz2⟩ := info_parts u8info
  have HI := Lib.hid (And.intro hi (And.intro hz0 (And.intro hz1 hz2))); clear hi hz0 hz1 hz2
  have hlen := bek_len n k
  have htake := bek_take n k
  generalize hbk : bek n k = bk at hlen htake ⊢
  have HLEN := Lib.hid hlen; clear hlen
  have HTAKE := Lib.hid htake; clear htake
  clear hbk
  go_enter Tryd.func63, Tryd.ntmps63
  go_wp2_with fail
  go_loopw [0, 7] (fun v0 v7 wr => ∃ m : Nat, m ≤ k ∧ v7 = .int .i64 ((k : Int) - 1 - (m : Int)) ∧ wr.ownsRow B 5 1 v0 (l.length + m) (bcells (l ++ bk.take m)) ∧ Below B w wr) (fun _ v7 _ => (intOf v7 + 1).toNat)
  case atStart =>
    refine ⟨0, Nat.zero_le _, by simp, by simpa using hown, Below.refl _ _⟩
  case round =>
    obtain ⟨m, hm, rfl, hownk, hbk⟩ := hrel
    by_cases hlt : m < k
    · obtain ⟨i, hi⟩ : ∃ i, k - 1 - m = i := ⟨_, rfl⟩
      have e1 : (k : Int) - 1 - (m : Int) = (i : Int) := by omega
      rw [e1]
      have hnx := HTAKE.out m hlt
      rw [hi] at hnx
      have hb := byte_of n i
      have hi0 : (0 : Int) ≤ (i : Int) := by omega
      have hi7 : (i : Int) ≤ 7 := by omega
      have hgei : ¬ (i : Int) < 0 := by omega
      generalize UInt8.ofNat (n / 256 ^ i) = c at hnx hb
      have HNX := Lib.hid hnx; clear hnx
      have HB := Lib.hid hb; clear hb
      have HE1 := Lib.hid (And.intro e1 hi); clear e1 hi
      have hbsz := hbk.size
      have hB2 : B ≤ wr.heap.size := by omega
      have HO := Lib.hid (hownk.alloc (.cells #[.int .u8 ((n : Int) / 2 ^ (8 * i) % 256)] 5)); clear hownk
      have hmade : ∀ (j : Nat) (u : Value), [Value.int .u8 ((n : Int) / 2 ^ (8 * i) % 256)][j]? = some u → (wr.alloc (.cells #[.int .u8 ((n : Int) / 2 ^ (8 * i) % 256)] 5)).cell? ((⟨wr.heap.size, 0, none⟩ : Addr).add j) = some u := by
        intro j u hu
        cases j with
        | zero => rw [show (⟨wr.heap.size, 0, none⟩ : Addr).add 0 = ⟨wr.heap.size, 0, none⟩ from rfl, World.cell?_alloc_at _ _ _ _ rfl]; simpa using hu
        | succ j => simp at hu
      have HM := Lib.hid hmade; clear hmade
      go_wp2_with (at_builtin; refine wpList_append_own _ rfl (.tmp 14) (.tmp 20) 82 rfl B 5 i0 (.int .u8 0) 1 1 Tryd.underlying82 HI.out.1 HI.out.2.1 HI.out.2.2.1 HI.out.2.2.2 rfl (by decide) u0 (l.length + m) (bcells (l ++ bk.take m)) rfl HO.out ⟨wr.heap.size, 0, none⟩ 1 1 [.int .u8 ((n : Int) / 2 ^ (8 * i) % 256)] rfl rfl HM.out (by simp [Value.oneCell']) (by simp only [maxLen]; omega) (by omega) (by simp; omega) ?_; intro v8 w3 hown3 hg3 hnil3)
      rw [HB.out] at hown3
      have hown4 : w3.ownsRow B 5 1 v8 (l.length + (m + 1)) (bcells (l ++ bk.take (m + 1))) := by
        rw [HNX.out, ← List.append_assoc, ← Nat.add_assoc]
        have : bcells ((l ++ bk.take m) ++ [c]) = bcells (l ++ bk.take m) ++ [.int .u8 (c.toNat : Int)] := by simp [bcells]
        rw [this]
        exact hown3
      have hb4 : Below B w w3 := hbk.grown (grown_alloc' hg3) hB2 (fun k hk => (HO.out.lt k hk).1)
      clear hown3 hg3 hnil3
      go_wp2_with fail
      go_roundw
      case rel => exact ⟨m + 1, by omega, by have := HE1.out.1; congr 1 <;> omega, hown4, hb4⟩
      case measure => simp [intOf]
    · have hme : m = k := by omega
      have hneg : (k : Int) - 1 - (m : Int) = -1 := by omega
      rw [hneg]
      have hall : bk.take m = bk := List.take_of_length_le (by rw [HLEN.out]; omega)
      rw [hall] at hownk
      have hll : l.length + m = (l ++ bk).length := by rw [List.length_append, HLEN.out, hme]
      rw [hll] at hownk
      clear hneg hall hll hme
      go_wp2_with fail
      go_ret
      exact ⟨_, rfl, hownk, hbk⟩

theorem own_bytes {w : World} {B e : Nat} {v : Value} {l : List UInt8} (h : w.ownsRow B e 1 v l.length (bcells l)) : ∃ b A cap, v = .slice A l.length cap ∧ Bytes w b A l := by
  rcases h.2 with ⟨rfl, h0⟩ | ⟨g, cap, cur, rfl, hr⟩
  · have hl : l = [] := List.eq_nil_of_length_eq_zero h0
    subst hl
    exact ⟨0, none, 0, rfl, Bytes.nil _ _ _⟩
  · exact ⟨g, _, cap, rfl, fun _ => ⟨0, rfl, fun i hi => by rw [Nat.zero_add]; exact h.cellAt i (by omega)⟩⟩
/-- A slice of L elements at the head of a block of L + 8. -/
theorem own_head (w : World) (B g L : Nat) (cur : List UInt8) (hB : B ≤ g) (hh : Has w g 5 (bcells cur).toArray) (hc : cur.length = L + 8) (hL : L ≤ 1000000) :
    w.ownsRow B 5 1 (.slice (some ⟨g, 0, none⟩) L (L + 8)) L (bcells (cur.take L)) := by
  refine ⟨by simp [bcells]; omega, Or.inr ⟨g, L + 8, _, rfl, hB, hh, by omega, by unfold maxLen; omega, by simp [bcells, hc], ?_⟩⟩
  simp [bcells, List.map_take]

theorem made_zeros (n : Nat) : madeCells (Value.int .u8 0).cells n = (bcells (List.replicate n 0)).toArray := by
  apply Array.ext
  · simp [bcells, madeCells]
  · intro i h1 h2
    simp [bcells, madeCells, Value.cells, Nat.mod_one]

/-- What follows a text of n bytes. -/
def padb (n : Nat) : List UInt8 := 128 :: List.replicate ((119 - n % 64) % 64) 0 ++ bek (8 * n) 8
theorem padb_len (n : Nat) : (padb n).length = (119 - n % 64) % 64 + 9 := by simp [padb, bek_len]
def TextPost (w : World) (l : List UInt8) (e : Ending) (w' : World) : Prop := e = .returned (.string (S l)) ∧ Below w.heap.size w w'

set_option maxHeartbeats 2000000 in
theorem padding_any (n : Nat) (w : World) (hn : n ≤ 10000000000000000) :
    Calls Tryd.prog 62 #[.int .i64 (n : Int)] w (TextPost w (padb n)) := by
  obtain ⟨z, hz⟩ : ∃ z, (119 - n % 64) % 64 = z := ⟨_, rfl⟩
  have hpad : padb n = ((128 :: List.replicate z 0) ++ bek (8 * n) 8) := by rw [← hz]; rfl
  rw [hpad]
  obtain ⟨L, hL⟩ : ∃ L, (128 :: List.replicate z 0) ++ bek (8 * n) 8 = L := ⟨_, rfl⟩
  have hAN := fun (v : Value) (W : World) => appendNumber_any v (128 :: List.replicate z 0) (8 * n) 8 w.heap.size W
  rw [hL] at hAN ⊢
  clear hL
  have hzl : z < 64 := by rw [← hz]; exact Nat.mod_lt _ (by decide)
  have hzi : (119 - (n : Int) % 64) % 64 = (z : Int) := by omega
  have hr0 : (0 : Int) ≤ (n : Int) % 64 := by omega
  have hr1 : (n : Int) % 64 < 64 := by omega
  obtain ⟨i0, hi, hz0, hz1, hz2⟩ := info_parts u8info
  have hmk : ∀ W : World, (Instr.makeSlice 82 (.int .i64 (1 + (z : Int))) (.int .i64 (1 + (z : Int) + 8))).run Tryd.prog W = .ok (.slice (some ⟨W.heap.size, 0, none⟩) (z + 1) (z + 1 + 8)) (W.alloc (.cells (bcells (List.replicate (z + 1 + 8) 0)).toArray 5)) := by
    intro W
    have h := run_make (P := Tryd.prog) W 82 5 i0 (.int .u8 0) Tryd.underlying82 hi hz0 .i64 .i64 (1 + (z : Int)) (1 + (z : Int) + 8) (by omega) (by omega) (by rw [hz2]; omega) (by omega)
    have t1 : (1 + (z : Int)).toNat = z + 1 := by omega
    have t2 : (1 + (z : Int) + 8).toNat = z + 1 + 8 := by omega
    rw [hz1, Nat.mul_one, t1, t2, made_zeros] at h
    exact h
  have HAN := Lib.hid hAN
  clear hAN hz hpad hi hz0 hz1 hz2
  have hz0 : (0 : Int) ≤ (z : Int) := by omega
  have hz63 : (z : Int) < 64 := by omega
  have hn0 : (0 : Int) ≤ (n : Int) := by omega
  have hn9 : (n : Int) ≤ 10000000000000000 := by omega
  go_enter Tryd.func62, Tryd.ntmps62
  go_wp2_with fail
  have hset : (bcells (List.replicate (z + 1 + 8) 0)).set 0 (.int .u8 128) = bcells (128 :: List.replicate (z + 8) 0) := by
    rw [show z + 1 + 8 = (z + 8) + 1 by omega]; rfl
  rw [hset]
  have hown := own_head (w.alloc (.cells (bcells (128 :: List.replicate (z + 8) 0)).toArray 5)) w.heap.size w.heap.size (z + 1) (128 :: List.replicate (z + 8) 0) (Nat.le_refl _) (Has.made _ _ _) (by simp) (by omega)
  have htk : (128 :: List.replicate (z + 8) (0 : UInt8)).take (z + 1) = 128 :: List.replicate z 0 := by
    rw [List.take_succ_cons, List.take_replicate]; congr 2; omega
  have hll : (128 :: List.replicate z (0 : UInt8)).length = z + 1 := by simp
  rw [htk, ← hll] at hown
  have hA := HAN.out _ _ hown (by simp) (by rw [hll]; omega) (by omega) (by omega)
  have e8 : ((8 * n : Nat) : Int) = 8 * (n : Int) := by omega
  rw [e8, hll] at hA
  have hb0 : Below w.heap.size w (w.alloc (.cells (bcells (128 :: List.replicate (z + 8) 0)).toArray 5)) := (Below.refl _ _).alloc (Nat.le_refl _) _
  clear hown htk hll e8 HAN hset hmk
  refine hA.mono ?_
  rintro r w2 ⟨v, rfl, hown2, hb2⟩
  obtain ⟨b, A, cap, rfl, hby⟩ := own_bytes hown2
  have hcv := conv_bytes_text (P := Tryd.prog) Tryd.underlying82 Tryd.underlying5 Tryd.underlying9 hby cap
  clear hown2 hA
  go_wp2_with fail
  go_ret
  exact ⟨rfl, hb0.trans hb2⟩
end Go.Proofs.YtgjknfphmmlcdaaDoor
