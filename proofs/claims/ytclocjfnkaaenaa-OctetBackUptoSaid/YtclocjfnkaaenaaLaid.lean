/-
  The contract of the statements' laid.
-/
import Derived.Test.YtclocjfnkaaenaaItemSpec
import Derived.Test.YtclocjfnkaaenaaLawNum
import Derived.Deep.RegionHeld3
import Derived.Deep.DeepFit
namespace Go.Proofs.Ytclocjfnkaaenaa
open Go.RowKit
set_option linter.unusedVariables false

def LaidPost (w : World) (s : List UInt8) (ok : Bool) (r : Ending) (w' : World) : Prop := r = .returned (.tuple #[.string (S s), .bool ok]) ∧ Below w.heap.size w w'

set_option maxHeartbeats 2000000 in
theorem laid_num (N : Int) (T : List UInt8) (F : Bool) (A : Option Addr) (n cap : Nat) (w : World) :
    Calls Try.prog 5 #[.agg #[.int .i64 0, .int .i64 N, .string (S T), .bool F, .slice A n cap]] w (LaidPost w (M.encL N) (!(M.encL N).isEmpty)) := by
  have hN := fun W => lnum_any N W
  have HB := Has.made w 31 #[.int .i64 0, .int .i64 N, .string (S T), .bool F, .slice A n cap]
  generalize M.encL N = e at hN ⊢
  have HN := Lib.hid hN; clear hN
  have hb : Below w.heap.size w (w.alloc (.cells #[.int .i64 0, .int .i64 N, .string (S T), .bool F, .slice A n cap] 31)) := (Below.refl _ _).alloc (Nat.le_refl _) _
  have hs : w.heap.size < (w.alloc (.cells #[.int .i64 0, .int .i64 N, .string (S T), .bool F, .slice A n cap] 31)).heap.size := by simp
  go_enter Try.func5, Try.ntmps5
  go_wp2_with fail
  generalize w.alloc (.cells #[.int .i64 0, .int .i64 N, .string (S T), .bool F, .slice A n cap] 31) = W at HB hb hs ⊢
  have hx1 : W.drew.cell? ⟨w.heap.size, 1, none⟩ = some (.int .i64 N) := HB.cell 1
  replace hb := hb.drew
  replace hs : w.heap.size < W.drew.heap.size := hs
  clear HB
  go_region_held3 (fun w' => w'.cell? ⟨w.heap.size, 1, none⟩ = some (.int .i64 N)) (first | exact hx1 | go_keep) (first
    | (go_at_call 17; refine (HN.out _).mono ?_; rintro e1 w1 ⟨rfl, hb1⟩; have hx1 : w1.cell? ⟨w.heap.size, 1, none⟩ = some (.int .i64 N) := (hb1.cell (p := ⟨w.heap.size, 1, none⟩) hs).trans hx1; have hb := hb.trans (hb1.mono (Nat.le_of_lt hs)); have hs := Nat.lt_of_lt_of_le hs hb1.size; clear hb1))
  all_goals
    go_wp2_with fail
    go_ret2
    exact ⟨rfl, hb⟩

set_option maxHeartbeats 2000000 in
theorem laid_text (N : Int) (T : List UInt8) (F : Bool) (A : Option Addr) (n cap : Nat) (w : World) (hT : T.length ≤ 1048576) :
    Calls Try.prog 5 #[.agg #[.int .i64 1, .int .i64 N, .string (S T), .bool F, .slice A n cap]] w (LaidPost w (M.encL T.length ++ T) true) := by
  have hN := fun W => lnum_any T.length W
  have hl := M.encL_len T.length
  have HB := Has.made w 31 #[.int .i64 1, .int .i64 N, .string (S T), .bool F, .slice A n cap]
  generalize M.encL T.length = e at hN hl ⊢
  have HN := Lib.hid hN; clear hN
  have hlim : ¬ 9223372036854775807 < e.length + T.length := by omega
  have hb : Below w.heap.size w (w.alloc (.cells #[.int .i64 1, .int .i64 N, .string (S T), .bool F, .slice A n cap] 31)) := (Below.refl _ _).alloc (Nat.le_refl _) _
  have hs : w.heap.size < (w.alloc (.cells #[.int .i64 1, .int .i64 N, .string (S T), .bool F, .slice A n cap] 31)).heap.size := by simp
  go_enter Try.func5, Try.ntmps5
  go_wp2_with fail
  generalize w.alloc (.cells #[.int .i64 1, .int .i64 N, .string (S T), .bool F, .slice A n cap] 31) = W at HB hb hs ⊢
  have hx1 : W.drew.cell? ⟨w.heap.size, 2, none⟩ = some (.string (S T)) := HB.cell 2
  replace hb := hb.drew
  replace hs : w.heap.size < W.drew.heap.size := hs
  clear HB
  go_region_held3 (fun w' => w'.cell? ⟨w.heap.size, 2, none⟩ = some (.string (S T))) (first | exact hx1 | go_keep) (first
    | (go_at_call 17; refine (HN.out _).mono ?_; rintro e1 w1 ⟨rfl, hb1⟩; have hx1 : w1.cell? ⟨w.heap.size, 2, none⟩ = some (.string (S T)) := (hb1.cell (p := ⟨w.heap.size, 2, none⟩) hs).trans hx1; have hb := hb.trans (hb1.mono (Nat.le_of_lt hs)); have hs := Nat.lt_of_lt_of_le hs hb1.size; clear hb1))
  all_goals
    go_wp2_with fail
    go_ret2
    exact ⟨rfl, hb⟩

set_option maxHeartbeats 2000000 in
theorem laid_flag (N : Int) (T : List UInt8) (F : Bool) (A : Option Addr) (n cap : Nat) (w : World) :
    Calls Try.prog 5 #[.agg #[.int .i64 2, .int .i64 N, .string (S T), .bool F, .slice A n cap]] w (LaidPost w [if F then 1 else 0] true) := by
  cases F
  all_goals
    go_enter Try.func5, Try.ntmps5
    go_wp2_with fail
    go_ret2
    exact ⟨rfl, (Below.refl _ _).alloc (Nat.le_refl _) _⟩

set_option maxHeartbeats 2000000 in
theorem laid_raw (N : Int) (T : List UInt8) (F : Bool) (A : Option Addr) (n cap : Nat) (w : World) :
    Calls Try.prog 5 #[.agg #[.int .i64 3, .int .i64 N, .string (S T), .bool F, .slice A n cap]] w (LaidPost w T true) := by
  go_enter Try.func5, Try.ntmps5
  go_wp2_with fail
  go_ret2
  exact ⟨rfl, (Below.refl _ _).alloc (Nat.le_refl _) _⟩

/-- The texts so far. -/
def Item.sofar (l : List (List UInt8)) (k : Nat) : List UInt8 := M.encL l.length ++ Item.texts (l.take k)
theorem Item.texts_snoc (a : List (List UInt8)) (s : List UInt8) : Item.texts (a ++ [s]) = Item.texts a ++ (M.encL s.length ++ s) := by simp [Item.texts]
theorem Item.sofar_zero (l : List (List UInt8)) : Item.sofar l 0 = M.encL l.length := by simp [Item.sofar, Item.texts]
theorem Item.sofar_all (l : List (List UInt8)) : Item.sofar l l.length = M.encL l.length ++ Item.texts l := by simp [Item.sofar]
theorem Item.sofar_succ (l : List (List UInt8)) (k : Nat) (h : k < l.length) : Item.sofar l (k + 1) = (Item.sofar l k ++ M.encL l[k].length) ++ l[k] := by
  unfold Item.sofar
  rw [List.take_succ_eq_append_getElem h, Item.texts_snoc]
  simp
theorem Item.sofar_len (l : List (List UInt8)) (k : Nat) (h : (l.map fun s => s.length + 1).sum ≤ 1048576) : (Item.sofar l k).length ≤ 16777216 := by
  have h1 := Item.texts_len (l.take k)
  have h2 := Item.sum8_le (l.take k)
  have h3 : ((l.take k).map fun s => s.length + 1).sum ≤ (l.map fun s => s.length + 1).sum := by
    conv => rhs; rw [← List.take_append_drop k l]
    rw [List.map_append, List.sum_append]; omega
  have h4 := M.encL_len l.length
  rw [Item.sofar, List.length_append]; omega

set_option maxRecDepth 100000 in
set_option maxHeartbeats 4000000 in
theorem laid_list (K N : Int) (T : List UInt8) (F : Bool) (l : List (List UInt8)) (A : Option Addr) (cap : Nat) (w : World) (h0 : ¬ K = 0) (h1 : ¬ K = 1) (h2 : ¬ K = 2) (h3 : ¬ K = 3)
    (hsl : SSl w w.heap.size A l) (hl : (l.map fun s => s.length + 1).sum ≤ 1048576) :
    Calls Try.prog 5 #[.agg #[.int .i64 K, .int .i64 N, .string (S T), .bool F, .slice A l.length cap]] w (LaidPost w (M.encL l.length ++ Item.texts l) true) := by
  have e0 : (K == 0) = false := by simpa using h0
  have e1 : (K == 1) = false := by simpa using h1
  have e2 : (K == 2) = false := by simpa using h2
  have e3 : (K == 3) = false := by simpa using h3
  clear h0 h1 h2 h3
  have hN := fun W => lnum_any l.length W
  have hfin := Item.sofar_all l
  have hz := Item.sofar_zero l
  have HB := Has.made w 31 #[.int .i64 K, .int .i64 N, .string (S T), .bool F, .slice A l.length cap]
  rw [← hfin]
  have HL := Lib.hid hl
  have hll := Item.length_le_sum l
  have hle := Item.le_sum l
  have HLE := Lib.hid hle
  have hlb : l.length ≤ 1048576 := by omega
  clear hfin hl hll hle
  rw [← hz] at hN
  have HN := Lib.hid hN; clear hN hz
  have hb : Below w.heap.size w (w.alloc (.cells #[.int .i64 K, .int .i64 N, .string (S T), .bool F, .slice A l.length cap] 31)) := (Below.refl _ _).alloc (Nat.le_refl _) _
  have hs : w.heap.size < (w.alloc (.cells #[.int .i64 K, .int .i64 N, .string (S T), .bool F, .slice A l.length cap] 31)).heap.size := by simp
  go_enter Try.func5, Try.ntmps5
  go_wp2_with fail
  refine (HN.out _).mono ?_
  rintro r1 w1 ⟨rfl, hb1⟩
  have HB1 := HB.below hb1 hs
  have hb2 := hb.trans (hb1.mono (Nat.le_of_lt hs))
  have hs2 := Nat.lt_of_lt_of_le hs hb1.size
  clear HB hb1 hb hs
  go_wp2_with fail
  go_loopw [4, 5] (fun v4 v5 wr => ∃ k : Nat, k ≤ l.length ∧ v4 = .string (S (Item.sofar l k)) ∧ v5 = .int .i64 k ∧ Has wr w.heap.size 31 #[.int .i64 K, .int .i64 N, .string (S T), .bool F, .slice A l.length cap] ∧ Below w.heap.size w wr ∧ w.heap.size < wr.heap.size) (fun _ v5 _ => l.length - (intOf v5).toNat)
  case atStart => exact ⟨0, Nat.zero_le _, rfl, rfl, HB1, hb2, hs2⟩
  case round =>
    obtain ⟨k, hk, rfl, rfl, HBk, hbk, hsk⟩ := hrel
    have hx4 : wr.cell? ⟨w.heap.size, 4, none⟩ = some (.slice A l.length cap) := HBk.cell 4
    by_cases hlt : k < l.length
    · obtain ⟨bl, off, rfl, hbl, hrow⟩ := hsl (by rintro rfl; simp at hlt)
      have hcell := (hbk.cell (p := ⟨bl, off + k, none⟩) hbl).trans (hrow k hlt)
      have hk0 : (0 : Int) ≤ (k : Int) := by omega
      have hki : (k : Int) < (l.length : Int) := by omega
      have hnx := Item.sofar_succ l k hlt
      have hsl1 := Item.sofar_len l k HL.out
      have hsl2 := HLE.out (l[k]'hlt) (List.getElem_mem hlt)
      have hsl3 := M.encL_len (l[k]'hlt).length
      have hN := fun W => lnum_any (l[k]'hlt).length W
      generalize (l[k]'hlt) = t at hcell hnx hsl2 hsl3 hN
      generalize Item.sofar l k = s at hnx hsl1 ⊢
      generalize M.encL t.length = e at hnx hsl3 hN
      have HN2 := Lib.hid hN; clear hN
      have HNX := Lib.hid hnx; clear hnx
      have htl : t.length ≤ 1048576 := Nat.le_trans hsl2 HL.out
      have hlim1 : ¬ 9223372036854775807 < s.length + e.length := by omega
      have hlim2 : ¬ 9223372036854775807 < s.length + e.length + t.length := by omega
      have hlim3 : ¬ 9223372036854775807 < (s ++ e).length + t.length := by rw [List.length_append]; omega
      clear hsl1 hsl2 hsl3 htl
      have hbl2 : bl < wr.heap.size := by omega
      go_wp2_with fail
      have hx4 : wr.drew.cell? ⟨w.heap.size, 4, none⟩ = some (.slice (some ⟨bl, off, none⟩) l.length cap) := hx4
      have hcell : wr.drew.cell? ⟨bl, off + k, none⟩ = some (.string (S t)) := hcell
      have hbk := hbk.drew
      have hsk : w.heap.size < wr.drew.heap.size := hsk
      have hbl2 : bl < wr.drew.heap.size := hbl2
      have HBk : Has wr.drew w.heap.size 31 #[.int .i64 K, .int .i64 N, .string (S T), .bool F, .slice (some ⟨bl, off, none⟩) l.length cap] := HBk
      go_region_held3 (fun w' => w'.cell? ⟨w.heap.size, 4, none⟩ = some (.slice (some ⟨bl, off, none⟩) l.length cap) ∧ w'.cell? ⟨bl, off + k, none⟩ = some (.string (S t))) (first | exact ⟨hx4, hcell⟩ | go_keep) (first
        | (go_at_call 17; refine (HN2.out _).mono ?_; rintro r2 w2 ⟨rfl, hb1⟩; have hcell : w2.cell? ⟨bl, off + k, none⟩ = some (.string (S t)) := (hb1.cell (p := ⟨bl, off + k, none⟩) hbl2).trans hcell; have HBk := HBk.below hb1 hsk; have hx4 : w2.cell? ⟨w.heap.size, 4, none⟩ = some (.slice (some ⟨bl, off, none⟩) l.length cap) := HBk.cell 4; have hbk := hbk.trans (hb1.mono (Nat.le_of_lt hsk)); have hsk := Nat.lt_of_lt_of_le hsk hb1.size; clear hb1))
      all_goals
        go_wp2_with fail
        go_roundw
        case rel => exact ⟨k + 1, by omega, by rw [HNX.out, List.append_assoc], by go_num, HBk, hbk, hsk⟩
        case measure => simp [intOf]; omega
    · have hke : k = l.length := by omega
      subst hke
      go_wp2_with fail
      go_ret2
      exact ⟨rfl, hbk⟩

theorem Item.bulk_T (x : Item) (hx : x.bulk ≤ 1048576) : x.T.length ≤ 1048576 := by unfold Item.bulk at hx; omega
theorem Item.bulk_L (x : Item) (hx : x.bulk ≤ 1048576) : (x.L.map fun s => s.length + 1).sum ≤ 1048576 := by unfold Item.bulk at hx; omega
theorem laid_any (x : Item) (B : Nat) (v : Value) (w : World) (hv : ItemV w B x v) (hB : B ≤ w.heap.size) (hx : x.bulk ≤ 1048576) :
    Calls Try.prog 5 #[v] w (LaidPost w x.bytes x.ok) := by
  have hT := x.bulk_T hx
  have hL := x.bulk_L hx
  clear hx
  obtain ⟨A, cap, rfl, hs⟩ := hv
  by_cases h0 : x.K = 0
  · have hb : x.bytes = M.encL x.N := if_pos h0
    have ho : x.ok = !(M.encL x.N).isEmpty := if_pos h0
    rw [h0, hb, ho]
    exact laid_num _ _ _ _ _ _ w
  · have ho : x.ok = true := if_neg h0
    by_cases h1 : x.K = 1
    · have hb : x.bytes = M.encL x.T.length ++ x.T := (if_neg h0).trans (if_pos h1)
      rw [h1, hb, ho]
      exact laid_text _ _ _ _ _ _ w hT
    · by_cases h2 : x.K = 2
      · have hb : x.bytes = [if x.F then 1 else 0] := (if_neg h0).trans ((if_neg h1).trans (if_pos h2))
        rw [h2, hb, ho]
        exact laid_flag _ _ _ _ _ _ w
      · by_cases h3 : x.K = 3
        · have hb : x.bytes = x.T := (if_neg h0).trans ((if_neg h1).trans ((if_neg h2).trans (if_pos h3)))
          rw [h3, hb, ho]
          exact laid_raw _ _ _ _ _ _ w
        · have hb : x.bytes = M.encL x.L.length ++ Item.texts x.L := (if_neg h0).trans ((if_neg h1).trans ((if_neg h2).trans (if_neg h3)))
          rw [hb, ho]
          refine laid_list _ _ _ _ _ A cap w h0 h1 h2 h3 (fun hl => ?_) hL
          obtain ⟨b, off, hA, hlt, hr⟩ := hs hl
          exact ⟨b, off, hA, Nat.lt_of_lt_of_le hlt hB, hr⟩
end Go.Proofs.Ytclocjfnkaaenaa
