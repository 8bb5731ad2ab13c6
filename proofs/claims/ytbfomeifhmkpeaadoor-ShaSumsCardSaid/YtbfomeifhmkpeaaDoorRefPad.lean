/-
  The contract of the reference's pad.
-/
import Derived.Test.YtbfomeifhmkpeaaDoorTail
import Derived.Test.YtbfomeifhmkpeaaDoorHex
namespace Go.Proofs.YtbfomeifhmkpeaaDoor
open Go.RowKit
set_option linter.unusedVariables false

theorem wpList_tail_push (w : World) {ops : Array Oper} {rest : List Oper} {o : Oper} {act : Act} {Q : Exit → Act → World → Prop} (hgd : o.guard = none) (sl x : Operand) (hop : o.op = Op.call { callee := Callee.builtin Builtin.append, args := #[sl, x], argTypes := #[33, 33] })
    (B : Nat) (v : Value) (l : List UInt8) (h : Tail w B v l) (hB : B ≤ w.heap.size) (a : Addr) (c : UInt8) (ha : ∀ y : Addr, y = a.add 0 → w.cell? y = some (.int .u8 (c.toNat : Int))) (hl : l.length + 1 ≤ 100000000000000) (cc : Nat)
    (hs : act.eval sl = v) (hx : act.eval x = .slice (some a) 1 cc)
    (hK : ∀ v' w', Tail w' B v' (l ++ [c]) → Below B w w' → wpList Tryd.prog ops Q rest (act.put o.dst v') w') : wpList Tryd.prog ops Q (o :: rest) act w := by
  refine wpList_plain hgd fun K' hK' => ?_
  obtain ⟨v', w', hrun, h1, h2⟩ := tail_push (c := c) w B v l h hB a ha hl o.type cc
  unfold Oper.wp
  simp [execOp, hop, resolve, invoke, builtin, hs, hx, hrun, Result.andThen]
  exact hK' _ _ (hK v' w' h1 h2)

def sliceLen : Value → Nat
  | .slice _ n _ => n
  | _ => 0
theorem one_at (W : World) (x : Value) (t : TypeId) : ∀ y : Addr, y = (⟨W.heap.size, 0, none⟩ : Addr).add 0 → (W.alloc (.cells #[x] t)).cell? y = some x := by
  rintro y rfl
  rw [show (⟨W.heap.size, 0, none⟩ : Addr).add 0 = ⟨W.heap.size, 0, none⟩ from rfl]
  exact (Has.made W t #[x]).cell 0
theorem pad_split (s : List UInt8) (z : Nat) (hz : (119 - s.length % 64) % 64 = z) : s ++ padb s.length = (s ++ [128] ++ List.replicate z 0) ++ bek (8 * s.length) 8 := by
  have : padb s.length = (128 :: List.replicate z 0) ++ bek (8 * s.length) 8 := by rw [← hz]; rfl
  rw [this]; simp

set_option maxRecDepth 100000 in
set_option maxHeartbeats 4000000 in
theorem refPad_any (s : List UInt8) (hs : s.length ≤ 1000000) (w : World) : Calls Tryd.prog 12 #[.string (S s)] w (TextPost w (s ++ padb s.length)) := by
  obtain ⟨z, hz⟩ : ∃ z, (119 - s.length % 64) % 64 = z := ⟨_, rfl⟩
  have hsp := pad_split s z hz
  have hcv := conv_bytes (P := Tryd.prog) Tryd.underlying9 Tryd.underlying33 Tryd.underlying5 w s
  have htl := Tail.made w s (Nat.le_trans hs (by decide))
  have hbw := bworld_below w 5 s
  generalize s ++ padb s.length = res at hsp ⊢
  have HSP := Lib.hid hsp; clear hsp
  have HZ := Lib.hid (And.intro hz hs); clear hz
  have hlen := bek_len (8 * s.length) 8
  have htake := bek_take (8 * s.length) 8
  generalize hbk : bek (8 * s.length) 8 = bk at hlen htake HSP
  have HBK := Lib.hid (And.intro hlen htake); clear hlen htake hbk
  have hs0 : (0 : Int) ≤ (s.length : Int) := by omega
  have hs1 : (s.length : Int) ≤ 1000000 := by omega
  go_enter Tryd.func12, Tryd.ntmps12
  go_upto_region 2 with (fail)
  generalize bworld w 5 s = W at htl hbw ⊢
  generalize bcap w 5 s = cap at htl ⊢
  clear hcv
  have hb1 := hbw.alloc hbw.size (.cells #[.int .u8 128] 5)
  have ht1 := htl.below ((Below.refl _ W).alloc (Nat.le_refl _) (.cells #[.int .u8 128] 5))
  have hn1 : ∀ y : Addr, y = (⟨W.heap.size, 0, none⟩ : Addr).add 0 → (W.alloc (.cells #[.int .u8 128] 5)).cell? y = some (.int .u8 ((128 : UInt8).toNat : Int)) := one_at W _ _
  have hsz := hbw.size
  clear hbw htl
  go_upto_region 3 with (at_builtin; refine wpList_tail_push _ rfl (.tmp 8) (.tmp 9) rfl w.heap.size (.slice (some ⟨w.heap.size, 0, none⟩) s.length cap) s ht1 (by simp; omega) ⟨W.heap.size, 0, none⟩ 128 hn1 (by have := HZ.out.2; omega) 1 rfl rfl ?_; intro v3 w3 ht3 hb3)
  have hb03 := hb1.trans hb3
  clear ht1 hn1 hb1 hb3 hsz
  have hge : w.heap.size ≤ w3.heap.size := hb03.size
  go_wp2_with fail
  go_loopw [3] (fun v3 wr => ∃ (j : Nat) (l : List UInt8), j ≤ z ∧ l = s ++ [128] ++ List.replicate j 0 ∧ Tail wr w.heap.size v3 l ∧ Below w.heap.size w wr) (fun v3 _ => s.length + 200 - sliceLen v3)
  case atStart => exact ⟨0, s ++ [128], Nat.zero_le _, by simp, ht3, hb03⟩
  case round =>
    clear ht3 hb03 hge
    obtain ⟨j, l, hj, hl, ht, hb⟩ := hrel
    have hll : l.length = s.length + 1 + j := by rw [hl]; simp; omega
    have hz2 := HZ.out.1
    have hzlt : z < 64 := by rw [← hz2]; exact Nat.mod_lt _ (by decide)
    obtain ⟨r, hr⟩ : ∃ r, l.length % 64 = r := ⟨_, rfl⟩
    have m1 : (l.length : Int) % 64 = (r : Int) := by omega
    have m2 : (l.length : Int).tmod 64 = (r : Int) := by rw [Int.tmod_eq_emod_of_nonneg (by omega)]; exact m1
    obtain ⟨g, cap, rfl, hBg, hgl⟩ := ht.lt
    have hsz := hb.size
    by_cases hjz : j = z
    · have hr56 : r = 56 := by omega
      have hl6 : l.length ≤ 1000100 := by have := HZ.out.2; omega
      have HL6 := Lib.hid hl6; clear hl6
      subst hr56
      have hlz : l = s ++ [128] ++ List.replicate z 0 := by rw [hl, hjz]
      have HL := Lib.hid hlz
      have htB := ht
      have HLL := Lib.hid (And.intro hll hzlt)
      clear hl hll hz2 hzlt hr hjz hlz hj ht
      have n0 : (0 : Int) ≤ 8 * (s.length : Int) := by omega
      have n1 : 8 * (s.length : Int) ≤ 8000000 := by omega
      obtain ⟨n, hn⟩ : ∃ n, 8 * s.length = n := ⟨_, rfl⟩
      have hni : 8 * (s.length : Int) = (n : Int) := by omega
      rw [hn] at HBK
      have HN := Lib.hid (And.intro hn hni)
      go_wp2_with fail
      go_loopw [3, 5] (fun v3 v5 wr => ∃ m : Nat, m ≤ 8 ∧ v5 = .int .i64 (7 - (m : Int)) ∧ Tail wr w.heap.size v3 (l ++ bk.take m) ∧ Below w.heap.size w wr) (fun _ v5 _ => (intOf v5 + 1).toNat)
      case atStart => exact ⟨0, Nat.zero_le _, rfl, by simpa using htB, hb⟩
      case round =>
        clear htB hb hsz hgl
        obtain ⟨m, hm, rfl, ht, hb⟩ := hrel
        have hsz := hb.size
        by_cases hlt : m < 8
        · obtain ⟨q, hq⟩ : ∃ q, 8 - 1 - m = q := ⟨_, rfl⟩
          have e1 : 7 - (m : Int) = (q : Int) := by omega
          rw [e1]
          have hnx := HBK.out.2 m hlt
          rw [hq] at hnx
          have hbq := byte_of n q
          have hq0 : (0 : Int) ≤ (q : Int) := by omega
          have hq7 : (q : Int) ≤ 7 := by omega
          have hgei : ¬ (q : Int) < 0 := by omega
          generalize UInt8.ofNat (n / 256 ^ q) = c at hnx hbq
          have HNX := Lib.hid hnx; clear hnx
          have HE1 := Lib.hid (And.intro e1 (And.intro hq hlt)); clear e1 hq hlt
          obtain ⟨g2, cap2, hv, _, _⟩ := ht.lt
          have ht1 := ht.below ((Below.refl _ wr).alloc (Nat.le_refl _) (.cells #[.int .u8 ((n : Int) / 2 ^ (8 * q) % 256)] 5))
          have hn1 : ∀ y : Addr, y = (⟨wr.heap.size, 0, none⟩ : Addr).add 0 → (wr.alloc (.cells #[.int .u8 ((n : Int) / 2 ^ (8 * q) % 256)] 5)).cell? y = some (.int .u8 (c.toNat : Int)) := by rw [← hbq]; exact one_at wr _ _
          have hll2 : (l ++ bk.take m).length ≤ 1000108 := by rw [List.length_append, List.length_take]; have := HL6.out; omega
          have HLL2 := Lib.hid hll2
          have HB := Lib.hid hbq
          clear hll2 hbq hv ht hm
          go_wp2_with (at_builtin; refine wpList_tail_push _ rfl (.tmp 25) (.tmp 31) rfl w.heap.size u3 (l ++ bk.take m) ht1 (by simp; omega) ⟨wr.heap.size, 0, none⟩ c hn1 (by have := HLL2.out; omega) 1 rfl rfl ?_; intro v4 w4 ht4 hb4)
          have hb04 := (hb.alloc hsz (.cells #[.int .u8 ((n : Int) / 2 ^ (8 * q) % 256)] 5)).trans hb4
          clear ht1 hn1 hb4 hb
          go_wp2_with fail
          go_roundw
          case rel => exact ⟨m + 1, by have := HE1.out; omega, by have := HE1.out.1; congr 1 <;> omega, by rw [HNX.out, ← List.append_assoc]; exact ht4, hb04⟩
          case measure => simp [intOf]
        · have hme : m = 8 := by omega
          have e1 : 7 - (m : Int) = -1 := by omega
          rw [e1]
          have hall : bk.take m = bk := List.take_of_length_le (by rw [HBK.out.1]; omega)
          have hres : l ++ bk.take m = res := by rw [hall, HSP.out, HL.out]
          rw [hres] at ht
          obtain ⟨g2, cap2, rfl, _, _⟩ := ht.lt
          have hcv := conv_bytes_text (P := Tryd.prog) Tryd.underlying33 Tryd.underlying5 Tryd.underlying9 ht.bytes cap2
          clear ht hall hres hme e1 hlt hm
          go_wp2_with fail
          go_ret
          exact ⟨rfl, hb⟩
    · have hr56 : ¬ (r : Int) = 56 := by omega
      have hrb : ((r : Int) == 56) = false := by simpa using hr56
      have hrb2 : ((r : Int) != 56) = true := by simp only [bne, hrb]; rfl
      have ht1 := ht.below ((Below.refl _ wr).alloc (Nat.le_refl _) (.cells #[.int .u8 0] 5))
      have hn1 : ∀ y : Addr, y = (⟨wr.heap.size, 0, none⟩ : Addr).add 0 → (wr.alloc (.cells #[.int .u8 0] 5)).cell? y = some (.int .u8 ((0 : UInt8).toNat : Int)) := one_at wr _ _
      have hL : l ++ [0] = s ++ [128] ++ List.replicate (j + 1) 0 := by
        rw [hl, List.replicate_succ']; simp
      have HL := Lib.hid hL; clear hL
      have HLL := Lib.hid (And.intro hll (And.intro hzlt (And.intro hj hjz)))
      have HS := Lib.hid HZ.out.2
      clear hl hll hz2 hzlt hr hjz hj ht
      go_wp2_with (at_builtin; refine wpList_tail_push _ rfl (.tmp 15) (.tmp 16) rfl w.heap.size (.slice (some ⟨g, 0, none⟩) l.length cap) l ht1 (by simp; omega) ⟨wr.heap.size, 0, none⟩ 0 hn1 (by have := HLL.out; have := HS.out; omega) 1 rfl rfl ?_; intro v4 w4 ht4 hb4)
      have hb04 := (hb.alloc hsz (.cells #[.int .u8 0] 5)).trans hb4
      obtain ⟨g4, cap4, rfl, _, _⟩ := ht4.lt
      clear ht1 hn1 hb4 hb
      go_wp2_with fail
      go_roundw
      case rel => exact ⟨j + 1, l ++ [0], by have := HLL.out; omega, HL.out, ht4, hb04⟩
      case measure => have := HLL.out; simp [sliceLen]; omega
end Go.Proofs.YtbfomeifhmkpeaaDoor
