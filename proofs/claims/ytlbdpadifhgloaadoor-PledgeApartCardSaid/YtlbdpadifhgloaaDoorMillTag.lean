/-
  The contracts of mill's tag and Tag.
-/
import Derived.Test.YtlbdpadifhgloaaDoorMillReady
import Derived.Deep.QuietTactic
import Derived.Deep.RegionHeld3
namespace Go.Proofs.YtlbdpadifhgloaaDoor
open Go.RowKit
set_option linter.unusedVariables false

/-- The tag by a key made ready. -/
def Mill.tagOf (l : List Mill.En) (kh pa pb s : List UInt8) : List UInt8 := (if Mill.keyed l then Mill.ask l (true, kh, s) else none).getD (Sha.sum (pb ++ Sha.sum (pa ++ s)))
theorem Mill.tagOf_ready (l : List Mill.En) (k s : List UInt8) : Mill.tagOf l (Mill.kh l k) (Mill.pad (Mill.key64 k) 0x36) (Mill.pad (Mill.key64 k) 0x5c) s = Mill.tag l k s := by
  unfold Mill.tagOf Mill.tag Mill.kh Mill.hmac
  cases h : Mill.keyed l with
  | true => rfl
  | false =>
    simp only [Bool.false_eq_true, if_false]
    rw [Mill.ask_untagged l h]

theorem Asks.look1 {w : World} {tv : Option Nat} {l : List Mill.En} (h : Asks w tv l) (i : Mill.In) (h1 : i.2.1.length ≤ maxLen) (h2 : i.2.2.length ≤ maxLen) (W : World) (hW : ∀ b, tv = some b → W.heap[b]? = w.heap[b]?) :
    (Instr.lookup 52 (.map tv) (inVal i) true).run Tryd.prog W = .ok (.tuple #[.agg #[.string (S ((Mill.ask l i).getD []))], .bool (Mill.ask l i).isSome]) W :=
  (h.keep hW).look i h1 h2

set_option maxRecDepth 100000 in
set_option maxHeartbeats 4000000 in
theorem tag_any (kh pa pb s : List UInt8) (g nb : Nat) (l : List Mill.En) (st : Mill.St) (w : World) (h : MillAt w g nb l st) (hkh : kh.length ≤ 64) (hpa : pa.length = 64) (hpb : pb.length = 64) (hs : s.length ≤ 4000000000000000) (hT : Tabs w) :
    Calls Tryd.prog 33 #[.pointer (some ⟨g, 0, none⟩), .agg #[.string (S kh), .string (S pa), .string (S pb)], .string (S s)] w (TextPost w (Mill.tagOf l kh pa pb s)) := by
  obtain ⟨tv, hc, ha, hn, hgn, hb, hl⟩ := h
  have hglt := hc.lt
  have c0 : w.cell? ⟨g, 0, none⟩ = some (.map tv) := hc.cell 0
  have c1 : w.cell? ⟨g, 1, none⟩ = some (.bool (Mill.keyed l)) := hc.cell 1
  have halt : ∀ b, tv = some b → b < w.heap.size := fun b hb => by subst hb; exact ha.lt
  have hk1 : (Instr.lookup 52 (.map tv) (.agg #[.bool true, .string (S kh), .string (S s)]) true).run Tryd.prog (w.alloc (.cells #[.string (S kh), .string (S pa), .string (S pb)] 61)).drew = _ :=
    ha.look1 (true, kh, s) (Nat.le_trans hkh (by decide)) (Nat.le_trans hs (by decide)) _ (fun b hb => Below.heap_alloc _ _ _ (halt b hb))
  have hk2 : (Instr.lookup 52 (.map tv) (.agg #[.bool true, .string (S kh), .string (S s)]) true).run Tryd.prog ((w.alloc (.cells #[.string (S kh), .string (S pa), .string (S pb)] 61)).alloc (.cells #[.string (S [])] 70)).drew = _ :=
    ha.look1 (true, kh, s) (Nat.le_trans hkh (by decide)) (Nat.le_trans hs (by decide)) _ (fun b hb => (Below.heap_alloc _ _ _ (show b < (w.alloc _).heap.size by have := halt b hb; simp; omega)).trans (Below.heap_alloc _ _ _ (halt b hb)))
  have hz := zeroOut
  unfold Mill.tagOf
  clear hc ha hn hb hl halt
  have hsum := fun (M : List UInt8) W (hM : M.length ≤ 5000000000000000) (hTW : Tabs W) => sum_any M W hM hTW
  have hsl := Sha.sum_len
  generalize Sha.sum = F at hsum hsl ⊢
  have hq1 : ¬ 9223372036854775807 < pa.length + s.length := by omega
  have hq2 : ¬ 9223372036854775807 < pb.length + (F (pa ++ s)).length := by rw [hsl]; omega
  have HS := Lib.hid hsum; clear hsum
  have HL := Lib.hid hsl; clear hsl
  have HP := Lib.hid (And.intro hpa (And.intro hpb hs)); clear hpa hpb hs hkh
  have HT := Lib.hid hT; clear hT
  cases hkd : Mill.keyed l with
  | true =>
    rw [hkd] at c1
    cases hm : Mill.ask l (true, kh, s) with
    | some o =>
      rw [hm] at hk1 hk2
      simp only [Option.getD_some, Option.isSome_some, if_true] at hk1 hk2 ⊢
      clear hm hkd hq1 hq2
      go_enter Tryd.func33, Tryd.ntmps33
      go_wp2_with fail
      go_region
      all_goals
        go_wp2_with fail
        go_ret
        exact ⟨rfl, (((Below.refl _ _).alloc (Nat.le_refl _) _).alloc (by simp) _).drew⟩
    | none =>
      rw [hm] at hk1 hk2
      simp only [Option.getD_none, Option.isSome_none, if_true] at hk1 hk2 ⊢
      clear hm hkd
      go_enter Tryd.func33, Tryd.ntmps33
      go_wp2_with fail
      go_region
      all_goals
        clear hk1 hk2 c0 c1 hz
        go_upto_region 5 with (fail)
        generalize hW : World.drew (World.alloc (World.alloc w _) _) = W
        have hb0 : Below w.heap.size w W := by rw [← hW]; exact (((Below.refl _ _).alloc (Nat.le_refl _) _).alloc (by simp) _).drew
        have HB : Has W w.heap.size 61 #[.string (S kh), .string (S pa), .string (S pb)] := by rw [← hW]; exact (Has.made _ _ _).of_alloc _
        have hblt := HB.lt
        clear hW hglt
        have hy1 : W.cell? ⟨w.heap.size, 1, none⟩ = some (.string (S pa)) := HB.cell 1
        have hy2 : W.cell? ⟨w.heap.size, 2, none⟩ = some (.string (S pb)) := HB.cell 2
        replace HB : Has W.drew w.heap.size 61 #[.string (S kh), .string (S pa), .string (S pb)] := HB
        replace hb0 : Below w.heap.size w W.drew := hb0.drew
        replace hblt : w.heap.size < W.drew.heap.size := hblt
        go_region_held3 (fun w' => w'.cell? ⟨w.heap.size, 1, none⟩ = some (.string (S pa)) ∧ w'.cell? ⟨w.heap.size, 2, none⟩ = some (.string (S pb))) (first | exact ⟨hy1, hy2⟩ | go_keep) (first | (go_at_call 39; refine (HS.out _ _ (by have := HP.out; simp only [List.length_append, HL.out]; omega) (HT.out.below hb0 HT.out.2.2)).mono ?_; rintro e w1 ⟨rfl, hb1⟩; have HB := HB.below hb1 hblt; have hb0 := hb0.trans (hb1.mono hb0.size); have hblt := Nat.lt_of_lt_of_le hblt hb1.size; have hy1 : w1.cell? ⟨w.heap.size, 1, none⟩ = some (.string (S pa)) := HB.cell 1; have hy2 : w1.cell? ⟨w.heap.size, 2, none⟩ = some (.string (S pb)) := HB.cell 2; clear hb1))
        go_wp2_with fail
        go_ret
        exact ⟨rfl, hb0⟩
  | false =>
    rw [hkd] at c1
    simp only [Bool.false_eq_true, if_false, Option.getD_none]
    clear hkd hk1 hk2 c0 hz
    go_enter Tryd.func33, Tryd.ntmps33
    go_upto_region 5 with (fail)
    generalize hW : World.alloc w _ = W
    have hb0 : Below w.heap.size w W := by rw [← hW]; exact (Below.refl _ _).alloc (Nat.le_refl _) _
    have HB : Has W w.heap.size 61 #[.string (S kh), .string (S pa), .string (S pb)] := by rw [← hW]; exact Has.made _ _ _
    have hblt := HB.lt
    clear hW hglt
    have hy1 : W.cell? ⟨w.heap.size, 1, none⟩ = some (.string (S pa)) := HB.cell 1
    have hy2 : W.cell? ⟨w.heap.size, 2, none⟩ = some (.string (S pb)) := HB.cell 2
    replace HB : Has W.drew w.heap.size 61 #[.string (S kh), .string (S pa), .string (S pb)] := HB
    replace hb0 : Below w.heap.size w W.drew := hb0.drew
    replace hblt : w.heap.size < W.drew.heap.size := hblt
    go_region_held3 (fun w' => w'.cell? ⟨w.heap.size, 1, none⟩ = some (.string (S pa)) ∧ w'.cell? ⟨w.heap.size, 2, none⟩ = some (.string (S pb))) (first | exact ⟨hy1, hy2⟩ | go_keep) (first | (go_at_call 39; refine (HS.out _ _ (by have := HP.out; simp only [List.length_append, HL.out]; omega) (HT.out.below hb0 HT.out.2.2)).mono ?_; rintro e w1 ⟨rfl, hb1⟩; have HB := HB.below hb1 hblt; have hb0 := hb0.trans (hb1.mono hb0.size); have hblt := Nat.lt_of_lt_of_le hblt hb1.size; have hy1 : w1.cell? ⟨w.heap.size, 1, none⟩ = some (.string (S pa)) := HB.cell 1; have hy2 : w1.cell? ⟨w.heap.size, 2, none⟩ = some (.string (S pb)) := HB.cell 2; clear hb1))
    go_wp2_with fail
    go_ret
    exact ⟨rfl, hb0⟩

theorem pad_length (l : List Mill.En) (k : List UInt8) : (Mill.kh l k).length ≤ 64 ∧ (Mill.pad (Mill.key64 k) 0x36).length = 64 ∧ (Mill.pad (Mill.key64 k) 0x5c).length = 64 := by
  refine ⟨?_, Mill.pad_len _ _ (Mill.key64_len k), Mill.pad_len _ _ (Mill.key64_len k)⟩
  unfold Mill.kh
  split
  · rw [Sha.sum_len]; omega
  · exact Nat.zero_le _

set_option maxHeartbeats 2000000 in
theorem millTag_any (k s : List UInt8) (g nb : Nat) (l : List Mill.En) (st : Mill.St) (w : World) (h : MillAt w g nb l st) (hk : k.length ≤ 5000000000000000) (hs : s.length ≤ 4000000000000000) (hT : Tabs w) :
    Calls Tryd.prog 19 #[.pointer (some ⟨g, 0, none⟩), .string (S k), .string (S s)] w (TextPost w (Mill.tag l k s)) := by
  obtain ⟨tv, hc, _⟩ := id h
  have HW := Lib.hid (works_is g true w (hc.cell 8))
  clear hc
  have HR := Lib.hid (ready_any k g nb l st w h hk hT)
  have hpl := pad_length l k
  rw [← Mill.tagOf_ready]
  generalize Mill.kh l k = kh at HR hpl ⊢
  generalize Mill.pad (Mill.key64 k) 0x36 = pa at HR hpl ⊢
  generalize Mill.pad (Mill.key64 k) 0x5c = pb at HR hpl ⊢
  have HG : Hid (∀ W, Below w.heap.size w W → Calls Tryd.prog 33 #[.pointer (some ⟨g, 0, none⟩), .agg #[.string (S kh), .string (S pa), .string (S pb)], .string (S s)] W (TextPost W (Mill.tagOf l kh pa pb s))) :=
    fun W hb => tag_any kh pa pb s g nb l st W (h.below hb) hpl.1 hpl.2.1 hpl.2.2 hs (hT.below hb hT.2.2)
  generalize Mill.tagOf l kh pa pb s = out at HG ⊢
  clear h hpl hT hk hs
  go_enter Tryd.func19, Tryd.ntmps19
  go_wp2_with fail
  refine HW.out.mono ?_
  rintro r1 w1 ⟨rfl, rfl⟩
  go_wp2_with fail
  refine HR.out.mono ?_
  rintro r2 w2 ⟨rfl, hb2⟩
  unfold secVal
  go_wp2_with fail
  refine (HG.out w2 hb2).mono ?_
  rintro r3 w3 ⟨rfl, hb3⟩
  go_wp2_with fail
  go_ret
  exact ⟨rfl, hb2.trans (hb3.mono hb2.size)⟩
end Go.Proofs.YtlbdpadifhgloaaDoor
