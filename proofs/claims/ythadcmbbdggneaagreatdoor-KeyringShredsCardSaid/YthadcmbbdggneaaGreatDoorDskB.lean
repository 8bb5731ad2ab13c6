/-
  What becomes of a sector as the power falls: the program's after.
-/
import Derived.Test.YthadcmbbdggneaaGreatDoorDskAt
import Derived.Test.YthadcmbbdggneaaGreatDoorCopy
import Derived.Laws.CopyOwn
import Derived.Deep.RegionLaw
import Derived.Deep.Cut
namespace Go.Proofs.YthadcmbbdggneaaGreatDoor
open Go.RowKit
set_option linter.unusedVariables false

/-- A sector that lies in a block, handed back. -/
theorem ret_sec {fn : Func} {p : Tmp} {R : Ending → World → Prop} {a : Act} {w : World} (h : fn.results = #[.cell p 87]) (g : Nat) (cs : Array Value)
    (hp : a.tmps.getD p undef = .pointer (some ⟨g, 0, none⟩)) (hd : a.defers = []) (hh : Has w g 87 cs) (hcs : cs.size = 65) (hR : R (.returned (.agg cs)) w) : bodyPost Tryz.prog fn R .ret a w :=
  bodyPost_ret (v := .agg cs) (results_cell_row h _ _ g 87 cs (0, 0) _ hp hh Tryz.underlying87 rfl (by rw [hcs]; exact secSize)) hd hR
def AfterPost (w : World) (cs : Array Value) (e : Ending) (w' : World) : Prop := e = .returned (.agg cs) ∧ Below w.heap.size w w'

namespace Dsk
theorem fallOne_bit {f : Fall} {k : Nat} {s : Sec} {p : T × Nat} (hb : bit f k = true) : (fallOne f k s p).sure = p.1 ∧ (fallOne f k s p).at_ = p.2 := by
  unfold fallOne
  rw [hb]
  split
  · exact ⟨List.take_append_drop _ _, rfl⟩
  · exact ⟨rfl, rfl⟩
theorem fallOne_not {f : Fall} {k : Nat} {s : Sec} {p : T × Nat} (hb : bit f k = false) (ht : tears f k = false) : (fallOne f k s p).sure = s.sure ∧ (fallOne f k s p).at_ = s.at_ := by
  unfold fallOne
  rw [hb, ht]
  exact ⟨rfl, rfl⟩
theorem fallOne_tear {f : Fall} {k : Nat} {s : Sec} {p : T × Nat} (hb : bit f k = false) (ht : tears f k = true) : (fallOne f k s p).sure = p.1.take (cut f) ++ s.sure.drop (cut f) ∧ (fallOne f k s p).at_ = p.2 := by
  unfold fallOne
  rw [hb, ht]
  exact ⟨rfl, rfl⟩
end Dsk

theorem zeroSome : ∃ z : Array Value, (∀ W : World, (zeroValue 87).run Tryz.prog W = .ok (.agg z) W) ∧ z.size = 65 :=
  ⟨secV (List.replicate 64 0) 0, zeroSec, secV_size List.length_replicate⟩
theorem and_1 (x : Nat) (hx : x < 18446744073709551616) : bits .and .u64 (x : Int) 1 = ((x % 2 : Nat) : Int) := by
  have e1 : (BitVec.ofInt 64 (x : Int)).toNat = x := by
    rw [BitVec.ofInt_natCast, BitVec.toNat_ofNat]; exact Nat.mod_eq_of_lt (by omega)
  have e2 : (BitVec.ofInt 64 1).toNat = 2 ^ 1 - 1 := by decide
  show IntKind.u64.wrap ((BitVec.ofInt 64 (x : Int) &&& BitVec.ofInt 64 1).toNat : Int) = _
  rw [BitVec.toNat_and, e1, e2, Nat.and_two_pow_sub_one_eq_mod]
  show ((x % 2 ^ 1 : Nat) : Int) % 18446744073709551616 = _
  omega
theorem bit_eq {f : Dsk.Fall} (hf : Fok f) (k : Nat) : (bits .and .u64 ((f.keep : Int) / 2 ^ (k % 64)) 1 == 1) = Dsk.bit f k := by
  have hk := hf.1
  have e : (f.keep : Int) / 2 ^ (k % 64) = ((f.keep / 2 ^ (k % 64) : Nat) : Int) := by simp
  have hlt : f.keep / 2 ^ (k % 64) < 18446744073709551616 := Nat.lt_of_le_of_lt (Nat.div_le_self _ _) hk
  rw [e, and_1 _ hlt]
  unfold Dsk.bit
  rw [Bool.eq_iff_iff, beq_iff_eq, beq_iff_eq]
  omega
theorem u8size : (Tryz.prog.info? 5).map (·.size) = some 1 := by kernel_rfl
theorem splice_sec {s t : List UInt8} {a b m : Nat} (hs : s.length = 64) (ht : t.length = 64) (hm : m < 64) :
    splice (secVals s a) 0 (bcells (t.take m)) = secVals (t.take m ++ s.drop m) a := by
  have hl : (bcells (t.take m)).length = m := by rw [bcells_len, List.length_take]; omega
  unfold splice secVals
  rw [hl, List.take_zero, List.nil_append, Nat.zero_add]
  rw [List.drop_append_of_le_length (by rw [bcells_len]; omega), ← List.append_assoc]
  congr 1
  unfold bcells
  rw [List.map_append, List.map_drop]
theorem stamp_sec {s : List UInt8} {a b : Nat} (hs : s.length = 64) : (secV s a).setIfInBounds 64 (.int .i64 (b : Int)) = secV s b := by
  apply Array.ext'
  rw [Array.toList_setIfInBounds]
  show (secVals s a).set 64 _ = secVals s b
  unfold secVals
  rw [List.set_append_right _ _ (by rw [bcells_len]; omega), bcells_len, hs]
  rfl

set_option maxRecDepth 100000 in
set_option maxHeartbeats 2000000 in
theorem after_any (f : Dsk.Fall) (hf : Fok f) (k : Nat) (hk : k ≤ 1000000) (s p : Dsk.Sec) (tt : List UInt8) (b : Nat) (h1 : s.sure.length = 64) (h2 : tt.length = 64) (w : World) :
    Calls Tryz.prog 56 #[.agg #[.int .u64 (f.keep : Int), .int .i64 f.tear], .int .i64 (k : Int), .agg (secV s.sure s.at_), .agg (secV tt b)] w
      (AfterPost w (secV (Dsk.fallOne f k s (tt, b)).sure (Dsk.fallOne f k s (tt, b)).at_)) := by
  have hbit := bit_eq hf k
  have hc1 := fun h => Dsk.fallOne_bit (f := f) (k := k) (s := s) (p := (tt, b)) h
  have hc2 := fun h h' => Dsk.fallOne_not (f := f) (k := k) (s := s) (p := (tt, b)) h h'
  have hc3 := fun h h' => Dsk.fallOne_tear (f := f) (k := k) (s := s) (p := (tt, b)) h h'
  have htr : Dsk.tears f k = (decide (0 ≤ f.tear) && decide (f.tear / 64 = (k : Int))) := rfl
  have hcut : Dsk.cut f = (f.tear % 64).toNat := rfl
  generalize Dsk.fallOne f k s (tt, b) = x at hc1 hc2 hc3 ⊢
  generalize Dsk.bit f k = bt at hbit hc1 hc2 hc3
  generalize Dsk.tears f k = tr at htr hc2 hc3
  generalize Dsk.cut f = m at hcut hc3
  obtain ⟨a, t⟩ := f
  obtain ⟨hf1, hf2, hf3⟩ := hf
  obtain ⟨s, sa, _⟩ := s
  dsimp only at *
  have HP : Hid (secV x.sure x.at_ = secV x.sure x.at_) := rfl
  have hsz1 : (secV s sa).size = 65 := secV_size h1
  have hsz2 : (secV tt b).size = 65 := secV_size h2
  have hone1 := secV_one s sa
  have hone2 := secV_one tt b
  obtain ⟨A1, hA1⟩ : ∃ A1, secV s sa = A1 := ⟨_, rfl⟩
  obtain ⟨A2, hA2⟩ : ∃ A2, secV tt b = A2 := ⟨_, rfl⟩
  obtain ⟨A3, hA3⟩ : ∃ A3, secV x.sure x.at_ = A3 := ⟨_, rfl⟩
  rw [hA1] at hsz1 hone1 ⊢
  rw [hA2] at hsz2 hone2 ⊢
  rw [hA3]
  have H1 := Lib.hid hA1; clear hA1
  have H2 := Lib.hid hA2; clear hA2
  have H3 := Lib.hid hA3; clear hA3
  have HO1 := Lib.hid hone1; clear hone1
  have HO2 := Lib.hid hone2; clear hone2
  have HS1 := Lib.hid hsz1; clear hsz1
  have HS2 := Lib.hid hsz2; clear hsz2
  have HL1 := Lib.hid h1; clear h1
  have HL2 := Lib.hid h2; clear h2
  have HT := Lib.hid htr; clear htr
  have HC := Lib.hid hcut; clear hcut
  have HC1 : Hid _ := hc1; clear hc1
  have HC2 : Hid _ := hc2; clear hc2
  have HC3 : Hid _ := hc3; clear hc3
  clear HP
  obtain ⟨z, hz, hzs⟩ := zeroSome
  have HZS := Lib.hid hzs; clear hzs
  go_enter Tryz.func56, Tryz.ntmps56
  go_upto_region 1 with (fail)
  clear hz
  generalize hW : World.alloc (World.alloc (World.alloc (World.alloc w _) _) _) _ = W
  have hWs : W.heap.size = w.heap.size + 1 + 1 + 1 + 1 := by rw [← hW]; simp
  have n1 : Has W w.heap.size 36 #[.int .u64 (a : Int), .int .i64 t] := by rw [← hW]; exact (((Has.made w _ _).of_alloc _).of_alloc _).of_alloc _
  have n2 : Has W (w.heap.size + 1) 87 A1 := by
    rw [← hW]
    have h := (Has.made (w.alloc (.cells #[.int .u64 (a : Int), .int .i64 t] 36)) 87 A1)
    rw [asize] at h
    exact (h.of_alloc _).of_alloc _
  have n3 : Has W (w.heap.size + 1 + 1) 87 A2 := by
    rw [← hW]
    have h := (Has.made ((w.alloc (.cells #[.int .u64 (a : Int), .int .i64 t] 36)).alloc (.cells A1 87)) 87 A2)
    rw [asize, asize] at h
    exact h.of_alloc _
  have n4 : Has W (w.heap.size + 1 + 1 + 1) 87 z := by
    rw [← hW]
    have h := (Has.made (((w.alloc (.cells #[.int .u64 (a : Int), .int .i64 t] 36)).alloc (.cells A1 87)).alloc (.cells A2 87)) 87 z)
    rw [asize, asize, asize] at h
    exact h
  have hbl : Below w.heap.size w W := by rw [← hW]; exact (((((Below.refl _ _).alloc (Nat.le_refl _) _).alloc (by simp) _).alloc (by simp; omega) _).alloc (by simp; omega) _)
  clear hW
  have c0 : W.cell? ⟨w.heap.size, 0, none⟩ = some (.int .u64 (a : Int)) := n1.cell 0
  have c1 : W.cell? ⟨w.heap.size, 1, none⟩ = some (.int .i64 t) := n1.cell 1
  have HI1 : Hid ((Tryz.prog.info? 87).map (·.size) = some A1.size) := Lib.hid (by rw [HS1.out]; exact secSize)
  have HI2 : Hid ((Tryz.prog.info? 87).map (·.size) = some A2.size) := Lib.hid (by rw [HS2.out]; exact secSize)
  cases bt
  · by_cases h0 : t < 0
    · have hx := HC2.out rfl (by rw [HT.out, decide_eq_false (by omega), Bool.false_and])
      have HX : Hid (A3 = A1) := Lib.hid (by rw [← H3.out, hx.1, hx.2, H1.out])
      clear hx
      have hrow : Has (W.setRow (w.heap.size + 1 + 1 + 1) A1) (w.heap.size + 1 + 1 + 1) 87 A1 := setRow_heap W _ _ _ _ _ n4
      have HROW : Hid _ := hrow
      have HGR : Hid (Below w.heap.size w (W.setRow (w.heap.size + 1 + 1 + 1) A1)) := below_setRow hbl (by omega) A1
      clear hrow

      go_upto_region 3 with (fail)
      clear hbit c0
      go_upto_region 4 with (fail)
      refine wp_region_lit ?_
      refine wpList_load_row rfl 87 (.tmp 6) rfl (w.heap.size + 1) ?e1 _ _ _ _ n2 Tryz.underlying87 rfl HI1.out ?_
      case e1 => rfl
      refine wpList_store_row rfl 87 (.tmp 8) (.tmp 28) rfl (w.heap.size + 1 + 1 + 1) A1 ?e2 ?e3 _ _ n4 HI1.out (by rw [HZS.out, HS1.out]) HO1.out ?_
      case e2 => rfl
      case e3 => rfl
      go_wp2_with fail
      refine ret_sec rfl (w.heap.size + 1 + 1 + 1) A1 ?e4 rfl HROW.out HS1.out ⟨?_, HGR.out⟩
      case e4 => rfl
      rw [HX.out]
    · have h0' : 0 ≤ t := by omega
      by_cases hq : t / 64 = (k : Int)
      · have hx := HC3.out rfl (by rw [HT.out, decide_eq_true h0', decide_eq_true hq]; rfl)
        have hne : (t / 64 != (k : Int)) = false := by rw [bne_eq_false_iff_eq]; exact hq
        clear hq h0
        have hm : t % 64 = (m : Int) := by have := HC.out; omega
        have hml : m < 64 := by have := HC.out; omega
        have hm0 : (0 : Int) ≤ (m : Int) := by omega
        have hm64 : (m : Int) < 64 := by omega
        have HX := Lib.hid hx; clear hx
        have n2' : Hid (Has W (w.heap.size + 1) 87 A1.toList.toArray) := Lib.hid (by rw [Array.toArray_toList]; exact n2)
        obtain ⟨l1, hl1⟩ : ∃ l1, A1.toList = l1 := ⟨_, rfl⟩
        obtain ⟨src, hsrc⟩ : ∃ l, bcells (tt.take m) = l := ⟨_, rfl⟩
        rw [hl1] at n2'
        have HSRC : Hid (∀ (j : Nat) (v : Value), src[j]? = some v → W.cell? ((⟨w.heap.size + 1 + 1, 0, none⟩ : Addr).add j) = some v) := Lib.hid (by
          intro j v hv
          rw [Addr.add_mid, n3.cell, Nat.zero_add, ← H2.out, List.getElem?_toArray]
          rw [← hsrc] at hv
          unfold bcells at hv
          rw [List.map_take] at hv
          have hj : j < m := by
            have := (List.getElem?_eq_some_iff.1 hv).1
            rw [List.length_take] at this
            omega
          rw [List.getElem?_take, if_pos hj] at hv
          rw [secVals_byte (by rw [HL2.out]; omega)]
          exact hv)
        have HSN : Hid (src.length = m) := Lib.hid (by rw [← hsrc, bcells_len, List.length_take, HL2.out]; omega)
        have HFIT : Hid (0 + src.length ≤ l1.length) := Lib.hid (by rw [HSN.out, ← hl1, Array.length_toList, HS1.out]; omega)
        have HONE : Hid (∀ v ∈ src, v.oneCell' = true) := Lib.hid (by
          intro v hv
          rw [← hsrc] at hv
          unfold bcells at hv
          obtain ⟨c, _, rfl⟩ := List.mem_map.1 hv
          rfl)
        have HFIN : Hid ((splice l1 0 src).toArray.setIfInBounds 64 (.int .i64 (b : Int)) = A3) := Lib.hid (by
          rw [← hl1, ← hsrc, ← H1.out, ← H3.out, HX.out.1, HX.out.2]
          show (splice (secVals s sa) 0 (bcells (tt.take m))).toArray.setIfInBounds 64 _ = _
          rw [splice_sec (b := b) HL1.out HL2.out hml]
          refine stamp_sec ?_
          rw [List.length_append, List.length_take, List.length_drop, HL1.out, HL2.out]
          omega)
        have hst : W.cell? ⟨w.heap.size + 1 + 1, 64, none⟩ = some (.int .i64 (b : Int)) := by
          rw [n3.cell, ← H2.out, List.getElem?_toArray]
          exact secVals_stamp HL2.out
        have HST := Lib.hid hst; clear hst
        have HS3 : Hid (A3.size = 65) := Lib.hid (by rw [← H3.out, HX.out.1]; refine secV_size ?_; rw [List.length_append, List.length_take, List.length_drop, HL1.out, HL2.out]; omega)
        have HI3 : Hid ((Tryz.prog.info? 87).map (·.size) = some A3.size) := Lib.hid (by rw [HS3.out]; exact secSize)
        have HO3 : Hid (A3.all (·.oneCell') = true) := Lib.hid (by rw [← H3.out]; exact secV_one _ _)
        clear hl1 hsrc
        go_upto_region 3 with (fail)
        clear hbit c0
        go_upto_region 6 with (fail)
        try rw [hm]
        clear hne hm c1
        have hsl := fun (b : Nat) (W : World) => arr_to (P := Tryz.prog) Tryz.underlying85 Tryz.sizeOf5 (by decide) b m (by omega) W
        go_region_law (refine step_copy_only rfl (.tmp 34) (.tmp 37) 62 62 rfl 5 Tryz.underlying62 u8size (some ⟨w.heap.size + 1, 0, none⟩) (some ⟨w.heap.size + 1 + 1, 0, none⟩) m 64 m 64 (by simp [Act.eval, Act.put]) (by simp [Act.eval, Act.put]) (w.heap.size + 1) 0 l1 87 n2'.out src (by rw [HSN.out]; exact (Nat.min_self m).symm) (fun _ => ⟨rfl, _, rfl, HSRC.out⟩) HFIT.out HONE.out ?_; intro w2 HG2 hO2)
        have hO2' : Only W w2 (w.heap.size + 1) := ⟨hO2.os, hO2.tape, hO2.output, hO2.size, hO2.block⟩
        have hg2 := HG2.out
        have hl65 : (splice l1 0 src).length = 65 := by
          have := congrArg Array.size HFIN.out
          rw [Array.size_setIfInBounds, List.size_toArray, HS3.out] at this
          exact this
        have d1 : w2.cell? ⟨w.heap.size + 1 + 1, 64, none⟩ = some (.int .i64 (b : Int)) := (World.cell?_of_block (hO2'.block (w.heap.size + 1 + 1) (by omega) (by simp))).trans HST.out
        have n4' := hO2'.has n4 (by omega)
        have d2 : ∃ v, w2.cell? ⟨w.heap.size + 1, 64, none⟩ = some v := ⟨_, by rw [hg2.cell, Array.getElem?_eq_getElem (by rw [List.size_toArray, hl65]; decide)]⟩
        obtain ⟨v2, d2⟩ := d2
        have d3 : w2.frozen? ⟨w.heap.size + 1, 64, none⟩ = false := hg2.free _
        have hg3 : Has (w2.setCell ⟨w.heap.size + 1, 64, none⟩ (.int .i64 (b : Int))) (w.heap.size + 1) 87 A3 := by
          have h := hg2.set 64 (.int .i64 (b : Int))
          rw [HFIN.out] at h
          exact h
        have n5 := n4'.other (p := ⟨w.heap.size + 1, 64, none⟩) (by show w.heap.size + 1 + 1 + 1 ≠ w.heap.size + 1; omega) (.int .i64 (b : Int))
        have hb2 : Below w.heap.size w w2 := hO2'.below hbl (by omega) (by omega)
        have hb3 : Below w.heap.size w (w2.setCell ⟨w.heap.size + 1, 64, none⟩ (.int .i64 (b : Int))) := hb2.setCell (p := ⟨w.heap.size + 1, 64, none⟩) (by show w.heap.size ≤ w.heap.size + 1; omega) _
        have HR4 : Hid (Has ((w2.setCell ⟨w.heap.size + 1, 64, none⟩ (.int .i64 (b : Int))).setRow (w.heap.size + 1 + 1 + 1) A3) (w.heap.size + 1 + 1 + 1) 87 A3) := setRow_heap _ _ _ _ _ _ n5
        have HB4 : Hid (Below w.heap.size w ((w2.setCell ⟨w.heap.size + 1, 64, none⟩ (.int .i64 (b : Int))).setRow (w.heap.size + 1 + 1 + 1) A3)) := below_setRow hb3 (by omega) A3
        have HG3 : Hid _ := hg3
        have HN5 : Hid _ := n5
        clear hg3 n5 hb3 hb2 n4' hg2 hl65 HG2 hO2 hO2' hsl n1 n2 n3 n4 hbl HFIT HSN HSRC HONE n2' HX HST hWs
        go_upto_region 8 with (fail)
        refine wp_region_lit ?_
        refine wpList_load_row rfl 87 (.tmp 6) rfl (w.heap.size + 1) ?e1 _ _ _ _ HG3.out Tryz.underlying87 rfl HI3.out ?_
        case e1 => rfl
        refine wpList_store_row rfl 87 (.tmp 8) (.tmp 42) rfl (w.heap.size + 1 + 1 + 1) A3 ?e2 ?e3 _ _ HN5.out HI3.out (by rw [HZS.out, HS3.out]) HO3.out ?_
        case e2 => rfl
        case e3 => rfl
        go_wp2_with fail
        refine ret_sec rfl (w.heap.size + 1 + 1 + 1) A3 ?e4 rfl HR4.out HS3.out ⟨rfl, HB4.out⟩
        case e4 => rfl
      · have hx := HC2.out rfl (by rw [HT.out, decide_eq_false hq, Bool.and_false])
        have hne : (t / 64 != (k : Int)) = true := by rw [bne_iff_ne]; exact hq
        clear hq h0
        have HX : Hid (A3 = A1) := Lib.hid (by rw [← H3.out, hx.1, hx.2, H1.out])
        clear hx
        have hrow : Has (W.setRow (w.heap.size + 1 + 1 + 1) A1) (w.heap.size + 1 + 1 + 1) 87 A1 := setRow_heap W _ _ _ _ _ n4
        have HROW : Hid _ := hrow
        have HGR : Hid (Below w.heap.size w (W.setRow (w.heap.size + 1 + 1 + 1) A1)) := below_setRow hbl (by omega) A1
        clear hrow

        go_upto_region 3 with (fail)
        clear hbit c0
        go_upto_region 4 with (fail)
        refine wp_region_lit ?_
        refine wpList_load_row rfl 87 (.tmp 6) rfl (w.heap.size + 1) ?e1 _ _ _ _ n2 Tryz.underlying87 rfl HI1.out ?_
        case e1 => rfl
        refine wpList_store_row rfl 87 (.tmp 8) (.tmp 28) rfl (w.heap.size + 1 + 1 + 1) A1 ?e2 ?e3 _ _ n4 HI1.out (by rw [HZS.out, HS1.out]) HO1.out ?_
        case e2 => rfl
        case e3 => rfl
        go_wp2_with fail
        refine ret_sec rfl (w.heap.size + 1 + 1 + 1) A1 ?e4 rfl HROW.out HS1.out ⟨?_, HGR.out⟩
        case e4 => rfl
        rw [HX.out]
  · have hx := HC1.out rfl
    have HX : Hid (A3 = A2) := Lib.hid (by rw [← H3.out, hx.1, hx.2, H2.out])
    clear hx
    have hrow : Has (W.setRow (w.heap.size + 1 + 1 + 1) A2) (w.heap.size + 1 + 1 + 1) 87 A2 := setRow_heap W _ _ _ _ _ n4
    have HROW : Hid _ := hrow
    have HGR : Hid (Below w.heap.size w (W.setRow (w.heap.size + 1 + 1 + 1) A2)) := below_setRow hbl (by omega) A2
    clear hrow
    go_upto_region 2 with (fail)
    refine wp_region_lit ?_
    refine wpList_load_row rfl 87 (.tmp 7) rfl (w.heap.size + 1 + 1) ?e1 _ _ _ _ n3 Tryz.underlying87 rfl HI2.out ?_
    case e1 => rfl
    refine wpList_store_row rfl 87 (.tmp 8) (.tmp 17) rfl (w.heap.size + 1 + 1 + 1) A2 ?e2 ?e3 _ _ n4 HI2.out (by rw [HZS.out, HS2.out]) HO2.out ?_
    case e2 => rfl
    case e3 => rfl
    go_wp2_with fail
    refine ret_sec rfl (w.heap.size + 1 + 1 + 1) A2 ?e4 rfl HROW.out HS2.out ⟨?_, HGR.out⟩
    case e4 => rfl
    rw [HX.out]
end Go.Proofs.YthadcmbbdggneaaGreatDoor
