/-
  The contract of mill's ready.
-/
import Derived.Test.YtlbdpadifhgloaaDoorMillPad
import Derived.Laws.Rows
namespace Go.Proofs.YtlbdpadifhgloaaDoor
open Go.RowKit
set_option linter.unusedVariables false

/-- A key made ready. -/
def Mill.kh (l : List Mill.En) (k : List UInt8) : List UInt8 := if Mill.keyed l then Sha.sum k else []
def secVal (a b c : List UInt8) : Value := .agg #[.string (S a), .string (S b), .string (S c)]
theorem zeroSec (W : World) : (zeroValue 61).run Tryd.prog W = .ok (.agg #[.string (S []), .string (S []), .string (S [])]) W := by kernel_rfl
theorem secSize : (Tryd.prog.info? 61).map (·.size) = some 3 := by kernel_rfl
def ReadyPost (w : World) (a b c : List UInt8) (e : Ending) (w' : World) : Prop := e = .returned (secVal a b c) ∧ Below w.heap.size w w'

set_option maxRecDepth 100000 in
set_option maxHeartbeats 2000000 in
theorem ready_11 (k : List UInt8) (g nb : Nat) (l : List Mill.En) (st : Mill.St) (w : World) (h : MillAt w g nb l st) (hk : k.length ≤ 5000000000000000) (hT : Tabs w) (hkd : Mill.keyed l = true) (hbig : 64 < k.length) :
    Calls Tryd.prog 34 #[.pointer (some ⟨g, 0, none⟩), .string (S k)] w (ReadyPost w (Mill.kh l k) (Mill.pad (Mill.key64 k) 0x36) (Mill.pad (Mill.key64 k) 0x5c)) := by
  obtain ⟨tv, hc, _⟩ := h
  have c1 : w.cell? ⟨g, 1, none⟩ = some (.bool (Mill.keyed l)) := hc.cell 1
  rw [hkd] at c1
  have hglt := hc.lt
  have hkh : Mill.kh l k = Sha.sum k := by unfold Mill.kh; rw [hkd]; rfl
  have h64 : Mill.key64 k = Sha.sum k := by unfold Mill.key64; rw [if_pos hbig]
  rw [hkh, h64]
  have hlen : (Sha.sum k).length ≤ 64 := by rw [Sha.sum_len]; omega
  have hz := zeroSec
  have HT := Lib.hid hT; clear hT
  clear hkh h64 hc hkd
  have hS := fun W (hTW : Tabs W) => sum_any k W hk hTW
  generalize Sha.sum k = sk at hS hlen ⊢
  have HS := Lib.hid hS; clear hS
  have HP1 := Lib.hid (fun W => padded_any sk 0x36 W hlen)
  have HP2 := Lib.hid (fun W => padded_any sk 0x5c W hlen)
  generalize Mill.pad sk 0x36 = pa at HP1 ⊢
  generalize Mill.pad sk 0x5c = pb at HP2 ⊢
  have hbig1 : (64 : Int) < (k.length : Int) := by omega
  clear hbig hlen hk
  go_enter Tryd.func34, Tryd.ntmps34
  go_upto_region 2 with (fail)
  have HZ := Lib.hid hz; clear hz
  generalize hW : World.alloc (World.alloc w _) _ = W
  have hb0 : Below w.heap.size w W := by rw [← hW]; exact ((Below.refl _ _).alloc (Nat.le_refl _) _).alloc (by simp) _
  have hh0 : Has W w.heap.size 61 #[.string (S []), .string (S []), .string (S [])] := by rw [← hW]; exact (Has.made _ _ _).of_alloc _
  have hh1 : Has W (w.heap.size + 1) 61 #[.string (S []), .string (S []), .string (S [])] := by
    have := Has.made (w.alloc (.cells #[.string (S []), .string (S []), .string (S [])] 61)) 61 #[.string (S []), .string (S []), .string (S [])]
    rw [← hW]; simpa using this
  have c1' : W.cell? ⟨g, 1, none⟩ = some (.bool true) := (hb0.cell (p := ⟨g, 1, none⟩) hglt).trans c1
  have hlt0 := hh1.lt
  clear hW c1
  go_wp2_with fail
  refine (HS.out W (HT.out.below hb0 HT.out.2.2)).mono ?_
  rintro r1 w1 ⟨rfl, hb1⟩
  have j0 := hh0.below hb1 (by omega)
  have j1 := hh1.below hb1 (by omega)
  have hb01 := hb0.trans (hb1.mono hb0.size)
  have d0 := j1.cell 0
  have g0 := j1.free 0
  go_upto_region 4 with (fail)
  generalize hW2 : World.setCell w1 _ _ = W2
  have k0 : Has W2 w.heap.size 61 #[.string (S []), .string (S []), .string (S [])] := by rw [← hW2]; exact j0.other (by simp) _
  have k1 : Has W2 (w.heap.size + 1) 61 #[.string (S sk), .string (S []), .string (S [])] := by rw [← hW2]; exact j1.set 0 _
  have hb2 : Below w.heap.size w W2 := by rw [← hW2]; exact hb01.setCell (by simp) _
  clear hW2 hb01 hb1 j0 j1 d0 g0 hh0 hh1 hb0 hlt0 c1'
  have hlt2 := k1.lt
  go_wp2_with fail
  refine (HS.out W2 (HT.out.below hb2 HT.out.2.2)).mono ?_
  rintro r3 w3 ⟨rfl, hb3⟩
  have m0 := k0.below hb3 (by omega)
  have m1 := k1.below hb3 (by omega)
  have hb03 := hb2.trans (hb3.mono hb2.size)
  have hlt3 := m1.lt
  clear k0 k1 hb2 hb3 hlt2
  go_wp2_with fail
  refine (HP1.out w3).mono ?_
  rintro r4 w4 ⟨rfl, hb4⟩
  go_wp2_with fail
  refine (HP2.out w4).mono ?_
  rintro r5 w5 ⟨rfl, hb5⟩
  have n0 := (m0.below hb4 (by omega)).below hb5 (by have := hb4.size; omega)
  have n1 := (m1.below hb4 (by omega)).below hb5 (by have := hb4.size; omega)
  have hb05 := (hb03.trans (hb4.mono hb03.size)).trans (hb5.mono (Nat.le_trans hb03.size hb4.size))
  clear m0 m1 hb4 hb5 hb03 hlt3
  have d0 := n1.cell 0
  have d1 := n1.cell 1
  have d2 := n1.cell 2
  have e0 := n0.cell 0
  have e1 := n0.cell 1
  have e2 := n0.cell 2
  have f1 := n1.free 1
  have f2 := n1.free 2
  have g0 := n0.free 0
  have g1 := n0.free 1
  have g2 := n0.free 2
  simp only [List.getElem?_toArray, List.getElem?_cons_zero, List.getElem?_cons_succ] at d0 d1 d2 e0 e1 e2
  have q0 := (((((n0.other (p := ⟨w.heap.size + 1, 1, none⟩) (by simp) (.string (S pa))).other (p := ⟨w.heap.size + 1, 2, none⟩) (by simp) (.string (S pb))).set 0 (.string (S sk))).set 1 (.string (S pa))).set 2 (.string (S pb)))
  have hB := ((((hb05.setCell (p := ⟨w.heap.size + 1, 1, none⟩) (by simp) (.string (S pa))).setCell (p := ⟨w.heap.size + 1, 2, none⟩) (by simp) (.string (S pb))).setCell (p := ⟨w.heap.size, 0, none⟩) (by simp) (.string (S sk))).setCell (p := ⟨w.heap.size, 1, none⟩) (by simp) (.string (S pa))).setCell (p := ⟨w.heap.size, 2, none⟩) (by simp) (.string (S pb))
  have HQ := Lib.hid q0
  have HB := Lib.hid hB
  clear q0 hB n0 n1 hb05
  go_wp2_with fail
  refine bodyPost_ret (v := secVal sk pa pb) ?res rfl ⟨rfl, HB.out⟩
  case res =>
    refine results_cell_row (ty := 61) (p := 4) rfl _ _ w.heap.size 61 #[.string (S sk), .string (S pa), .string (S pb)] (0, 0) _ ?_ ?_ Tryd.underlying61 rfl secSize
    · rfl
    · exact HQ.out

set_option maxRecDepth 100000 in
set_option maxHeartbeats 2000000 in
theorem ready_10 (k : List UInt8) (g nb : Nat) (l : List Mill.En) (st : Mill.St) (w : World) (h : MillAt w g nb l st) (hk : k.length ≤ 5000000000000000) (hT : Tabs w) (hkd : Mill.keyed l = true) (hbig : ¬ 64 < k.length) :
    Calls Tryd.prog 34 #[.pointer (some ⟨g, 0, none⟩), .string (S k)] w (ReadyPost w (Mill.kh l k) (Mill.pad (Mill.key64 k) 0x36) (Mill.pad (Mill.key64 k) 0x5c)) := by
  obtain ⟨tv, hc, _⟩ := h
  have c1 : w.cell? ⟨g, 1, none⟩ = some (.bool (Mill.keyed l)) := hc.cell 1
  rw [hkd] at c1
  have hglt := hc.lt
  have hkh : Mill.kh l k = Sha.sum k := by unfold Mill.kh; rw [hkd]; rfl
  have h64 : Mill.key64 k = k := by unfold Mill.key64; rw [if_neg hbig]
  rw [hkh, h64]
  have hlen : (k).length ≤ 64 := by omega
  have hz := zeroSec
  have HT := Lib.hid hT; clear hT
  clear hkh h64 hc hkd
  have hS := fun W (hTW : Tabs W) => sum_any k W hk hTW
  generalize Sha.sum k = sk at hS ⊢
  have HS := Lib.hid hS; clear hS
  have HP1 := Lib.hid (fun W => padded_any k 0x36 W hlen)
  have HP2 := Lib.hid (fun W => padded_any k 0x5c W hlen)
  generalize Mill.pad k 0x36 = pa at HP1 ⊢
  generalize Mill.pad k 0x5c = pb at HP2 ⊢
  have hbig1 : ¬ (64 : Int) < (k.length : Int) := by omega
  clear hbig hlen hk
  go_enter Tryd.func34, Tryd.ntmps34
  go_upto_region 2 with (fail)
  have HZ := Lib.hid hz; clear hz
  generalize hW : World.alloc (World.alloc w _) _ = W
  have hb0 : Below w.heap.size w W := by rw [← hW]; exact ((Below.refl _ _).alloc (Nat.le_refl _) _).alloc (by simp) _
  have hh0 : Has W w.heap.size 61 #[.string (S []), .string (S []), .string (S [])] := by rw [← hW]; exact (Has.made _ _ _).of_alloc _
  have hh1 : Has W (w.heap.size + 1) 61 #[.string (S []), .string (S []), .string (S [])] := by
    have := Has.made (w.alloc (.cells #[.string (S []), .string (S []), .string (S [])] 61)) 61 #[.string (S []), .string (S []), .string (S [])]
    rw [← hW]; simpa using this
  have c1' : W.cell? ⟨g, 1, none⟩ = some (.bool true) := (hb0.cell (p := ⟨g, 1, none⟩) hglt).trans c1
  have hlt0 := hh1.lt
  clear hW c1
  go_wp2_with fail
  refine (HS.out W (HT.out.below hb0 HT.out.2.2)).mono ?_
  rintro r1 w1 ⟨rfl, hb1⟩
  have j0 := hh0.below hb1 (by omega)
  have j1 := hh1.below hb1 (by omega)
  have hb01 := hb0.trans (hb1.mono hb0.size)
  have d0 := j1.cell 0
  have g0 := j1.free 0
  go_upto_region 4 with (fail)
  generalize hW2 : World.setCell w1 _ _ = W2
  have k0 : Has W2 w.heap.size 61 #[.string (S []), .string (S []), .string (S [])] := by rw [← hW2]; exact j0.other (by simp) _
  have k1 : Has W2 (w.heap.size + 1) 61 #[.string (S sk), .string (S []), .string (S [])] := by rw [← hW2]; exact j1.set 0 _
  have hb2 : Below w.heap.size w W2 := by rw [← hW2]; exact hb01.setCell (by simp) _
  clear hW2 hb01 hb1 j0 j1 d0 g0 hh0 hh1 hb0 hlt0 c1'
  have hlt2 := k1.lt
  obtain ⟨w3, hw3⟩ : ∃ w3, w3 = W2 := ⟨_, rfl⟩
  rw [← hw3] at k0 k1 hb2 hlt2 ⊢
  have m0 := k0
  have m1 := k1
  have hb03 := hb2
  have hlt3 := hlt2
  clear k0 k1 hb2 hlt2 hw3
  go_wp2_with fail
  refine (HP1.out w3).mono ?_
  rintro r4 w4 ⟨rfl, hb4⟩
  go_wp2_with fail
  refine (HP2.out w4).mono ?_
  rintro r5 w5 ⟨rfl, hb5⟩
  have n0 := (m0.below hb4 (by omega)).below hb5 (by have := hb4.size; omega)
  have n1 := (m1.below hb4 (by omega)).below hb5 (by have := hb4.size; omega)
  have hb05 := (hb03.trans (hb4.mono hb03.size)).trans (hb5.mono (Nat.le_trans hb03.size hb4.size))
  clear m0 m1 hb4 hb5 hb03 hlt3
  have d0 := n1.cell 0
  have d1 := n1.cell 1
  have d2 := n1.cell 2
  have e0 := n0.cell 0
  have e1 := n0.cell 1
  have e2 := n0.cell 2
  have f1 := n1.free 1
  have f2 := n1.free 2
  have g0 := n0.free 0
  have g1 := n0.free 1
  have g2 := n0.free 2
  simp only [List.getElem?_toArray, List.getElem?_cons_zero, List.getElem?_cons_succ] at d0 d1 d2 e0 e1 e2
  have q0 := (((((n0.other (p := ⟨w.heap.size + 1, 1, none⟩) (by simp) (.string (S pa))).other (p := ⟨w.heap.size + 1, 2, none⟩) (by simp) (.string (S pb))).set 0 (.string (S sk))).set 1 (.string (S pa))).set 2 (.string (S pb)))
  have hB := ((((hb05.setCell (p := ⟨w.heap.size + 1, 1, none⟩) (by simp) (.string (S pa))).setCell (p := ⟨w.heap.size + 1, 2, none⟩) (by simp) (.string (S pb))).setCell (p := ⟨w.heap.size, 0, none⟩) (by simp) (.string (S sk))).setCell (p := ⟨w.heap.size, 1, none⟩) (by simp) (.string (S pa))).setCell (p := ⟨w.heap.size, 2, none⟩) (by simp) (.string (S pb))
  have HQ := Lib.hid q0
  have HB := Lib.hid hB
  clear q0 hB n0 n1 hb05
  go_wp2_with fail
  refine bodyPost_ret (v := secVal sk pa pb) ?res rfl ⟨rfl, HB.out⟩
  case res =>
    refine results_cell_row (ty := 61) (p := 4) rfl _ _ w.heap.size 61 #[.string (S sk), .string (S pa), .string (S pb)] (0, 0) _ ?_ ?_ Tryd.underlying61 rfl secSize
    · rfl
    · exact HQ.out

set_option maxRecDepth 100000 in
set_option maxHeartbeats 2000000 in
theorem ready_01 (k : List UInt8) (g nb : Nat) (l : List Mill.En) (st : Mill.St) (w : World) (h : MillAt w g nb l st) (hk : k.length ≤ 5000000000000000) (hT : Tabs w) (hkd : Mill.keyed l = false) (hbig : 64 < k.length) :
    Calls Tryd.prog 34 #[.pointer (some ⟨g, 0, none⟩), .string (S k)] w (ReadyPost w (Mill.kh l k) (Mill.pad (Mill.key64 k) 0x36) (Mill.pad (Mill.key64 k) 0x5c)) := by
  obtain ⟨tv, hc, _⟩ := h
  have c1 : w.cell? ⟨g, 1, none⟩ = some (.bool (Mill.keyed l)) := hc.cell 1
  rw [hkd] at c1
  have hglt := hc.lt
  have hkh : Mill.kh l k = [] := by unfold Mill.kh; rw [hkd]; rfl
  have h64 : Mill.key64 k = Sha.sum k := by unfold Mill.key64; rw [if_pos hbig]
  rw [hkh, h64]
  have hlen : (Sha.sum k).length ≤ 64 := by rw [Sha.sum_len]; omega
  have hz := zeroSec
  have HT := Lib.hid hT; clear hT
  clear hkh h64 hc hkd
  have hS := fun W (hTW : Tabs W) => sum_any k W hk hTW
  generalize Sha.sum k = sk at hS hlen ⊢
  have HS := Lib.hid hS; clear hS
  have HP1 := Lib.hid (fun W => padded_any sk 0x36 W hlen)
  have HP2 := Lib.hid (fun W => padded_any sk 0x5c W hlen)
  generalize Mill.pad sk 0x36 = pa at HP1 ⊢
  generalize Mill.pad sk 0x5c = pb at HP2 ⊢
  have hbig1 : (64 : Int) < (k.length : Int) := by omega
  clear hbig hlen hk
  go_enter Tryd.func34, Tryd.ntmps34
  go_upto_region 2 with (fail)
  have HZ := Lib.hid hz; clear hz
  generalize hW : World.alloc (World.alloc w _) _ = W
  have hb0 : Below w.heap.size w W := by rw [← hW]; exact ((Below.refl _ _).alloc (Nat.le_refl _) _).alloc (by simp) _
  have hh0 : Has W w.heap.size 61 #[.string (S []), .string (S []), .string (S [])] := by rw [← hW]; exact (Has.made _ _ _).of_alloc _
  have hh1 : Has W (w.heap.size + 1) 61 #[.string (S []), .string (S []), .string (S [])] := by
    have := Has.made (w.alloc (.cells #[.string (S []), .string (S []), .string (S [])] 61)) 61 #[.string (S []), .string (S []), .string (S [])]
    rw [← hW]; simpa using this
  have c1' : W.cell? ⟨g, 1, none⟩ = some (.bool false) := (hb0.cell (p := ⟨g, 1, none⟩) hglt).trans c1
  have hlt0 := hh1.lt
  clear hW c1
  go_upto_region 4 with (fail)
  have k0 := hh0
  have k1 := hh1
  have hb2 := hb0
  have hlt2 := hlt0
  obtain ⟨W2, hW2⟩ : ∃ W2, W2 = W := ⟨_, rfl⟩
  rw [← hW2] at hb2 k0 k1 hlt2 ⊢
  clear hh0 hh1 hb0 hlt0 hW2 c1'
  go_wp2_with fail
  refine (HS.out W2 (HT.out.below hb2 HT.out.2.2)).mono ?_
  rintro r3 w3 ⟨rfl, hb3⟩
  have m0 := k0.below hb3 (by omega)
  have m1 := k1.below hb3 (by omega)
  have hb03 := hb2.trans (hb3.mono hb2.size)
  have hlt3 := m1.lt
  clear k0 k1 hb2 hb3 hlt2
  go_wp2_with fail
  refine (HP1.out w3).mono ?_
  rintro r4 w4 ⟨rfl, hb4⟩
  go_wp2_with fail
  refine (HP2.out w4).mono ?_
  rintro r5 w5 ⟨rfl, hb5⟩
  have n0 := (m0.below hb4 (by omega)).below hb5 (by have := hb4.size; omega)
  have n1 := (m1.below hb4 (by omega)).below hb5 (by have := hb4.size; omega)
  have hb05 := (hb03.trans (hb4.mono hb03.size)).trans (hb5.mono (Nat.le_trans hb03.size hb4.size))
  clear m0 m1 hb4 hb5 hb03 hlt3
  have d0 := n1.cell 0
  have d1 := n1.cell 1
  have d2 := n1.cell 2
  have e0 := n0.cell 0
  have e1 := n0.cell 1
  have e2 := n0.cell 2
  have f1 := n1.free 1
  have f2 := n1.free 2
  have g0 := n0.free 0
  have g1 := n0.free 1
  have g2 := n0.free 2
  simp only [List.getElem?_toArray, List.getElem?_cons_zero, List.getElem?_cons_succ] at d0 d1 d2 e0 e1 e2
  have q0 := (((((n0.other (p := ⟨w.heap.size + 1, 1, none⟩) (by simp) (.string (S pa))).other (p := ⟨w.heap.size + 1, 2, none⟩) (by simp) (.string (S pb))).set 0 (.string (S []))).set 1 (.string (S pa))).set 2 (.string (S pb)))
  have hB := ((((hb05.setCell (p := ⟨w.heap.size + 1, 1, none⟩) (by simp) (.string (S pa))).setCell (p := ⟨w.heap.size + 1, 2, none⟩) (by simp) (.string (S pb))).setCell (p := ⟨w.heap.size, 0, none⟩) (by simp) (.string (S []))).setCell (p := ⟨w.heap.size, 1, none⟩) (by simp) (.string (S pa))).setCell (p := ⟨w.heap.size, 2, none⟩) (by simp) (.string (S pb))
  have HQ := Lib.hid q0
  have HB := Lib.hid hB
  clear q0 hB n0 n1 hb05
  go_wp2_with fail
  refine bodyPost_ret (v := secVal [] pa pb) ?res rfl ⟨rfl, HB.out⟩
  case res =>
    refine results_cell_row (ty := 61) (p := 4) rfl _ _ w.heap.size 61 #[.string (S []), .string (S pa), .string (S pb)] (0, 0) _ ?_ ?_ Tryd.underlying61 rfl secSize
    · rfl
    · exact HQ.out

set_option maxRecDepth 100000 in
set_option maxHeartbeats 2000000 in
theorem ready_00 (k : List UInt8) (g nb : Nat) (l : List Mill.En) (st : Mill.St) (w : World) (h : MillAt w g nb l st) (hk : k.length ≤ 5000000000000000) (hT : Tabs w) (hkd : Mill.keyed l = false) (hbig : ¬ 64 < k.length) :
    Calls Tryd.prog 34 #[.pointer (some ⟨g, 0, none⟩), .string (S k)] w (ReadyPost w (Mill.kh l k) (Mill.pad (Mill.key64 k) 0x36) (Mill.pad (Mill.key64 k) 0x5c)) := by
  obtain ⟨tv, hc, _⟩ := h
  have c1 : w.cell? ⟨g, 1, none⟩ = some (.bool (Mill.keyed l)) := hc.cell 1
  rw [hkd] at c1
  have hglt := hc.lt
  have hkh : Mill.kh l k = [] := by unfold Mill.kh; rw [hkd]; rfl
  have h64 : Mill.key64 k = k := by unfold Mill.key64; rw [if_neg hbig]
  rw [hkh, h64]
  have hlen : (k).length ≤ 64 := by omega
  have hz := zeroSec
  have HT := Lib.hid hT; clear hT
  clear hkh h64 hc hkd
  have HP1 := Lib.hid (fun W => padded_any k 0x36 W hlen)
  have HP2 := Lib.hid (fun W => padded_any k 0x5c W hlen)
  generalize Mill.pad k 0x36 = pa at HP1 ⊢
  generalize Mill.pad k 0x5c = pb at HP2 ⊢
  have hbig1 : ¬ (64 : Int) < (k.length : Int) := by omega
  clear hbig hlen hk
  go_enter Tryd.func34, Tryd.ntmps34
  go_upto_region 2 with (fail)
  have HZ := Lib.hid hz; clear hz
  generalize hW : World.alloc (World.alloc w _) _ = W
  have hb0 : Below w.heap.size w W := by rw [← hW]; exact ((Below.refl _ _).alloc (Nat.le_refl _) _).alloc (by simp) _
  have hh0 : Has W w.heap.size 61 #[.string (S []), .string (S []), .string (S [])] := by rw [← hW]; exact (Has.made _ _ _).of_alloc _
  have hh1 : Has W (w.heap.size + 1) 61 #[.string (S []), .string (S []), .string (S [])] := by
    have := Has.made (w.alloc (.cells #[.string (S []), .string (S []), .string (S [])] 61)) 61 #[.string (S []), .string (S []), .string (S [])]
    rw [← hW]; simpa using this
  have c1' : W.cell? ⟨g, 1, none⟩ = some (.bool false) := (hb0.cell (p := ⟨g, 1, none⟩) hglt).trans c1
  have hlt0 := hh1.lt
  clear hW c1
  go_upto_region 4 with (fail)
  have k0 := hh0
  have k1 := hh1
  have hb2 := hb0
  have hlt2 := hlt0
  obtain ⟨W2, hW2⟩ : ∃ W2, W2 = W := ⟨_, rfl⟩
  rw [← hW2] at hb2 k0 k1 hlt2 ⊢
  clear hh0 hh1 hb0 hlt0 hW2 c1'
  obtain ⟨w3, hw3⟩ : ∃ w3, w3 = W2 := ⟨_, rfl⟩
  rw [← hw3] at k0 k1 hb2 hlt2 ⊢
  have m0 := k0
  have m1 := k1
  have hb03 := hb2
  have hlt3 := hlt2
  clear k0 k1 hb2 hlt2 hw3
  go_wp2_with fail
  refine (HP1.out w3).mono ?_
  rintro r4 w4 ⟨rfl, hb4⟩
  go_wp2_with fail
  refine (HP2.out w4).mono ?_
  rintro r5 w5 ⟨rfl, hb5⟩
  have n0 := (m0.below hb4 (by omega)).below hb5 (by have := hb4.size; omega)
  have n1 := (m1.below hb4 (by omega)).below hb5 (by have := hb4.size; omega)
  have hb05 := (hb03.trans (hb4.mono hb03.size)).trans (hb5.mono (Nat.le_trans hb03.size hb4.size))
  clear m0 m1 hb4 hb5 hb03 hlt3
  have d0 := n1.cell 0
  have d1 := n1.cell 1
  have d2 := n1.cell 2
  have e0 := n0.cell 0
  have e1 := n0.cell 1
  have e2 := n0.cell 2
  have f1 := n1.free 1
  have f2 := n1.free 2
  have g0 := n0.free 0
  have g1 := n0.free 1
  have g2 := n0.free 2
  simp only [List.getElem?_toArray, List.getElem?_cons_zero, List.getElem?_cons_succ] at d0 d1 d2 e0 e1 e2
  have q0 := (((((n0.other (p := ⟨w.heap.size + 1, 1, none⟩) (by simp) (.string (S pa))).other (p := ⟨w.heap.size + 1, 2, none⟩) (by simp) (.string (S pb))).set 0 (.string (S []))).set 1 (.string (S pa))).set 2 (.string (S pb)))
  have hB := ((((hb05.setCell (p := ⟨w.heap.size + 1, 1, none⟩) (by simp) (.string (S pa))).setCell (p := ⟨w.heap.size + 1, 2, none⟩) (by simp) (.string (S pb))).setCell (p := ⟨w.heap.size, 0, none⟩) (by simp) (.string (S []))).setCell (p := ⟨w.heap.size, 1, none⟩) (by simp) (.string (S pa))).setCell (p := ⟨w.heap.size, 2, none⟩) (by simp) (.string (S pb))
  have HQ := Lib.hid q0
  have HB := Lib.hid hB
  clear q0 hB n0 n1 hb05
  go_wp2_with fail
  refine bodyPost_ret (v := secVal [] pa pb) ?res rfl ⟨rfl, HB.out⟩
  case res =>
    refine results_cell_row (ty := 61) (p := 4) rfl _ _ w.heap.size 61 #[.string (S []), .string (S pa), .string (S pb)] (0, 0) _ ?_ ?_ Tryd.underlying61 rfl secSize
    · rfl
    · exact HQ.out

theorem ready_any (k : List UInt8) (g nb : Nat) (l : List Mill.En) (st : Mill.St) (w : World) (h : MillAt w g nb l st) (hk : k.length ≤ 5000000000000000) (hT : Tabs w) :
    Calls Tryd.prog 34 #[.pointer (some ⟨g, 0, none⟩), .string (S k)] w (ReadyPost w (Mill.kh l k) (Mill.pad (Mill.key64 k) 0x36) (Mill.pad (Mill.key64 k) 0x5c)) := by
  by_cases hbig : 64 < k.length
  · cases hkd : Mill.keyed l with
    | true => exact ready_11 k g nb l st w h hk hT hkd hbig
    | false => exact ready_01 k g nb l st w h hk hT hkd hbig
  · cases hkd : Mill.keyed l with
    | true => exact ready_10 k g nb l st w h hk hT hkd hbig
    | false => exact ready_00 k g nb l st w h hk hT hkd hbig
end Go.Proofs.YtlbdpadifhgloaaDoor
