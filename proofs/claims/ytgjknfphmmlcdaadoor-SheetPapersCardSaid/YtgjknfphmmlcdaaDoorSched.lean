/-
  The contract of sha's schedule.
-/
import Derived.Test.YtgjknfphmmlcdaaDoorRot
import Derived.Test.YtgjknfphmmlcdaaDoorBytes
import Derived.Deep.RegionHeld3
import Derived.StillTailTactics
import Derived.Deep.DeepFit
import Derived.Laws.Rows
import Derived.Outline
import Derived.Deep.Cut
import Derived.Deep.DeepCutAuto
import Derived.Laws.CopyOwn
namespace Go.Proofs.YtgjknfphmmlcdaaDoor
open Go.RowKit
set_option linter.unusedVariables false

def wcells (l : List UInt32) : Array Value := (l.map fun x => Value.int .u32 (x.toNat : Int)).toArray
theorem wcells_set (l : List UInt32) (i : Nat) (x : UInt32) : (wcells l).setIfInBounds i (.int .u32 (x.toNat : Int)) = wcells (l.set i x) := by
  apply Array.ext'
  simp [wcells, List.map_set]
theorem wcells_get (l : List UInt32) (i : Nat) (h : i < l.length) : (wcells l)[i]? = some (.int .u32 ((l[i]'h).toNat : Int)) := by
  simp [wcells, h]

def sh8 (x : UInt32) (c : UInt8) : UInt32 := UInt32.ofNat (x.toNat * 256 % 4294967296 ||| c.toNat)
theorem w_sh8 (x : UInt32) (c : UInt8) : bits .or .u32 ((x.toNat : Int) * 256 % 4294967296) ((c.toNat : Int) % 4294967296) = ((sh8 x c).toNat : Int) := by
  have hc : ((c.toNat : Int) % 4294967296) = (c.toNat : Int) := by have := c.toNat_lt; omega
  rw [hc]
  have h2 : ((x.toNat : Int) * 256 % 4294967296) = ((x.toNat * 256 % 4294967296 : Nat) : Int) := by simp
  have b2 : x.toNat * 256 % 4294967296 < 4294967296 := Nat.mod_lt _ (by decide)
  have b1 : c.toNat < 4294967296 := Nat.lt_of_lt_of_le c.toNat_lt (by decide)
  rw [h2, u32_or_nat _ _ b2 b1, sh8, w_ofNat]
  exact Nat.or_lt_two_pow (n := 32) b2 b1

/-- The words after the first i bytes. -/
def sch1 (b : List UInt8) : Nat → List UInt32
  | 0 => List.replicate 64 0
  | i + 1 => (sch1 b i).set (i / 4) (sh8 ((sch1 b i).getD (i / 4) 0) (b.getD i 0))
theorem sch1_len (b : List UInt8) : ∀ i, (sch1 b i).length = 64
  | 0 => by simp [sch1]
  | i + 1 => by simp [sch1, sch1_len b i]


theorem size_alloc (w : World) (o : Obj) : (w.alloc o).heap.size = w.heap.size + 1 := by simp
theorem Only.drewN (w : World) (k g : Nat) : Only w (w.drewN k) g := ⟨rfl, rfl, rfl, Nat.le_refl _, fun _ _ _ => rfl⟩
theorem Only.drew (w : World) (g : Nat) : Only w w.drew g := ⟨rfl, rfl, rfl, Nat.le_refl _, fun _ _ _ => rfl⟩
/-- The next word of the second loop. -/
def nextw (l : List UInt32) (m : Nat) : UInt32 :=
  l.getD m 0 + (rotr (l.getD (m + 1) 0) 7 ^^^ rotr (l.getD (m + 1) 0) 18 ^^^ shr (l.getD (m + 1) 0) 3) + l.getD (m + 9) 0 + (rotr (l.getD (m + 14) 0) 17 ^^^ rotr (l.getD (m + 14) 0) 19 ^^^ shr (l.getD (m + 14) 0) 10)
theorem w_next (x0 x1 x9 x14 : UInt32) : (((((x0.toNat : Int) + bits .xor .u32 (bits .xor .u32 ((rotr x1 7).toNat : Int) ((rotr x1 18).toNat : Int)) ((x1.toNat : Int) / 8)) % 4294967296 + (x9.toNat : Int)) % 4294967296 +
    bits .xor .u32 (bits .xor .u32 ((rotr x14 17).toNat : Int) ((rotr x14 19).toNat : Int)) ((x14.toNat : Int) / 1024)) % 4294967296) =
    ((x0 + (rotr x1 7 ^^^ rotr x1 18 ^^^ shr x1 3) + x9 + (rotr x14 17 ^^^ rotr x14 19 ^^^ shr x14 10)).toNat : Int) := by
  rw [w_xor, w_xor, w_shr x1 3 8 rfl, w_shr x14 10 1024 rfl, w_xor, w_xor, w_add, w_add, w_add]
def sch2 (b : List UInt8) : Nat → List UInt32
  | 0 => sch1 b 64
  | m + 1 => (sch2 b m).set (m + 16) (nextw (sch2 b m) m)
theorem sch2_len (b : List UInt8) : ∀ m, (sch2 b m).length = 64
  | 0 => sch1_len b 64
  | m + 1 => by simp [sch2, sch2_len b m]
def sched (b : List UInt8) : List UInt32 := sch2 b 48
theorem w64info : (Tryd.prog.info? 127).map (·.size) = some 64 := by kernel_rfl
def SchedPost (w : World) (cs : Array Value) (e : Ending) (w' : World) : Prop := e = .returned (.agg cs) ∧ Below w.heap.size w w'
theorem wcells_one (l : List UInt32) : (wcells l).all (·.oneCell') = true := by
  simp [wcells, Value.oneCell']
theorem rot_lit (x : UInt32) (n : Int) (h0 : 0 ≤ n) (h1 : n < 32) (w : World) :
    Calls Tryd.prog 66 #[.int .u32 (x.toNat : Int), .int .i64 n] w (RotPost w x n.toNat) := by
  have h := rot_any x n.toNat (by omega) w
  rw [Int.toNat_of_nonneg h0] at h
  exact h
theorem getD_get (l : List UInt32) (i : Nat) (h : i < l.length) : l.getD i 0 = l[i]'h := by simp [List.getD, h]
theorem getD_get8 (l : List UInt8) (i : Nat) (h : i < l.length) : l.getD i 0 = l[i]'h := by simp [List.getD, h]

set_option maxRecDepth 100000 in
set_option maxHeartbeats 4000000 in
theorem sched_any (b : List UInt8) (hb : b.length = 64) (w : World) :
    Calls Tryd.prog 65 #[.agg (bcells b).toArray] w (SchedPost w (wcells (sched b))) := by
  have HLEN := Lib.hid (sch1_len b)
  have HB := Lib.hid hb; clear hb
  obtain ⟨cs, hcs⟩ : ∃ cs, wcells (sched b) = cs := ⟨_, rfl⟩
  rw [hcs]
  have HCS := Lib.hid hcs; clear hcs
  go_enter Tryd.func65, Tryd.ntmps65
  go_wp2_with fail
  obtain ⟨A, hA⟩ : ∃ A, (bcells b).toArray = A := ⟨_, rfl⟩
  rw [hA]
  have HA := Lib.hid hA; clear hA
  generalize hW : World.alloc (World.alloc (World.alloc w _) _) _ = W
  have hn1 : Has W w.heap.size 122 A := by rw [← hW]; exact ((Has.made w 122 A).of_alloc _).of_alloc _
  have hn2 : Has W (w.heap.size + 1) 127 (wcells (List.replicate 64 0)) := by
    rw [← hW]
    have h := (Has.made (w.alloc (.cells A 122)) 127 (wcells (List.replicate 64 0))).of_alloc (.cells (wcells (List.replicate 64 0)) 127)
    rw [size_alloc] at h
    exact h
  have hn3 : Has W (w.heap.size + 1 + 1) 127 (wcells (List.replicate 64 0)) := by
    rw [← hW]
    have h := (Has.made ((w.alloc (.cells A 122)).alloc (.cells (wcells (List.replicate 64 0)) 127)) 127 (wcells (List.replicate 64 0)))
    rw [size_alloc, size_alloc] at h
    exact h
  have hbl : Below w.heap.size w W := by rw [← hW]; exact ((((Below.refl _ _).alloc (Nat.le_refl _) _).alloc (by simp) _).alloc (by simp; omega) _)
  clear hW
  go_loopw [8] (fun v8 wr => ∃ k : Nat, k ≤ 64 ∧ v8 = .int .i64 k ∧ Has wr (w.heap.size + 1 + 1) 127 (wcells (sch1 b k)) ∧ Only W wr (w.heap.size + 1 + 1)) (fun v8 _ => 64 - (intOf v8).toNat)
  case atStart => exact ⟨0, Nat.zero_le _, rfl, hn3, Only.refl _ _⟩
  case round =>
    obtain ⟨k, hk, rfl, hhk, hok⟩ := hrel
    by_cases hlt : k < 64
    · have hk0 : (0 : Int) ≤ (k : Int) := by omega
      have hki : (k : Int) < 64 := by omega
      have hnx : sch1 b (k + 1) = (sch1 b k).set (k / 4) (sh8 ((sch1 b k).getD (k / 4) 0) (b.getD k 0)) := rfl
      obtain ⟨q, hq⟩ : ∃ q, k / 4 = q := ⟨_, rfl⟩
      rw [hq] at hnx
      have hqk : (k : Int) / 4 = (q : Int) := by omega
      have hq0 : (0 : Int) ≤ (q : Int) := by omega
      have hq64 : (q : Int) < 64 := by omega
      have hql : q < (sch1 b k).length := by rw [HLEN.out]; omega
      have hkl : k < b.length := by rw [HB.out]; omega
      have h1 : wr.cell? ⟨w.heap.size + 1 + 1, q, none⟩ = some (.int .u32 (((sch1 b k).getD q 0).toNat : Int)) := by
        rw [hhk.cell, getD_get _ _ hql]; exact wcells_get _ _ hql
      have hf1 := hhk.free q
      have h2 : wr.cell? ⟨w.heap.size, k, none⟩ = some (.int .u8 ((b.getD k 0).toNat : Int)) := by
        rw [(hok.has hn1 (by omega)).cell, ← HA.out, getD_get8 _ _ hkl]; simp [bcells, hkl]
      have h3 := hhk.set q (.int .u32 ((sh8 ((sch1 b k).getD q 0) (b.getD k 0)).toNat : Int))
      rw [wcells_set, ← hnx] at h3
      have hs8 := w_sh8 ((sch1 b k).getD q 0) (b.getD k 0)
      have H3 := Lib.hid h3; clear h3 hnx hql hkl hq
      generalize (sch1 b k).getD q 0 = x at h1 H3 hs8
      generalize b.getD k 0 = c at h2 H3 hs8
      have HS8 := Lib.hid hs8; clear hs8
      clear hhk
      go_wp2_with fail
      go_region
      all_goals
        go_wp2_with fail
        try rw [HS8.out]
        go_roundw
        case rel => exact ⟨k + 1, by omega, by go_num, H3.out, (hok.trans (Only.drew wr _)).trans (Only.set _ _ _ _)⟩
        case measure => simp [intOf]; omega
    · have hke : k = 64 := by omega
      have hki : ¬ (k : Int) < 64 := by omega
      rw [hke] at hhk
      have HKE := Lib.hid hke; clear hke hlt hk
      have HLEN2 := Lib.hid (sch2_len b)
      go_wp2_with fail
      clear HLEN
      go_loopw [5] (fun v5 w2 => ∃ m : Nat, m ≤ 48 ∧ v5 = .int .i64 (m + 16 : Nat) ∧ Has w2 (w.heap.size + 1 + 1) 127 (wcells (sch2 b m)) ∧ Only W w2 (w.heap.size + 1 + 1)) (fun v5 _ => 64 - (intOf v5).toNat)
      case atStart => exact ⟨0, Nat.zero_le _, rfl, hhk, hok⟩
      case round =>
        clear hhk hok
        obtain ⟨m, hm, rfl, hhm, hom⟩ := hrel
        by_cases hlt : m < 48
        · obtain ⟨i, hi⟩ : ∃ i, m + 16 = i := ⟨_, rfl⟩
          rw [hi]
          obtain ⟨m1, hm1⟩ : ∃ j, m + 1 = j := ⟨_, rfl⟩
          obtain ⟨m9, hm9⟩ : ∃ j, m + 9 = j := ⟨_, rfl⟩
          obtain ⟨m14, hm14⟩ : ∃ j, m + 14 = j := ⟨_, rfl⟩
          have hi64 : (i : Int) < 64 := by omega
          have hi0 : (16 : Int) ≤ (i : Int) := by omega
          have e16 : (i : Int) - 16 = (m : Int) := by omega
          have e15 : (i : Int) - 15 = (m1 : Int) := by omega
          have e7 : (i : Int) - 7 = (m9 : Int) := by omega
          have e2 : (i : Int) - 2 = (m14 : Int) := by omega
          have b16 : (m : Int) < 64 := by omega
          have b15 : (m1 : Int) < 64 := by omega
          have b7 : (m9 : Int) < 64 := by omega
          have b2 : (m14 : Int) < 64 := by omega
          have n16 : (0 : Int) ≤ (m : Int) := by omega
          have n15 : (0 : Int) ≤ (m1 : Int) := by omega
          have n7 : (0 : Int) ≤ (m9 : Int) := by omega
          have n2 : (0 : Int) ≤ (m14 : Int) := by omega
          have hcl : ∀ j, j < 64 → wr.cell? ⟨w.heap.size + 1 + 1, j, none⟩ = some (.int .u32 (((sch2 b m).getD j 0).toNat : Int)) := by
            intro j hj
            have hj' : j < (sch2 b m).length := by rw [HLEN2.out]; exact hj
            rw [hhm.cell, getD_get _ _ hj']; exact wcells_get _ _ hj'
          have c16 := hcl m (by omega)
          have c15 := hcl m1 (by omega)
          have c7 := hcl m9 (by omega)
          have c2 := hcl m14 (by omega)
          have ci := hcl i (by omega)
          generalize (sch2 b m).getD i 0 = xi at ci
          have hnx : sch2 b (m + 1) = (sch2 b m).set (m + 16) (nextw (sch2 b m) m) := rfl
          unfold nextw at hnx
          rw [hi, hm1, hm9, hm14] at hnx
          have h3 := fun u => hhm.set i (.int .u32 (u : UInt32).toNat)
          have hf := hhm.free i
          generalize (sch2 b m).getD m 0 = x0 at c16 hnx
          generalize (sch2 b m).getD m1 0 = x1 at c15 hnx
          generalize (sch2 b m).getD m9 0 = x9 at c7 hnx
          generalize (sch2 b m).getD m14 0 = x14 at c2 hnx
          have H3 := Lib.hid h3
          have HNX := Lib.hid hnx
          have HI := Lib.hid hi
          have HM := Lib.hid (And.intro hm1 (And.intro hm9 hm14))
          clear h3 hnx hi hm1 hm9 hm14 hcl hhm
          go_wp2_with fail
          go_quiet (fail)
          go_wp2_with fail
          replace c16 : (wr.drewN nq).cell? ⟨w.heap.size + 1 + 1, m, none⟩ = some (.int .u32 (x0.toNat : Int)) := c16
          replace c7 : (wr.drewN nq).cell? ⟨w.heap.size + 1 + 1, m9, none⟩ = some (.int .u32 (x9.toNat : Int)) := c7
          replace ci : (wr.drewN nq).cell? ⟨w.heap.size + 1 + 1, i, none⟩ = some (.int .u32 (xi.toNat : Int)) := ci
          replace hf : (wr.drewN nq).frozen? ⟨w.heap.size + 1 + 1, i, none⟩ = false := hf
          replace H3 : Hid (∀ u : UInt32, Has ((wr.drewN nq).setCell ⟨w.heap.size + 1 + 1, i, none⟩ (.int .u32 u.toNat)) (w.heap.size + 1 + 1) 127 ((wcells (sch2 b m)).setIfInBounds i (.int .u32 u.toNat))) := Lib.hid fun u => H3.out u
          replace hom : Only W (wr.drewN nq) (w.heap.size + 1 + 1) := ⟨hom.os, hom.tape, hom.output, hom.size, hom.block⟩
          clear c15 c2
          have ne1 : m ≠ i := by have := HI.out; omega
          have ne2 : i ≠ m := by omega
          have ne3 : m9 ≠ i := by have := HI.out; have := HM.out.2.1; omega
          have ne4 : i ≠ m9 := by omega
          have w16 : IntKind.i64.wrap ((i : Int) - 16) = (m : Int) := by rw [IntKind.wrap_i64]; omega
          have w7 : IntKind.i64.wrap ((i : Int) - 7) = (m9 : Int) := by rw [IntKind.wrap_i64]; omega
          clear e16 e15 e7 e2
          generalize wr.drewN nq = W0 at c16 c7 ci hf H3 hom ⊢
          go_region_held3 (fun w' => w'.cell? ⟨w.heap.size + 1 + 1, m, none⟩ = some (.int .u32 (x0.toNat : Int)) ∧ w'.cell? ⟨w.heap.size + 1 + 1, m9, none⟩ = some (.int .u32 (x9.toNat : Int))) (first | exact ⟨c16, c7⟩ | exact ⟨(set_other _ _ _ _ _ ne2).trans c16, (set_other _ _ _ _ _ ne4).trans c7⟩ | go_keep) (first
            | (go_at_call 66; refine (rot_lit _ _ (by omega) (by omega) _).mono ?_; rintro e w3 ⟨rfl, kd, rfl⟩))
          all_goals
            go_wp2_with fail
            rw [w_next]
            go_roundw
            case rel =>
              refine ⟨m1, by have := HM.out.1; omega, ?_, ?_, ?_⟩
              · rw [show m1 + 16 = i + 1 by (have := HI.out; have := HM.out.1; omega)]; go_num
              · rw [HNX.out, ← wcells_set]; exact H3.out _
              · exact hom.trans ((Only.drewN W0 _ _).trans (Only.set _ _ _ _))
            case measure => simp [intOf]; omega
        · have hme : m = 48 := by omega
          rw [hme] at hhm
          have hmi : ¬ ((m + 16 : Nat) : Int) < 64 := by omega
          have hsz : cs.size = 64 := by rw [← HCS.out]; simp [wcells, sched, HLEN2.out]
          replace hhm : Has wr (w.heap.size + 1 + 1) 127 cs := by rw [← HCS.out]; exact hhm
          have h1c : cs.all (·.oneCell') = true := by rw [← HCS.out]; exact wcells_one _
          have hn2' := hom.has hn2 (by omega)
          have hri : (Tryd.prog.info? 127).map (·.size) = some cs.size := by rw [hsz]; exact w64info
          have HRI := Lib.hid hri; clear hri
          have HSZ := Lib.hid hsz; clear hsz
          have H1C := Lib.hid h1c; clear h1c
          generalize hmm : m + 16 = mm at hmi ⊢
          clear hme hmm hm hlt
          have hgrow : Below w.heap.size w (wr.setRow (w.heap.size + 1) cs) := below_setRow (hom.below hbl hbl.size (by omega)) (by omega) cs
          have hrow : (wr.setRow (w.heap.size + 1) cs).heap[w.heap.size + 1]? = some (.cells cs 127 (0, 0)) := setRow_heap wr (w.heap.size + 1) _ cs _ _ hn2'
          have HGROW := Lib.hid hgrow
          have HROW := Lib.hid hrow
          clear hgrow hrow
          go_upto_region 12 with (fail)
          refine wp_region_lit ?_
          refine wpList_load_row rfl 127 (.tmp 3) rfl (w.heap.size + 1 + 1) ?e1 _ _ _ _ hhm Tryd.underlying127 rfl HRI.out ?_
          case e1 => rfl
          refine wpList_store_row rfl 127 (.tmp 2) (.tmp 66) rfl (w.heap.size + 1) cs ?e2 ?e3 _ _ hn2' HRI.out (by rw [HSZ.out]; simp [wcells]) H1C.out ?_
          case e2 => rfl
          case e3 => rfl
          go_wp2_with fail
          refine bodyPost_ret (v := .agg cs) ?res rfl ⟨rfl, HGROW.out⟩
          case res =>
            refine results_cell_row (ty := 127) (p := 2) rfl _ _ (w.heap.size + 1) 127 cs (0, 0) _ ?_ HROW.out Tryd.underlying127 rfl HRI.out
            rfl
end Go.Proofs.YtgjknfphmmlcdaaDoor
