/-
  The contract of sha's mixed.
-/
import Derived.Test.YtgjknfphmmlcdaaDoorSched
import Derived.Test.YtgjknfphmmlcdaaDoorMixSpec
namespace Go.Proofs.YtgjknfphmmlcdaaDoor
open Go.RowKit
set_option linter.unusedVariables false

/-- The two tables lie in the program's first two blocks. -/
def Tab (ks : List UInt32) (w : World) : Prop := ∀ i, i < 64 → w.cell? ⟨1, i, none⟩ = some (.int .u32 ((ks.getD i 0).toNat : Int))
theorem Tab.below {ks : List UInt32} {w w' : World} {B : Nat} (h : Tab ks w) (hb : Below B w w') (hB : 2 ≤ B) : Tab ks w' := fun i hi => (hb.cell (p := ⟨1, i, none⟩) (show 1 < B by omega)).trans (h i hi)

theorem below_drewN {B : Nat} {w w' : World} (h : Below B w w') (k : Nat) : Below B w (w'.drewN k) := h.trans ⟨rfl, rfl, rfl, Nat.le_refl _, fun _ _ => rfl⟩
theorem w32size : (Tryd.prog.info? 116).map (·.size) = some 1 := by kernel_rfl
def MixPost (w : World) (cs : Array Value) (e : Ending) (w' : World) : Prop := e = .returned (.agg cs) ∧ Below w.heap.size w w'

set_option maxRecDepth 100000 in
set_option maxHeartbeats 8000000 in
theorem mix_any (s0 : S8) (b ks : List UInt8) (kl : List UInt32) (hb : b.length = 64) (w : World) (hT : Tab kl w) (h2 : 2 ≤ w.heap.size) :
    Calls Tryd.prog 61 #[.agg (wcells s0.toList), .agg (bcells b).toArray] w (MixPost w (wcells ((s0.rounds kl (sched b) 64).add s0).toList)) := by
  have hS := fun W => sched_any b hb W
  have hslen : (sched b).length = 64 := sch2_len b 48
  obtain ⟨cs, hcs⟩ : ∃ cs, wcells ((s0.rounds kl (sched b) 64).add s0).toList = cs := ⟨_, rfl⟩
  rw [hcs]
  generalize sched b = sl at hS hslen hcs
  have HCS := Lib.hid hcs; clear hcs
  have HS := Lib.hid hS; clear hS
  have HSL := Lib.hid hslen; clear hslen
  obtain ⟨A8, hA8⟩ : ∃ A, wcells s0.toList = A := ⟨_, rfl⟩
  obtain ⟨AB, hAB⟩ : ∃ A, (bcells b).toArray = A := ⟨_, rfl⟩
  have hsz8 : A8.size = 8 := by rw [← hA8]; rfl
  have hszB : AB.size = 64 := by rw [← hAB]; simp [bcells, hb]
  rw [hA8, hAB]
  rw [hAB] at HS
  have HA8 := Lib.hid (And.intro hA8 hsz8); clear hA8 hsz8
  have HAB := Lib.hid (And.intro hAB hszB); clear hAB hszB hb
  go_enter Tryd.func61, Tryd.ntmps61
  go_upto_region 1 with (fail)
  generalize hW : World.alloc (World.alloc (World.alloc w _) _) _ = W
  have n0 : Has W w.heap.size 121 A8 := by rw [← hW]; exact ((Has.made w _ A8).of_alloc _).of_alloc _
  have n1 : Has W (w.heap.size + 1) 122 AB := by
    rw [← hW]
    have h := (Has.made (w.alloc (.cells A8 121)) 122 AB).of_alloc (.cells (wcells (List.replicate 8 0)) 121)
    rw [size_alloc] at h
    exact h
  have n2 : Has W (w.heap.size + 1 + 1) 121 (wcells (List.replicate 8 0)) := by
    rw [← hW]
    have h := (Has.made ((w.alloc (.cells A8 121)).alloc (.cells AB 122)) 121 (wcells (List.replicate 8 0)))
    rw [size_alloc, size_alloc] at h
    exact h
  have hbl : Below w.heap.size w W := by rw [← hW]; exact ((((Below.refl _ _).alloc (Nat.le_refl _) _).alloc (by simp) _).alloc (by simp; omega) _)
  have hsz : W.heap.size = w.heap.size + 3 := by rw [← hW]; simp
  clear hW
  have HSZ := Lib.hid hsz; clear hsz
  refine wp_region_lit ?_
  have hri1 : (Tryd.prog.info? 122).map (·.size) = some AB.size := by rw [HAB.out.2]; kernel_rfl
  refine wpList_load_row rfl 122 (.tmp 3) rfl (w.heap.size + 1) ?e1 _ _ _ _ n1 Tryd.underlying122 rfl hri1 ?_
  case e1 => rfl
  clear hri1
  go_wp2_with fail
  refine (HS.out _).mono ?_
  rintro e w1 ⟨rfl, hb1⟩
  have hri2 : (Tryd.prog.info? 127).map (·.size) = some (wcells sl).size := by rw [w64info]; simp [wcells, HSL.out]
  have HRI2 := Lib.hid hri2; clear hri2
  have hs64 : (wcells sl).size = 64 := by simp [wcells, HSL.out]
  have HS64 := Lib.hid hs64; clear hs64
  go_upto_region 2 with (first
    | (refine wpList_store_row rfl 127 (.tmp 5) (.tmp 19) rfl _ (wcells sl) ?e2 ?e3 _ _ (heap_alloc_new _ _) HRI2.out ?e4 (wcells_one sl) ?_; (case e2 => rfl); (case e3 => rfl); (case e4 => rw [HS64.out]; rfl)))
  have hw1 : w.heap.size + 3 ≤ w1.heap.size := by have := hb1.size; have := HSZ.out; omega
  have hb01 := hbl.trans (hb1.mono (by have := HSZ.out; omega))
  have n0' := n0.below hb1 (by have := HSZ.out; omega)
  have n2' := n2.below hb1 (by have := HSZ.out; omega)
  clear n0 n1 n2 hbl hb1
  generalize hW2 : World.setRow (World.alloc w1 _) w1.heap.size (wcells sl) = W2
  have m0 : Has W2 w.heap.size 121 A8 := by rw [← hW2]; exact (setRow_other _ _ _ _ (by omega)).trans (n0'.of_alloc _)
  have m2 : Has W2 (w.heap.size + 1 + 1) 121 (wcells (List.replicate 8 0)) := by rw [← hW2]; exact (setRow_other _ _ _ _ (by omega)).trans (n2'.of_alloc _)
  have ms : Has W2 w1.heap.size 127 (wcells sl) := by rw [← hW2]; exact setRow_heap _ _ _ _ _ _ (heap_alloc_new _ _)
  have hsz2 : W2.heap.size = w1.heap.size + 1 := by rw [← hW2]; simp
  have hb2 : Below w.heap.size w W2 := by rw [← hW2]; exact below_setRow (hb01.alloc (by omega) _) (by omega) _
  clear hW2 n0' n2' hb01
  have HSZ2 := Lib.hid hsz2; clear hsz2
  have hri3 : (Tryd.prog.info? 121).map (·.size) = some A8.size := by rw [HA8.out.2]; kernel_rfl
  have HRI3 := Lib.hid hri3; clear hri3
  have h18 : A8.all (·.oneCell') = true := by rw [← HA8.out.1]; exact wcells_one _
  have H18 := Lib.hid h18; clear h18
  refine wp_region_lit ?_
  refine wpList_load_row rfl 121 (.tmp 2) rfl w.heap.size ?e5 _ _ _ _ m0 Tryd.underlying121 rfl HRI3.out ?_
  case e5 => rfl
  go_upto_region 4 with (first
    | (refine wpList_store_row rfl 121 (.tmp 6) (.tmp 20) rfl _ A8 ?e6 ?e7 _ _ (heap_alloc_new _ _) HRI3.out ?e8 H18.out ?_; (case e6 => rfl); (case e7 => rfl); (case e8 => rw [HA8.out.2]; rfl)))
  generalize hW3 : World.setRow (World.alloc W2 _) W2.heap.size A8 = W3
  have k0 : Has W3 w.heap.size 121 A8 := by rw [← hW3]; exact (setRow_other _ _ _ _ (by have := HSZ2.out; omega)).trans (m0.of_alloc _)
  have k2 : Has W3 (w.heap.size + 1 + 1) 121 (wcells (List.replicate 8 0)) := by rw [← hW3]; exact (setRow_other _ _ _ _ (by have := HSZ2.out; omega)).trans (m2.of_alloc _)
  have ks : Has W3 w1.heap.size 127 (wcells sl) := by rw [← hW3]; exact (setRow_other _ _ _ _ (by have := HSZ2.out; omega)).trans (ms.of_alloc _)
  have kx : Has W3 W2.heap.size 121 A8 := by rw [← hW3]; exact setRow_heap _ _ _ _ _ _ (heap_alloc_new _ _)
  have hb3 : Below w.heap.size w W3 := by rw [← hW3]; exact below_setRow (hb2.alloc (by have := HSZ2.out; omega) _) (by have := HSZ2.out; omega) _
  have hg : W2.heap.size = w1.heap.size + 1 := HSZ2.out
  clear hW3 m0 m2 ms hb2 HSZ2 HSZ
  obtain ⟨gw, hgw⟩ : ∃ g, w1.heap.size = g := ⟨_, rfl⟩
  obtain ⟨gx, hgx⟩ : ∃ g, W2.heap.size = g := ⟨_, rfl⟩
  rw [hgw] at ks hg hw1
  rw [hgx] at kx hg
  rw [hgw, hgx]
  clear hgw hgx
  have hne1 : gw ≠ gx := by omega
  have HG := Lib.hid hg; clear hg
  have HT : Tab kl W3 := hT.below hb3 h2
  rw [← HA8.out.1] at kx
  go_loopw [21] (fun v21 wr => ∃ k : Nat, k ≤ 64 ∧ v21 = .int .i64 k ∧ Has wr gx 121 (wcells (s0.rounds kl sl k).toList) ∧ Below gx W3 wr) (fun v21 _ => 64 - (intOf v21).toNat)
  case atStart => exact ⟨0, Nat.zero_le _, rfl, kx, Below.refl _ _⟩
  case round =>
    obtain ⟨k, hk, rfl, hhk, hok⟩ := hrel
    by_cases hlt : k < 64
    · have hk0 : (0 : Int) ≤ (k : Int) := by omega
      have hki : (k : Int) < 64 := by omega
      have hnx : s0.rounds kl sl (k + 1) = (s0.rounds kl sl k).round (kl.getD k 0) (sl.getD k 0) := rfl
      have hsl : k < sl.length := by rw [HSL.out]; exact hlt
      have hcw : wr.cell? ⟨gw, k, none⟩ = some (.int .u32 ((sl.getD k 0).toNat : Int)) := by
        rw [(ks.below hok (by have := HG.out; omega)).cell, getD_get _ _ hsl]; exact wcells_get _ _ hsl
      have hck : wr.cell? ⟨1, k, none⟩ = some (.int .u32 ((kl.getD k 0).toNat : Int)) :=
        (hok.cell (p := ⟨1, k, none⟩) (show 1 < gx by have := HG.out; omega)).trans (HT k hlt)
      generalize s0.rounds kl sl k = sk at hhk hnx
      generalize kl.getD k 0 = kk at hck hnx
      generalize sl.getD k 0 = ww at hcw hnx
      obtain ⟨a, b1, c, d, e, f, g, h⟩ := sk
      have c0 : wr.cell? ⟨gx, 0, none⟩ = some (.int .u32 (a.toNat : Int)) := hhk.cell 0
      have c1 : wr.cell? ⟨gx, 1, none⟩ = some (.int .u32 (b1.toNat : Int)) := hhk.cell 1
      have c2 : wr.cell? ⟨gx, 2, none⟩ = some (.int .u32 (c.toNat : Int)) := hhk.cell 2
      have c4 : wr.cell? ⟨gx, 4, none⟩ = some (.int .u32 (e.toNat : Int)) := hhk.cell 4
      have c5 : wr.cell? ⟨gx, 5, none⟩ = some (.int .u32 (f.toNat : Int)) := hhk.cell 5
      have c6 : wr.cell? ⟨gx, 6, none⟩ = some (.int .u32 (g.toNat : Int)) := hhk.cell 6
      have c7 : wr.cell? ⟨gx, 7, none⟩ = some (.int .u32 (h.toNat : Int)) := hhk.cell 7
      have HNX := Lib.hid hnx; clear hnx
      clear hsl
      go_upto_region 6 with (fail)
      go_quiet (fail)
      go_upto_region 7 with (fail)
      replace hck : (wr.drewN nq).cell? ⟨1, k, none⟩ = some (.int .u32 (kk.toNat : Int)) := hck
      replace hcw : (wr.drewN nq).cell? ⟨gw, k, none⟩ = some (.int .u32 (ww.toNat : Int)) := hcw
      replace hhk : Has (wr.drewN nq) gx 121 (wcells (S8.mk a b1 c d e f g h).toList) := hhk
      replace hok : Below gx W3 (wr.drewN nq) := below_drewN hok nq
      clear c0 c1 c2 c4 c5 c6 c7
      generalize wr.drewN nq = W4 at hck hcw hhk hok ⊢
      go_quiet ((go_at_call 66; exact Calls.quiet_of (rot_lit _ _ (by omega) (by omega) _)))
      go_upto_region 9 with (go_at_call 66; refine (rot_lit _ _ (by omega) (by omega) _).mono ?_; rintro r5 w5 ⟨rfl, kd, rfl⟩)
      generalize hW5 : W4.drewN _ = W5
      replace hok : Below gx W3 W5 := by rw [← hW5]; exact below_drewN hok _
      replace hhk : Has W5 gx 121 (wcells (S8.mk a b1 c d e f g h).toList) := by rw [← hW5]; exact hhk
      clear hW5 hck hcw
      rw [w_t1 a b1 c d e f g h kk ww, w_t2 a b1 c d e f g h]
      generalize hT1 : (S8.mk a b1 c d e f g h).t1 kk ww = T1
      generalize hT2 : (S8.mk a b1 c d e f g h).t2 = T2
      have HT1 := Lib.hid hT1; clear hT1
      have HT2 := Lib.hid hT2; clear hT2
      obtain ⟨cur, hcur⟩ : ∃ cur : List Value, (S8.mk a b1 c d e f g h).toList.map (fun x => Value.int .u32 (x.toNat : Int)) = cur := ⟨_, rfl⟩
      obtain ⟨src, hsrc⟩ : ∃ src : List Value, [a, b1, c, d, e, f, g].map (fun x => Value.int .u32 (x.toNat : Int)) = src := ⟨_, rfl⟩
      have hg1 : W5.heap[gx]? = some (.cells cur.toArray 121 (0, 0)) := by rw [← hcur]; exact hhk
      have hs1 : ∀ W' : World, W'.heap[gx]? = some (.cells cur.toArray 121 (0, 0)) → ∀ j v, src[j]? = some v → W'.cell? ((⟨gx, 0, none⟩ : Addr).add j) = some v := by
        intro W' hW' j v hv
        rw [show (⟨gx, 0, none⟩ : Addr).add j = ⟨gx, j, none⟩ by unfold Addr.add; split <;> simp_all]
        rw [Has.cell hW', ← hcur]
        rw [← hsrc] at hv
        have hj : j < 7 := by have := (List.getElem?_eq_some_iff.1 hv).1; simpa using this
        match j, hj with
        | 0, _ | 1, _ | 2, _ | 3, _ | 4, _ | 5, _ | 6, _ => exact hv
      have hsl7 : src.length = 7 := by rw [← hsrc]; rfl
      have hcl8 : cur.length = 8 := by rw [← hcur]; rfl
      have hs1c : ∀ v ∈ src, v.oneCell' = true := by
        intro v hv
        rw [← hsrc] at hv
        obtain ⟨x, _, rfl⟩ := List.mem_map.1 hv
        rfl
      have HG1 := Lib.hid hg1; clear hg1
      have HS1 := Lib.hid hs1; clear hs1
      have HS7 := Lib.hid hsl7; clear hsl7
      have HC8 := Lib.hid hcl8; clear hcl8
      have HS1C := Lib.hid hs1c; clear hs1c
      have HCS2 := Lib.hid (And.intro hcur hsrc); clear hcur hsrc hhk
      go_region_law (refine step_copy_splice rfl (.tmp 85) (.tmp 86) 130 130 rfl 116 Tryd.underlying130 w32size (some ⟨gx, 1, none⟩) (some ⟨gx, 0, none⟩) 7 7 7 8 (by simp [Act.eval, Act.put]) (by simp [Act.eval, Act.put]) gx 1 cur 121 HG1.out src (by rw [HS7.out]; rfl) (fun _ => ⟨rfl, _, rfl, HS1.out _ HG1.out⟩) (by rw [HS7.out, HC8.out]; decide) HS1C.out gx W3 hok.drew (Nat.le_refl _) ?_; intro w6 HG6 hB6)
      all_goals
        have hrow : Has w6 gx 121 (wcells [a, a, b1, c, d, e, f, g]) := by
          have h := HG6.out
          rw [← HCS2.out.1, ← HCS2.out.2] at h
          exact h
        have c4 : w6.cell? ⟨gx, 4, none⟩ = some (.int .u32 (d.toNat : Int)) := hrow.cell 4
        have c0 : w6.cell? ⟨gx, 0, none⟩ = some (.int .u32 (a.toNat : Int)) := hrow.cell 0
        have f4 := hrow.free 4
        have f0 := hrow.free 0
        have hrow2 := (hrow.set 4 (.int .u32 ((d + T1).toNat : Int))).set 0 (.int .u32 ((T1 + T2).toNat : Int))
        rw [wcells_set, wcells_set] at hrow2
        have HROW2 := Lib.hid hrow2; clear hrow2 hrow HG6
        go_wp2_with fail
        go_roundw
        case rel =>
          refine ⟨k + 1, by omega, by go_num, ?_, ?_⟩
          · rw [HNX.out, w_add, w_add]
            have h := HROW2.out
            rw [← HT1.out, ← HT2.out] at h
            rw [← HT1.out, ← HT2.out]
            exact h
          · exact (hB6.setCell (Nat.le_refl _) _).setCell (Nat.le_refl _) _
        case measure => simp [intOf]; omega
    · have hke : k = 64 := by omega
      have hki : ¬ (k : Int) < 64 := by omega
      rw [hke] at hhk
      clear hke hlt hk
      have j0 := k0.below hok (by have := HG.out; omega)
      have j2 := k2.below hok (by have := HG.out; omega)
      rw [← HA8.out.1] at j0
      have hfin := addk_all (s0.rounds kl sl 64) s0
      have hxl : (s0.rounds kl sl 64).toList.length = 8 := rfl
      have hcsf := HCS.out
      rw [← hfin] at hcsf
      clear hfin
      generalize (s0.rounds kl sl 64).toList = X at hhk hcsf hxl
      have HCSF := Lib.hid hcsf; clear hcsf
      have HXL := Lib.hid hxl; clear hxl
      have hsl0 : s0.toList.length = 8 := rfl
      generalize s0.toList = S0 at j0 HCSF hsl0
      have HSL0 := Lib.hid hsl0; clear hsl0
      go_wp2_with fail
      go_loopw [98] (fun v98 w2 => ∃ j : Nat, j ≤ 8 ∧ v98 = .int .i64 j ∧ Has w2 gx 121 (wcells (addk X S0 j)) ∧ Below gx wr w2) (fun v98 _ => 8 - (intOf v98).toNat)
      case atStart => exact ⟨0, Nat.zero_le _, rfl, hhk, Below.refl _ _⟩
      case round =>
        obtain ⟨j, hj, rfl, hhj, hoj⟩ := hrel
        by_cases hlt : j < 8
        · have hj0 : (0 : Int) ≤ (j : Int) := by omega
          have hji : (j : Int) < 8 := by omega
          have hl1 : j < (addk X S0 j).length := by rw [addk_len, HXL.out]; exact hlt
          have hl2 : j < S0.length := by rw [HSL0.out]; exact hlt
          have hnx : addk X S0 (j + 1) = (addk X S0 j).set j ((addk X S0 j).getD j 0 + S0.getD j 0) := rfl
          have d1 : wr.cell? ⟨gx, j, none⟩ = some (.int .u32 (((addk X S0 j).getD j 0).toNat : Int)) := by
            rw [hhj.cell, getD_get _ _ hl1]; exact wcells_get _ _ hl1
          have d2 : wr.cell? ⟨w.heap.size, j, none⟩ = some (.int .u32 ((S0.getD j 0).toNat : Int)) := by
            rw [(j0.below hoj (by have := HG.out; omega)).cell, getD_get _ _ hl2]; exact wcells_get _ _ hl2
          have df := hhj.free j
          have hset := hhj.set j (.int .u32 (((addk X S0 j).getD j 0 + S0.getD j 0).toNat : Int))
          rw [wcells_set, ← hnx, ← w_add] at hset
          have HSET := Lib.hid hset
          clear hset hnx hl1 hl2 hhj
          generalize (addk X S0 j).getD j 0 = x1 at d1 HSET
          generalize S0.getD j 0 = x2 at d2 HSET
          go_wp2_with fail
          go_region
          all_goals
            go_wp2_with fail
            go_roundw
            case rel => exact ⟨j + 1, by omega, by go_num, HSET.out, (hoj.setCell (Nat.le_refl _) _).drew⟩
            case measure => simp [intOf]; omega
        · have hje : j = 8 := by omega
          have hji : ¬ (j : Int) < 8 := by omega
          rw [hje, HCSF.out] at hhj
          have hsz : cs.size = 8 := by rw [← HCSF.out]; simp [wcells, addk_len, HXL.out]
          have h1c : cs.all (·.oneCell') = true := by rw [← HCSF.out]; exact wcells_one _
          have j2' := j2.below hoj (by have := HG.out; omega)
          have hri : (Tryd.prog.info? 121).map (·.size) = some cs.size := by rw [hsz]; kernel_rfl
          have hgrow : Below w.heap.size w (wr.setRow (w.heap.size + 1 + 1) cs) := by
            have h3 : Below w.heap.size w wr := (hb3.trans ((hok.trans hoj).mono (by have := HG.out; omega)))
            exact below_setRow h3 (by omega) cs
          have hrow : (wr.setRow (w.heap.size + 1 + 1) cs).heap[w.heap.size + 1 + 1]? = some (.cells cs 121 (0, 0)) := setRow_heap wr (w.heap.size + 1 + 1) _ cs _ _ j2'
          have HRI := Lib.hid hri
          have HSZ := Lib.hid hsz
          have H1C := Lib.hid h1c
          have HGROW := Lib.hid hgrow
          have HROW := Lib.hid hrow
          clear hri hsz h1c hgrow hrow hje hlt hj
          go_upto_region 18 with (fail)
          refine wp_region_lit ?_
          refine wpList_load_row rfl 121 (.tmp 6) rfl gx ?e1 _ _ _ _ hhj Tryd.underlying121 rfl HRI.out ?_
          case e1 => rfl
          refine wpList_store_row rfl 121 (.tmp 4) (.tmp 110) rfl (w.heap.size + 1 + 1) cs ?e2 ?e3 _ _ j2' HRI.out (by rw [HSZ.out]; rfl) H1C.out ?_
          case e2 => rfl
          case e3 => rfl
          go_wp2_with fail
          refine bodyPost_ret (v := .agg cs) ?res rfl ⟨rfl, HGROW.out⟩
          case res =>
            refine results_cell_row (ty := 121) (p := 4) rfl _ _ (w.heap.size + 1 + 1) 121 cs (0, 0) _ ?_ HROW.out Tryd.underlying121 rfl HRI.out
            rfl
end Go.Proofs.YtgjknfphmmlcdaaDoor
