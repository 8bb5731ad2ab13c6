/-
  A sector is read; a new disk: the contracts.
-/
import Derived.Test.YthadcmbbdggneaaGreatDoorDskE
import Derived.Laws.MakeOwn
namespace Go.Proofs.YthadcmbbdggneaaGreatDoor
open Go.RowKit
set_option linter.unusedVariables false

def ReadDPost (w : World) (r : List UInt8 × Int) (e : Ending) (w' : World) : Prop := e = .returned (.tuple #[.string (S r.1), .int .i64 r.2]) ∧ Below w.heap.size w w'
theorem sec_bytes {W : World} {b : Nat} {s : List UInt8} {a : Nat} (h : Has W b 87 (secV s a)) (hs : s.length = 64) : (convert 62 9 (.slice (some ⟨b, 0, none⟩) 64 64)).run Tryz.prog W = .ok (.string (S s)) W :=
  conv_text Tryz.underlying62 Tryz.underlying5 Tryz.underlying9 s hs (fun i hi => by
    rw [Nat.zero_add, h.cell, List.getElem?_toArray]
    exact secVals_byte (by omega))

set_option maxRecDepth 100000 in
set_option maxHeartbeats 2000000 in
theorem read_any {w : World} {g bd mb : Nat} {d : Dsk.St} (h : DiskAt w g bd mb d) (i : Int) :
    Calls Tryz.prog 71 #[.pointer (some ⟨g, 0, none⟩), .int .i64 i] w (ReadDPost w (Dsk.read d i)) := by
  have HA := Lib.hid (access_any h i)
  have hR : Dsk.read d i = if d.up = false then ([], 8) else if ¬ (0 ≤ i ∧ i < (d.secs.length : Int)) then ([], 5) else (((d.secs[i.toNat]?).map Dsk.Sec.now).getD [], 0) := rfl
  by_cases hu : d.up = true
  · rw [if_neg (by rw [hu]; decide)] at hR
    by_cases hi : 0 ≤ i ∧ i < (d.secs.length : Int)
    · rw [if_neg (fun hn => hn hi)] at hR
      have hin : inB i d.secs.length = true := inB_true.2 hi
      rw [hu, hin] at HA
      have hmost := h.most
      obtain ⟨j, hj⟩ : ∃ j : Nat, i.toNat = j := ⟨_, rfl⟩
      have hij : i = (j : Int) := by omega
      subst hij
      rw [hj] at hR
      clear hj
      have hjl : j < d.secs.length := by omega
      have hs := List.getElem?_eq_getElem hjl
      generalize d.secs[j] = s at hs
      rw [hs] at hR
      have hg := h.good s (List.mem_of_getElem? hs)
      have hlk := fun W (hW : Pend W mb 8192 (Dsk.pendI d.secs)) => hW.look_ok (x := (j : Int)) (wfn (by omega))
      have hq : Dsk.pendI d.secs (j : Int) = s.pend := by rw [Dsk.pendI_nat, hs]; rfl
      have hrange := h.rows.at hs
      have hpd := h.pend
      have hlt := h.lt
      obtain ⟨l0, k0, t0, hc, _⟩ := h.cells
      obtain ⟨c0, c1, _⟩ := cells9 hc
      obtain ⟨z, hz, hzs⟩ := zeroSome
      have HZS := Lib.hid hzs; clear hzs
      cases hp : s.pend with
      | some p =>
        have hnow : s.now = p.1 := by unfold Dsk.Sec.now; rw [hp]
        have hR' : Dsk.read d (j : Int) = (p.1, 0) := by rw [hR]; simp [hnow]
        have hl := hg.2 p hp
        have hlk0 := hlk w hpd
        rw [hq, hp] at hlk0
        have hfd : found (Dsk.pendI d.secs) (j : Int) = secV p.1 p.2 := by unfold found; rw [hq, hp]
        rw [hfd] at hlk0
        have HR := Lib.hid hR'
        have hrow := setRow_heap (w.alloc (.cells z 87)) w.heap.size z (secV p.1 p.2) 87 (0, 0) (heap_alloc_new _ _)
        have hcv := sec_bytes (a := p.2) hrow hl
        have hb := below_setRow (w0 := w) (B := w.heap.size) (g := w.heap.size) ((Below.refl _ w).alloc (Nat.le_refl _) (.cells z 87)) (Nat.le_refl _) (secV p.1 p.2)
        have hone := secV_one p.1 p.2
        have hsz := secV_size (a := p.2) hl
        generalize secV p.1 p.2 = A at hlk0 hrow hcv hb hone hsz
        have HI : Hid ((Tryz.prog.info? 87).map (·.size) = some A.size) := Lib.hid (by rw [hsz]; exact secSize)
        have HO := Lib.hid hone
        have HSZ := Lib.hid hsz
        have HB := Lib.hid hb
        have hsl := fun (b : Nat) (W : World) => arr_all (P := Tryz.prog) Tryz.underlying85 Tryz.sizeOf5 (by decide) b W
        have HCV := Lib.hid hcv
        simp only [Option.isSome] at hlk0
        clear hR hR' hnow hlk hq hrange hpd hc h hlt hone hsz hb hrow hg hin hi hs hp hfd hcv c0 hmost
        go_enter Tryz.func71, Tryz.ntmps71
        go_wp2_with fail
        refine HA.out.mono ?_
        rintro r w1 ⟨rfl, rfl⟩
        go_upto_region 7 with (refine wpList_store_row rfl 87 (.tmp 7) (.tmp 22) rfl w.heap.size A ?e2 ?e3 _ _ (heap_alloc_new _ _) HI.out ?e4 HO.out ?_; (case e2 => rfl); (case e3 => rfl); (case e4 => rw [HSZ.out, HZS.out]))
        generalize World.setRow (World.alloc w _) _ _ = W2 at HB HCV ⊢
        have hcv := HCV.out
        go_wp2_with fail
        go_ret2
        rw [HR.out]
        exact ⟨rfl, HB.out⟩
      | none =>
        have hnow : s.now = s.sure := by unfold Dsk.Sec.now; rw [hp]
        have hR' : Dsk.read d (j : Int) = (s.sure, 0) := by rw [hR]; simp [hnow]
        have hl := hg.1
        have hlk0 := hlk w hpd
        rw [hq, hp] at hlk0
        have hfd : ∃ F : Array Value, found (Dsk.pendI d.secs) (j : Int) = F ∧ F.size = 65 ∧ F.all (·.oneCell') = true := ⟨_, rfl, by unfold found; rw [hq, hp]; exact secV_size List.length_replicate, by unfold found; rw [hq, hp]; exact secV_one _ _⟩
        obtain ⟨F, hfd, hfs, hfo⟩ := hfd
        rw [hfd] at hlk0
        have HR := Lib.hid hR'
        have hrow1 := setRow_heap (w.alloc (.cells z 87)) w.heap.size z F 87 (0, 0) (heap_alloc_new _ _)
        have hrow := setRow_heap ((w.alloc (.cells z 87)).setRow w.heap.size F) w.heap.size F (secV s.sure s.at_) 87 (0, 0) hrow1
        have hcv := sec_bytes (a := s.at_) hrow hl
        have hb1 := below_setRow (w0 := w) (B := w.heap.size) (g := w.heap.size) ((Below.refl _ w).alloc (Nat.le_refl _) (.cells z 87)) (Nat.le_refl _) F
        have hb := below_setRow hb1 (Nat.le_refl _) (secV s.sure s.at_)
        have hone := secV_one s.sure s.at_
        have hsz := secV_size (a := s.at_) hl
        have hrg : ((w.alloc (.cells z 87)).setRow w.heap.size F).rangeAt bd (j * 65) (secVals s.sure s.at_) := rangeAt_keep hrange (hb1.block bd hlt.2.1)
        have d0 : ((w.alloc (.cells z 87)).setRow w.heap.size F).cell? ⟨g, 0, none⟩ = some (.slice (some ⟨bd, 0, none⟩) d.secs.length d.secs.length) := (World.cell?_of_block (hb1.block g hlt.1)).trans c0
        have hsl' := secSz (a := s.at_) hl
        have HI : Hid ((Tryz.prog.info? 87).map (·.size) = some F.size) := Lib.hid (by rw [hfs]; exact secSize)
        have HI2 : Hid ((Tryz.prog.info? 87).map (·.size) = some (secV s.sure s.at_).size) := Lib.hid (by rw [hsz]; exact secSize)
        have HI3 := Lib.hid hsl'
        have HO := Lib.hid hfo
        have HO2 := Lib.hid hone
        have HSZ := Lib.hid hfs
        have HSZ2 := Lib.hid hsz
        have HB := Lib.hid hb
        have HRG : Hid _ := hrg
        have HROW1 := Lib.hid hrow1
        have hsl := fun (b : Nat) (W : World) => arr_all (P := Tryz.prog) Tryz.underlying85 Tryz.sizeOf5 (by decide) b W
        have HCV := Lib.hid hcv
        have hjn : (j : Int) < (d.secs.length : Int) := by omega
        have hj0 : (0 : Int) ≤ (j : Int) := by omega
        simp only [Option.isSome] at hlk0
        generalize d.secs.length = n at *
        clear hR hR' hnow hlk hq hrange hpd hc h hlt hone hsz hb hrow hg hin hi hs hp hfd hcv c0 hmost hrow1 hb1 hrg hsl' hfs hfo
        go_enter Tryz.func71, Tryz.ntmps71
        go_wp2_with fail
        refine HA.out.mono ?_
        rintro r w1 ⟨rfl, rfl⟩
        go_upto_region 6 with (refine wpList_store_row rfl 87 (.tmp 7) (.tmp 22) rfl w.heap.size F ?e2 ?e3 _ _ (heap_alloc_new _ _) HI.out ?e4 HO.out ?_; (case e2 => rfl); (case e3 => rfl); (case e4 => rw [HSZ.out, HZS.out]))
        generalize World.setRow (World.alloc w _) _ _ = W2 at HB HCV HRG HROW1 d0 ⊢
        go_upto_region 7 with (first
          | (refine wpList_load_mid rfl 87 (.tmp 31) rfl bd (j * 65) ?e1 _ _ HRG.out Tryz.underlying87 rfl HI3.out ?_; (case e1 => rfl))
          | (refine wpList_store_row rfl 87 (.tmp 7) (.tmp 32) rfl w.heap.size (secV s.sure s.at_) ?e2 ?e3 _ _ HROW1.out HI2.out ?e4 HO2.out ?_; (case e2 => rfl); (case e3 => rfl); (case e4 => rw [HSZ.out, HSZ2.out])))
        generalize World.setRow W2 _ _ = W3 at HB HCV ⊢
        have hcv := HCV.out
        go_wp2_with fail
        go_ret2
        rw [HR.out]
        exact ⟨rfl, HB.out⟩
    · rw [if_pos hi] at hR
      have hin : inB i d.secs.length = false := by rw [Bool.eq_false_iff, ne_eq, inB_true]; exact hi
      rw [hu, hin] at HA
      have HR := Lib.hid hR
      clear h hR hin hi
      go_enter Tryz.func71, Tryz.ntmps71
      go_wp2_with fail
      refine HA.out.mono ?_
      rintro r w1 ⟨rfl, rfl⟩
      go_wp2_with fail
      go_ret2
      rw [HR.out]
      exact ⟨rfl, Below.refl _ _⟩
  · have hu' : d.up = false := by simpa using hu
    rw [if_pos hu'] at hR
    rw [hu'] at HA
    have HR := Lib.hid hR
    clear h hR hu
    go_enter Tryz.func71, Tryz.ntmps71
    go_wp2_with fail
    refine HA.out.mono ?_
    rintro r w1 ⟨rfl, rfl⟩
    go_wp2_with fail
    go_ret2
    rw [HR.out]
    exact ⟨rfl, Below.refl _ _⟩
end Go.Proofs.YthadcmbbdggneaaGreatDoor
