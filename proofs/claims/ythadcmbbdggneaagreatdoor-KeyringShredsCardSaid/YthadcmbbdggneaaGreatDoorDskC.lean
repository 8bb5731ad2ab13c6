/-
  The power falls: the program's fail.
-/
import Derived.Test.YthadcmbbdggneaaGreatDoorDskB
import Derived.Test.YthadcmbbdggneaaGreatDoorDskW
import Derived.Test.YthadcmbbdggneaaGreatDoorTake
import Derived.Deep.DeepCutAuto
import Derived.Deep.CutBlock
namespace Go.Proofs.YthadcmbbdggneaaGreatDoor
open Go.RowKit
set_option linter.unusedVariables false

theorem KeyRow.read {w : World} {B : Nat} {v : Value} {ks : List Nat} (h : KeyRow w B v ks) : ∃ A cap gb, v = .slice A ks.length cap ∧ (∀ i (hi : i < ks.length), A = some ⟨gb, 0, none⟩ ∧ B ≤ gb ∧ gb < w.heap.size ∧ w.cell? ⟨gb, i, none⟩ = some (.int .i64 ((ks[i]'hi : Nat) : Int))) := by
  unfold KeyRow at h
  rcases h.2 with ⟨rfl, hz⟩ | ⟨gb, cap, cur, rfl, hbase, hgb, r1, r2, r3, r4⟩
  · have hz' : ks.length = 0 := hz
    exact ⟨none, 0, 0, by rw [hz'], fun i hi => by omega⟩
  · refine ⟨_, cap, gb, rfl, fun i hi => ⟨rfl, hbase, (Array.getElem?_eq_some_iff.1 hgb).1, ?_⟩⟩
    have hc : w.cell? ⟨gb, i, none⟩ = cur[i]? := by simp [World.cell?, hgb]
    rw [hc]
    have := congrArg (fun l => l[i]?) r4
    simp only [Nat.mul_one, List.getElem?_take, hi, if_true, List.getElem?_map, List.getElem?_eq_getElem hi, Option.map_some] at this
    rw [← this]
    simp

abbrev FailS (g bd mb n bx : Nat) (a t x : Int) (A2 : Array Value) (W : World) : Prop :=
  W.cell? ⟨g, 0, none⟩ = some (.slice (some ⟨bd, 0, none⟩) n n) ∧ W.cell? ⟨g, 1, none⟩ = some (.map (some mb)) ∧ W.cell? ⟨bx, 0, none⟩ = some (.int .u64 a) ∧ W.cell? ⟨bx, 1, none⟩ = some (.int .i64 t) ∧
  (Instr.lookup 73 (.map (some mb)) (.int .i64 x) false).run Tryz.prog W = .ok (.agg A2) W
def FailPost (w : World) (g bd mb : Nat) (d : Dsk.St) (f : Dsk.Fall) (e : Ending) (w' : World) : Prop := e = .returned (.tuple #[]) ∧ DiskAt w' g bd mb (Dsk.fall f d) ∧ Mv w w' [g, bd, mb]

set_option maxRecDepth 100000 in
set_option maxHeartbeats 4000000 in
theorem fail_any {w : World} {g bd mb : Nat} {d : Dsk.St} (h : DiskAt w g bd mb d) (hfl : d.falls < 1000000000000) (f : Dsk.Fall) (hf : Fok f) :
    Calls Tryz.prog 47 #[.pointer (some ⟨g, 0, none⟩), .agg #[.int .u64 (f.keep : Int), .int .i64 f.tear]] w (FailPost w g bd mb d f) := by
  have hwt := fun W (hW : DiskAt W g bd mb d) => waiting_any hW
  have hlt := h.lt
  have H := Lib.hid h
  have HWT : Hid _ := hwt; clear hwt
  obtain ⟨l0, k0, t0, hc, _⟩ := h.cells
  have hmost := h.most
  have hpos := h.pos
  have n1 := h.n1
  have n2 := h.n2
  have n3 := h.n3
  have hfalls : (0 : Int) ≤ (d.falls : Int) := by omega
  have hfalls2 : (d.falls : Int) < 1000000000000 := by omega
  obtain ⟨n, hn⟩ : ∃ n, d.secs.length = n := ⟨_, rfl⟩
  rw [hn] at hc hmost hpos
  have HN := Lib.hid hn; clear hn
  clear h
  obtain ⟨ks, hks⟩ : ∃ ks, Dsk.waits d.secs = ks := ⟨_, rfl⟩
  have HKS := Lib.hid hks
  rw [hks] at HWT
  clear hks
  have HFD : Hid (f.keep = f.keep) := rfl
  obtain ⟨a, ha'⟩ : ∃ a : Int, (f.keep : Int) = a := ⟨_, rfl⟩
  obtain ⟨t, ht'⟩ : ∃ t : Int, f.tear = t := ⟨_, rfl⟩
  have HG : Hid (∀ k, ∀ s' ∈ Dsk.fallTo f d.secs k, s'.sure.length = 64) := Lib.hid (fun k s' hs' => (Dsk.fallTo_good f H.out.good k s' hs').1)
  have HAF : Hid (∀ (k : Nat) (_ : k ≤ 1000000) (s p : Dsk.Sec) (tt : List UInt8) (b : Nat) (_ : s.sure.length = 64) (_ : tt.length = 64) (W : World),
    Calls Tryz.prog 56 #[.agg #[.int .u64 a, .int .i64 t], .int .i64 (k : Int), .agg (secV s.sure s.at_), .agg (secV tt b)] W (AfterPost W (secV (Dsk.fallOne f k s (tt, b)).sure (Dsk.fallOne f k s (tt, b)).at_))) := Lib.hid (by
      rw [← ha', ← ht']; exact fun k hk s p tt b h1 h2 W => after_any f hf k hk s p tt b h1 h2 W)
  rw [ha', ht']
  clear HFD ha' ht'
  have hc0 := cells9 hc
  go_enter Tryz.func47, Tryz.ntmps47
  go_upto_region 1 with (fail)
  generalize hW : World.alloc w _ = W
  have hbx : Has W w.heap.size 36 #[.int .u64 a, .int .i64 t] := by rw [← hW]; exact Has.made w _ _
  have hb0 : Below w.heap.size w W := by rw [← hW]; exact (Below.refl _ w).alloc (Nat.le_refl _) _
  have hWs : W.heap.size = w.heap.size + 1 := by rw [← hW]; exact asize _ _
  clear hW
  have hdW : DiskAt W g bd mb d := H.out.below hb0
  go_wp2_with fail
  refine (HWT.out _ hdW).mono ?_
  rintro r w1 ⟨v, rfl, hrow, hb1⟩
  obtain ⟨A, cap, gb, rfl, hread⟩ := hrow.read
  have hd1 := hdW.below hb1
  have hbx1 : Has w1 w.heap.size 36 #[.int .u64 a, .int .i64 t] := hbx.below hb1 (by omega)
  have hb01 : Below w.heap.size w w1 := hb0.trans (hb1.mono (by omega))
  clear hrow hdW hb0 hbx hb1
  obtain ⟨N, hN⟩ : ∃ N, ks.length = N := ⟨_, rfl⟩
  rw [hN]
  have hN1 : N ≤ 8192 := by rw [← hN, ← HKS.out]; have := Dsk.waits_len d.secs; rw [HN.out] at this; omega
  have HNN := Lib.hid hN; clear hN
  have HREAD : Hid _ := hread; clear hread
  go_wp2_with fail
  go_loopw [9] (fun v9 wr => ∃ k : Nat, k ≤ N ∧ v9 = .int .i64 (k : Int) ∧ Rows wr bd (Dsk.fallTo f d.secs k) ∧ Only w1 wr bd) (fun v9 _ => N - (intOf v9).toNat)
  case atStart => exact ⟨0, Nat.zero_le _, rfl, hd1.rows, Only.refl _ _⟩
  case round =>
    obtain ⟨k, hk, rfl, hrk, hok⟩ := hrel
    by_cases hlt : k < N
    · have hkk : k < (Dsk.waits d.secs).length := by rw [HKS.out, HNN.out]; exact hlt
      obtain ⟨s, p, hs, hp⟩ := Dsk.waits_at d.secs k hkk
      have hset := Dsk.fallTo_set f d.secs k hkk hs hp
      have hat := Dsk.fallTo_at f d.secs k hkk
      rw [hs] at hat
      have hil := Dsk.waits_lt d.secs k hkk
      have hgs := H.out.good s (List.mem_of_getElem? hs)
      have hq : Dsk.pendI d.secs (((Dsk.waits d.secs)[k] : Nat) : Int) = some p := by rw [Dsk.pendI_nat, hs]; exact hp
      obtain ⟨hrA, hrB, hrC, hrD⟩ := HREAD.out k (by rw [HNN.out]; exact hlt)
      have hke : ks[k]'(by rw [HNN.out]; exact hlt) = (Dsk.waits d.secs)[k] := by simp only [HKS.out]
      rw [hke] at hrD
      generalize (Dsk.waits d.secs)[k] = i at hs hset hat hil hq hrD
      clear hke
      subst hrA
      obtain ⟨tt, b⟩ := p
      have h65 := hgs.1
      have htt : tt.length = 64 := hgs.2 _ hp
      rw [HN.out] at hil
      have hib : i ≤ 8192 := by omega
      obtain ⟨hl1, hl2, hl3⟩ := hd1.lt
      have hgbd : gb ≠ bd := by omega
      have hrange := hrk.at hat
      have hthere := hrk.there (i := i) (by rw [Dsk.fallTo_len, HN.out]; exact hil)
      have hrng : ∀ s' ∈ Dsk.fallTo f d.secs k, s'.sure.length = 64 := HG.out k
      have hstore := fun (x : Dsk.Sec) (hx : x.sure.length = 64) (W : World) (hW : Rows W bd (Dsk.fallTo f d.secs k)) => hW.store (i := i) (by rw [Dsk.fallTo_len, HN.out]; exact hil) x hx hrng
      have hkc : wr.cell? ⟨gb, k, none⟩ = some (.int .i64 (i : Int)) := (World.cell?_of_block (hok.block gb hrC (by simp; omega))).trans hrD
      obtain ⟨l1, k1, t1, hc1, _⟩ := hd1.cells
      have hcr := hok.has hc1 n1
      have hb1r := hok.has hbx1 (by omega)
      have hpr : Pend wr mb 8192 (Dsk.pendI d.secs) := hd1.pend.keep (hok.block mb hl3 (by simp; omega))
      have hS : ∀ W, Only wr W bd → FailS g bd mb n w.heap.size a t (i : Int) (secV tt b) W := fun W hW => by
        have e1 := hW.has hcr n1
        have e2 := hW.has hb1r (by omega)
        have e3 := hpr.keep (hW.block mb (by exact Nat.lt_of_lt_of_le hl3 hok.size) (by simp; omega))
        rw [HN.out] at e1
        exact ⟨e1.cell 0, e1.cell 1, e2.cell 0, e2.cell 1, e3.look (wfn (by omega)) hq⟩
      have HS : Hid _ := hS
      have HST : Hid _ := hstore
      have HRA : Hid _ := hrange
      have HTH : Hid _ := hthere
      have HSZ1 := Lib.hid (secSz (a := s.at_) h65)
      have HX : Hid ((Dsk.fallOne f k s (tt, b)).sure.length = 64) := Lib.hid (Dsk.fallOne_full f k s (tt, b) h65 htt).1
      have hA := HAF.out k (by omega) s s tt b h65 htt
      have HA : Hid _ := hA
      generalize Dsk.fallOne f k s (tt, b) = x at HX HA hset
      have HSET := Lib.hid hset
      have HROK := Lib.hid (And.intro hrk hok)
      clear hS hstore hrange hthere hA hset hc1 hcr hb1r hpr hs hp hat hgs hq hrD hrng
      have hklt : (k : Int) < (N : Int) := by omega
      have hk0 : (0 : Int) ≤ (k : Int) := by omega
      have hi0 : (0 : Int) ≤ (i : Int) := by omega
      have hin : (i : Int) < (n : Int) := by omega
      go_upto_region 4 with (fail)
      have hx : FailS g bd mb n w.heap.size a t (i : Int) (secV tt b) wr.drew := HS.out _ (Only.of_below (Below.drew (Below.refl _ _)) bd)
      refine wp_region_held_drew (S := FailS g bd mb n w.heap.size a t (i : Int) (secV tt b)) (by kernel_rfl) hx (fun hHeld => ?_)
      obtain ⟨A2, hA2⟩ : ∃ A2, secV tt b = A2 := ⟨_, rfl⟩
      rw [hA2] at hx hHeld HA HS ⊢
      first
      | (refine take_wanted (i := 0) (v := ?_) rfl rfl (by kernel_rfl) (by kernel_rfl) (by kernel_rfl) (fun _ _ _ h => h) (by rfl) (by assumption) ?_ ?_; rotate_left; (focus (intro w hSw; (try dsimp only at hSw); go_simp; first | done | with_reducible rfl)); (simp only [Act.at, List.setIfInBounds_toArray, List.set_cons_zero, List.set_cons_succ]))
      | (refine take_unwanted (i := 0) rfl rfl (by kernel_rfl) (by kernel_rfl) (by kernel_rfl) (fun _ _ _ h => h) (by rfl) (by assumption) ?_; (simp only [Act.at, List.setIfInBounds_toArray, List.set_cons_zero, List.set_cons_succ]))
      first
      | (refine take_wanted (i := 1) (v := ?_) rfl rfl (by kernel_rfl) (by kernel_rfl) (by kernel_rfl) (fun _ _ _ h => h) (by rfl) (by assumption) ?_ ?_; rotate_left; (focus (intro w hSw; (try dsimp only at hSw); go_simp; first | done | with_reducible rfl)); (simp only [Act.at, List.setIfInBounds_toArray, List.set_cons_zero, List.set_cons_succ]))
      | (refine take_unwanted (i := 1) rfl rfl (by kernel_rfl) (by kernel_rfl) (by kernel_rfl) (fun _ _ _ h => h) (by rfl) (by assumption) ?_; (simp only [Act.at, List.setIfInBounds_toArray, List.set_cons_zero, List.set_cons_succ]))
      first
      | (refine take_wanted (i := 2) (v := ?_) rfl rfl (by kernel_rfl) (by kernel_rfl) (by kernel_rfl) (fun _ _ _ h => h) (by rfl) (by assumption) ?_ ?_; rotate_left; (focus (intro w hSw; (try dsimp only at hSw); go_simp; first | done | with_reducible rfl)); (simp only [Act.at, List.setIfInBounds_toArray, List.set_cons_zero, List.set_cons_succ]))
      | (refine take_unwanted (i := 2) rfl rfl (by kernel_rfl) (by kernel_rfl) (by kernel_rfl) (fun _ _ _ h => h) (by rfl) (by assumption) ?_; (simp only [Act.at, List.setIfInBounds_toArray, List.set_cons_zero, List.set_cons_succ]))
      first
      | (refine take_wanted (i := 3) (v := ?_) rfl rfl (by kernel_rfl) (by kernel_rfl) (by kernel_rfl) (fun _ _ _ h => h) (by rfl) (by assumption) ?_ ?_; rotate_left; (focus (intro w hSw; (try dsimp only at hSw); go_simp; first | done | with_reducible rfl)); (simp only [Act.at, List.setIfInBounds_toArray, List.set_cons_zero, List.set_cons_succ]))
      | (refine take_unwanted (i := 3) rfl rfl (by kernel_rfl) (by kernel_rfl) (by kernel_rfl) (fun _ _ _ h => h) (by rfl) (by assumption) ?_; (simp only [Act.at, List.setIfInBounds_toArray, List.set_cons_zero, List.set_cons_succ]))
      first
      | (refine take_wanted (i := 4) (v := ?_) rfl rfl (by kernel_rfl) (by kernel_rfl) (by kernel_rfl) (fun _ _ _ h => h) (by rfl) (by assumption) ?_ ?_; rotate_left; (focus (intro w hSw; (try dsimp only at hSw); go_simp; first | done | with_reducible rfl)); (simp only [Act.at, List.setIfInBounds_toArray, List.set_cons_zero, List.set_cons_succ]))
      | (refine take_unwanted (i := 4) rfl rfl (by kernel_rfl) (by kernel_rfl) (by kernel_rfl) (fun _ _ _ h => h) (by rfl) (by assumption) ?_; (simp only [Act.at, List.setIfInBounds_toArray, List.set_cons_zero, List.set_cons_succ]))
      first
      | (refine take_wanted (i := 5) (v := ?_) rfl rfl (by kernel_rfl) (by kernel_rfl) (by kernel_rfl) (fun _ _ _ h => h) (by rfl) (by assumption) ?_ ?_; rotate_left; (focus (intro w hSw; (try dsimp only at hSw); go_simp; first | done | with_reducible rfl)); (simp only [Act.at, List.setIfInBounds_toArray, List.set_cons_zero, List.set_cons_succ]))
      | (refine take_unwanted (i := 5) rfl rfl (by kernel_rfl) (by kernel_rfl) (by kernel_rfl) (fun _ _ _ h => h) (by rfl) (by assumption) ?_; (simp only [Act.at, List.setIfInBounds_toArray, List.set_cons_zero, List.set_cons_succ]))
      first
      | (refine take_wanted (i := 6) (v := ?_) rfl rfl (by kernel_rfl) (by kernel_rfl) (by kernel_rfl) (fun _ _ _ h => h) (by rfl) (by assumption) ?_ ?_; rotate_left; (focus (intro w hSw; (try dsimp only at hSw); go_simp; first | done | with_reducible rfl)); (simp only [Act.at, List.setIfInBounds_toArray, List.set_cons_zero, List.set_cons_succ]))
      | (refine take_unwanted (i := 6) rfl rfl (by kernel_rfl) (by kernel_rfl) (by kernel_rfl) (fun _ _ _ h => h) (by rfl) (by assumption) ?_; (simp only [Act.at, List.setIfInBounds_toArray, List.set_cons_zero, List.set_cons_succ]))
      first
      | (refine take_wanted (i := 7) (v := ?_) rfl rfl (by kernel_rfl) (by kernel_rfl) (by kernel_rfl) (fun _ _ _ h => h) (by rfl) (by assumption) ?_ ?_; rotate_left; (focus (intro w hSw; (try dsimp only at hSw); go_simp; first | done | with_reducible rfl)); (simp only [Act.at, List.setIfInBounds_toArray, List.set_cons_zero, List.set_cons_succ]))
      | (refine take_unwanted (i := 7) rfl rfl (by kernel_rfl) (by kernel_rfl) (by kernel_rfl) (fun _ _ _ h => h) (by rfl) (by assumption) ?_; (simp only [Act.at, List.setIfInBounds_toArray, List.set_cons_zero, List.set_cons_succ]))
      first
      | (refine take_wanted (i := 8) (v := ?_) rfl rfl (by kernel_rfl) (by kernel_rfl) (by kernel_rfl) (fun _ _ _ h => h) (by rfl) (by assumption) ?_ ?_; rotate_left; (focus (intro w hSw; (try dsimp only at hSw); go_simp; first | done | with_reducible rfl)); (simp only [Act.at, List.setIfInBounds_toArray, List.set_cons_zero, List.set_cons_succ]))
      | (refine take_unwanted (i := 8) rfl rfl (by kernel_rfl) (by kernel_rfl) (by kernel_rfl) (fun _ _ _ h => h) (by rfl) (by assumption) ?_; (simp only [Act.at, List.setIfInBounds_toArray, List.set_cons_zero, List.set_cons_succ]))
      first
      | (refine take_wanted (i := 9) (v := ?_) rfl rfl (by kernel_rfl) (by kernel_rfl) (by kernel_rfl) (fun _ _ _ h => h) (by rfl) (by assumption) ?_ ?_; rotate_left; (focus (intro w hSw; (try dsimp only at hSw); go_simp; first | done | with_reducible rfl)); (simp only [Act.at, List.setIfInBounds_toArray, List.set_cons_zero, List.set_cons_succ]))
      | (refine take_unwanted (i := 9) rfl rfl (by kernel_rfl) (by kernel_rfl) (by kernel_rfl) (fun _ _ _ h => h) (by rfl) (by assumption) ?_; (simp only [Act.at, List.setIfInBounds_toArray, List.set_cons_zero, List.set_cons_succ]))
      first
      | (refine take_wanted (i := 10) (v := ?_) rfl rfl (by kernel_rfl) (by kernel_rfl) (by kernel_rfl) (fun _ _ _ h => h) (by rfl) (by assumption) ?_ ?_; rotate_left; (focus (intro w hSw; (try dsimp only at hSw); go_simp; first | done | with_reducible rfl)); (simp only [Act.at, List.setIfInBounds_toArray, List.set_cons_zero, List.set_cons_succ]))
      | (refine take_unwanted (i := 10) rfl rfl (by kernel_rfl) (by kernel_rfl) (by kernel_rfl) (fun _ _ _ h => h) (by rfl) (by assumption) ?_; (simp only [Act.at, List.setIfInBounds_toArray, List.set_cons_zero, List.set_cons_succ]))
      first
      | (refine take_wanted (i := 11) (v := ?_) rfl rfl (by kernel_rfl) (by kernel_rfl) (by kernel_rfl) (fun _ _ _ h => h) (by rfl) (by assumption) ?_ ?_; rotate_left; (focus (intro w hSw; (try dsimp only at hSw); go_simp; first | done | with_reducible rfl)); (simp only [Act.at, List.setIfInBounds_toArray, List.set_cons_zero, List.set_cons_succ]))
      | (refine take_unwanted (i := 11) rfl rfl (by kernel_rfl) (by kernel_rfl) (by kernel_rfl) (fun _ _ _ h => h) (by rfl) (by assumption) ?_; (simp only [Act.at, List.setIfInBounds_toArray, List.set_cons_zero, List.set_cons_succ]))
      first
      | (refine take_wanted (i := 12) (v := ?_) rfl rfl (by kernel_rfl) (by kernel_rfl) (by kernel_rfl) (fun _ _ _ h => h) (by rfl) (by assumption) ?_ ?_; rotate_left; (focus (intro w hSw; (try dsimp only at hSw); go_simp; first | done | with_reducible rfl)); (simp only [Act.at, List.setIfInBounds_toArray, List.set_cons_zero, List.set_cons_succ]))
      | (refine take_unwanted (i := 12) rfl rfl (by kernel_rfl) (by kernel_rfl) (by kernel_rfl) (fun _ _ _ h => h) (by rfl) (by assumption) ?_; (simp only [Act.at, List.setIfInBounds_toArray, List.set_cons_zero, List.set_cons_succ]))
      first
      | (refine take_wanted (i := 14) (v := ?_) rfl rfl (by kernel_rfl) (by kernel_rfl) (by kernel_rfl) (fun _ _ _ h => h) (by rfl) (by assumption) ?_ ?_; rotate_left; (focus (intro w hSw; (try dsimp only at hSw); go_simp; first | done | with_reducible rfl)); (simp only [Act.at, List.setIfInBounds_toArray, List.set_cons_zero, List.set_cons_succ]))
      | (refine take_unwanted (i := 14) rfl rfl (by kernel_rfl) (by kernel_rfl) (by kernel_rfl) (fun _ _ _ h => h) (by rfl) (by assumption) ?_; (simp only [Act.at, List.setIfInBounds_toArray, List.set_cons_zero, List.set_cons_succ]))
      first
      | (refine take_wanted (i := 15) (v := ?_) rfl rfl (by kernel_rfl) (by kernel_rfl) (by kernel_rfl) (fun _ _ _ h => h) (by rfl) (by assumption) ?_ ?_; rotate_left; (focus (intro w hSw; (try dsimp only at hSw); go_simp; first | done | with_reducible rfl)); (simp only [Act.at, List.setIfInBounds_toArray, List.set_cons_zero, List.set_cons_succ]))
      | (refine take_unwanted (i := 15) rfl rfl (by kernel_rfl) (by kernel_rfl) (by kernel_rfl) (fun _ _ _ h => h) (by rfl) (by assumption) ?_; (simp only [Act.at, List.setIfInBounds_toArray, List.set_cons_zero, List.set_cons_succ]))
      first
      | (refine take_wanted (i := 16) (v := ?_) rfl rfl (by kernel_rfl) (by kernel_rfl) (by kernel_rfl) (fun _ _ _ h => h) (by rfl) (by assumption) ?_ ?_; rotate_left; (focus (intro w hSw; (try dsimp only at hSw); go_simp; first | done | with_reducible rfl)); (simp only [Act.at, List.setIfInBounds_toArray, List.set_cons_zero, List.set_cons_succ]))
      | (refine take_unwanted (i := 16) rfl rfl (by kernel_rfl) (by kernel_rfl) (by kernel_rfl) (fun _ _ _ h => h) (by rfl) (by assumption) ?_; (simp only [Act.at, List.setIfInBounds_toArray, List.set_cons_zero, List.set_cons_succ]))
      first
      | (refine take_wanted (i := 17) (v := ?_) rfl rfl (by kernel_rfl) (by kernel_rfl) (by kernel_rfl) (fun _ _ _ h => h) (by rfl) (by assumption) ?_ ?_; rotate_left; (focus (intro w hSw; (try dsimp only at hSw); go_simp; first | done | with_reducible rfl)); (simp only [Act.at, List.setIfInBounds_toArray, List.set_cons_zero, List.set_cons_succ]))
      | (refine take_unwanted (i := 17) rfl rfl (by kernel_rfl) (by kernel_rfl) (by kernel_rfl) (fun _ _ _ h => h) (by rfl) (by assumption) ?_; (simp only [Act.at, List.setIfInBounds_toArray, List.set_cons_zero, List.set_cons_succ]))
      first
      | (refine take_wanted (i := 18) (v := ?_) rfl rfl (by kernel_rfl) (by kernel_rfl) (by kernel_rfl) (fun _ _ _ h => h) (by rfl) (by assumption) ?_ ?_; rotate_left; (focus (intro w hSw; (try dsimp only at hSw); go_simp; first | done | with_reducible rfl)); (simp only [Act.at, List.setIfInBounds_toArray, List.set_cons_zero, List.set_cons_succ]))
      | (refine take_unwanted (i := 18) rfl rfl (by kernel_rfl) (by kernel_rfl) (by kernel_rfl) (fun _ _ _ h => h) (by rfl) (by assumption) ?_; (simp only [Act.at, List.setIfInBounds_toArray, List.set_cons_zero, List.set_cons_succ]))
      first
      | (refine take_wanted (i := 19) (v := ?_) rfl rfl (by kernel_rfl) (by kernel_rfl) (by kernel_rfl) (fun _ _ _ h => h) (by rfl) (by assumption) ?_ ?_; rotate_left; (focus (intro w hSw; (try dsimp only at hSw); go_simp; first | done | with_reducible rfl)); (simp only [Act.at, List.setIfInBounds_toArray, List.set_cons_zero, List.set_cons_succ]))
      | (refine take_unwanted (i := 19) rfl rfl (by kernel_rfl) (by kernel_rfl) (by kernel_rfl) (fun _ _ _ h => h) (by rfl) (by assumption) ?_; (simp only [Act.at, List.setIfInBounds_toArray, List.set_cons_zero, List.set_cons_succ]))
      refine held1 (i := 13) (by kernel_rfl) rfl (by rfl) (fun K' hK => ?_)
      refine wp_load_mid _ _ rfl _ _ rfl _ _ ((World.rangeAt_drew _ _ _ _).2 HRA.out) Tryz.underlying87 rfl HSZ1.out ?_
      refine hK.out _ _ hx (fun hHeld => ?_)
      clear hK K'
      try simp only [Act.put, List.setIfInBounds_toArray]
      refine take_call (i := 20) (by kernel_rfl) rfl rfl (by rfl) (fun K hK => ?_)
      go_simp
      refine (HA.out _).mono ?_
      rintro r w4 ⟨rfl, hb4⟩
      have ho4 : Only wr w4 bd := Only.of_below (((Below.refl wr.heap.size wr).drew).trans hb4) bd
      have hx4 := HS.out w4 ho4
      have hr4 : Rows w4 bd (Dsk.fallTo f d.secs k) := HROK.out.1.keep ((((Below.refl wr.heap.size wr).drew).trans hb4).block bd HROK.out.1.lt)
      clear hx hHeld hb4
      refine hK.out _ _ hx4 (fun hHeld => ?_)
      clear hK K
      try simp only [Act.put, List.setIfInBounds_toArray, List.set_cons_zero, List.set_cons_succ]
      first
      | (refine take_wanted (i := 21) (v := ?_) rfl rfl (by kernel_rfl) (by kernel_rfl) (by kernel_rfl) (fun _ _ _ h => h) (by rfl) (by assumption) ?_ ?_; rotate_left; (focus (intro w hSw; (try dsimp only at hSw); go_simp; first | done | with_reducible rfl)); (simp only [Act.at, List.setIfInBounds_toArray, List.set_cons_zero, List.set_cons_succ]))
      | (refine take_unwanted (i := 21) rfl rfl (by kernel_rfl) (by kernel_rfl) (by kernel_rfl) (fun _ _ _ h => h) (by rfl) (by assumption) ?_; (simp only [Act.at, List.setIfInBounds_toArray, List.set_cons_zero, List.set_cons_succ]))
      have hr5 := HST.out x HX.out w4 hr4
      have hth4 := hr4.there (i := i) (by rw [Dsk.fallTo_len, HN.out]; exact hil)
      have ho5 := ho4.trans (only_setCells bd (secVals x.sure x.at_) (i * 65) w4)
      rw [← HSET.out] at hr5
      have hx5 := HS.out _ ho5
      have hsz5 : (secV x.sure x.at_).size = 65 := secV_size HX.out
      refine held1 (i := 22) (by kernel_rfl) rfl (by rfl) (fun K' hK => ?_)
      refine wp_store_mid _ _ _ rfl bd (i * 65) (secV x.sure x.at_) rfl rfl (by rw [hsz5]; exact hth4) (by rw [hsz5]; exact secSize) (secV_one _ _) ?_
      refine hK.out _ _ hx5 (fun hHeld => ?_)
      clear hK K'
      try simp only [Act.put, List.setIfInBounds_toArray]
      refine wpAnyH_done (by kernel_rfl) ?_ _
      have H5 := Lib.hid (And.intro hr5 (HROK.out.2.trans ho5))
      clear hr5 ho5 hx5 hx4 hHeld hth4 hr4 ho4 hsz5
      go_wp2_with fail
      refine ⟨⟨k + 1, by omega, by go_num, H5.out.1, H5.out.2⟩, ?_⟩
      simp only [intOf]
      omega
    · have hkn : k = N := by omega
      rw [hkn, ← HNN.out, ← HKS.out, Dsk.fallTo_all] at hrk
      clear hkn hk
      obtain ⟨l1, k1, t1, hc1, _⟩ := hd1.cells
      have hcr := hok.has hc1 n1
      obtain ⟨hl1, hl2, hl3⟩ := hd1.lt
      have hpr : Pend wr mb 8192 (Dsk.pendI d.secs) := hd1.pend.keep (hok.block mb hl3 (by simp; omega))
      obtain ⟨w5, hclr, hp5, ho5⟩ := hpr.clear
      have hc5 := ho5.has hcr n2
      rw [HN.out] at hc5 hcr
      have hr5 := hrk.keep (ho5.block bd hrk.lt (by simp; omega))
      have c1 : wr.cell? ⟨g, 1, none⟩ = some (.map (some mb)) := hcr.cell 1
      have d2 : w5.cell? ⟨g, 2, none⟩ = some (.bool d.up) := hc5.cell 2
      have d4 : w5.cell? ⟨g, 4, none⟩ = some (.int .i64 (d.falls : Int)) := hc5.cell 4
      have d8 : w5.cell? ⟨g, 8, none⟩ = some (.bool d.arm.isSome) := hc5.cell 8
      have f2 : w5.frozen? ⟨g, 2, none⟩ = false := hc5.free 2
      have f4 : w5.frozen? ⟨g, 4, none⟩ = false := hc5.free 4
      have f8 : w5.frozen? ⟨g, 8, none⟩ = false := hc5.free 8
      have hfin : FailPost w g bd mb d f (.returned (.tuple #[])) (((w5.setCell ⟨g, 2, none⟩ (.bool false)).setCell ⟨g, 8, none⟩ (.bool false)).setCell ⟨g, 4, none⟩ (.int .i64 ((d.falls : Int) + 1))) := by
        have hs1 := ((hc5.set 2 (.bool false)).set 8 (.bool false)).set 4 (.int .i64 ((d.falls : Int) + 1))
        have hm : Only w5 (((w5.setCell ⟨g, 2, none⟩ (.bool false)).setCell ⟨g, 8, none⟩ (.bool false)).setCell ⟨g, 4, none⟩ (.int .i64 ((d.falls : Int) + 1))) g := ((Only.set w5 g 2 _).trans (Only.set _ g 8 _)).trans (Only.set _ g 4 _)
        refine ⟨rfl, ⟨⟨l1, k1, t1, ?_, fun n' f' e => by cases e⟩, ?_, ?_, Dsk.fall_good f H.out.good, n1, n2, n3, ?_, ?_⟩, ?_⟩
        · have e : (Dsk.fall f d).secs.length = n := by show (Dsk.fallGo f 0 d.secs).length = n; rw [Dsk.fallGo_len]; exact HN.out
          rw [e]
          exact hs1
        · exact hr5.keep (hm.block bd hr5.lt (by simp; omega))
        · refine ((hp5.keep (hm.block mb hp5.lt (by simp; omega))).mono (Nat.zero_le _)).same fun x => ?_
          exact Dsk.pendI_none (fun s hs => Dsk.fallGo_none s hs) x
        · show 0 < (Dsk.fallGo f 0 d.secs).length; rw [Dsk.fallGo_len]; exact H.out.pos
        · show (Dsk.fallGo f 0 d.secs).length ≤ 8192; rw [Dsk.fallGo_len]; exact H.out.most
        · exact (((Mv.of_below hb01 [g, bd, mb]).trans (Mv.of_only hok (by simp))).trans (Mv.of_only ho5 (by simp))).trans (Mv.of_only hm (by simp))
      have HFIN := Lib.hid hfin
      clear hfin hc5 hcr hr5 hp5 ho5 hpr hrk hok hc1 hd1 hb01 hbx1 hc hc0
      have hnlt : ¬ (k : Int) < (N : Int) := by omega
      go_wp2_with fail
      go_end0
      exact HFIN.out
end Go.Proofs.YthadcmbbdggneaaGreatDoor
