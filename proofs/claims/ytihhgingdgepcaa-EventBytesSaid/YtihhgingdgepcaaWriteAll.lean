/-
  The contract of octet's Writer.All.
-/
import Derived.Test.YtihhgingdgepcaaWrite
import Derived.Laws.CopyOwn
import Derived.Laws.MakeOwn
import Derived.Deep.RegionLaw
import Derived.Deep.DeepFit
namespace Go.Proofs.Ytihhgingdgepcaa
open Go.RowKit
set_option linter.unusedVariables false

theorem u8info : (Try.prog.info? 5).map (fun i => (i.zero, i.size, i.bytes)) = some (some (.int .u8 0), 1, 1) := by kernel_rfl
theorem u8size : (Try.prog.info? 5).map (·.size) = some 1 := by kernel_rfl

theorem made_zeros (n : Nat) : madeCells (Value.int .u8 0).cells n = (bcells (List.replicate n 0)).toArray := by
  apply Array.ext
  · simp [bcells, madeCells]
  · intro i h1 h2
    simp [bcells, madeCells, Value.cells, Nat.mod_one]
theorem splice_zeros (k : Nat) (c suf : List UInt8) :
    splice (bcells (List.replicate (k + c.length) 0 ++ suf)) k (bcells c) = bcells (List.replicate k 0 ++ (c ++ suf)) := by
  have h1 : List.replicate (k + c.length) (0 : UInt8) = List.replicate k 0 ++ List.replicate c.length 0 := List.replicate_append_replicate.symm
  rw [h1]
  simp only [splice, bcells, List.map_append, List.append_assoc, List.length_map]
  rw [List.take_append_of_le_length (by simp), List.take_of_length_le (by simp)]
  congr 2
  rw [← List.append_assoc, List.drop_append]
  simp
theorem bcells_one (l : List UInt8) : ∀ v ∈ bcells l, v.oneCell' = true := by
  intro v hv
  simp only [bcells, List.mem_map] at hv
  obtain ⟨c, _, rfl⟩ := hv
  rfl

/-- A spoiled writer gives nothing. -/
theorem all_bad (g : Nat) (st : Wt.St) (w : World) (h : Wr w g st) (hbad : st.2 = true) :
    Calls Try.prog 22 #[.pointer (some ⟨g, 0, none⟩)] w fun r w' => r = .returned (.tuple #[.string (S []), .bool false]) ∧ w = w' := by
  obtain ⟨P, hh, hc⟩ := h
  have h2 : w.cell? ⟨g, 2, none⟩ = some (.bool true) := by rw [hh.cell 2, ← hbad]; rfl
  clear hh hc hbad
  go_enter Try.func22, Try.ntmps22
  go_wp2_with fail
  go_ret2
  exact ⟨rfl, rfl⟩

set_option maxHeartbeats 2000000 in
theorem all_good (g : Nat) (st : Wt.St) (w : World) (h : Wr w g st) (hgood : st.2 = false) (hcap : (Wt.flat st).length ≤ 281474976710656) :
    Calls Try.prog 22 #[.pointer (some ⟨g, 0, none⟩)] w fun r w' => r = .returned (.tuple #[.string (S (Wt.flat st)), .bool true]) ∧ Below w.heap.size w w' := by
  obtain ⟨P, hh, hc⟩ := h
  have h0 : w.cell? ⟨g, 0, none⟩ = some (.pointer P) := hh.cell 0
  have h1 : w.cell? ⟨g, 1, none⟩ = some (.int .i64 (Wt.flat st).length) := hh.cell 1
  have h2 : w.cell? ⟨g, 2, none⟩ = some (.bool false) := by rw [hh.cell 2, ← hgood]; rfl
  have hglt := hh.lt
  have hz : (Wt.flat st).length = (Wt.flat (st.1, false)).length := rfl
  have hflat : Wt.flat st = Wt.flat (st.1, false) := rfl
  generalize hL : Wt.flat st = L at h1 hcap hz hflat ⊢
  have hz2 : L = Wt.flat (st.1, false) := hflat
  have HZ := Lib.hid hz2; clear hz hflat hz2 hL
  obtain ⟨i0, hi, hz0, hz1, hz2⟩ := info_parts u8info
  obtain ⟨n, hn⟩ : ∃ n, L.length = n := ⟨_, rfl⟩
  rw [hn] at h1 hcap
  have HN := Lib.hid hn; clear hn
  have hmk : ∀ W : World, (Instr.makeSlice 66 (.int .i64 (n : Int)) (.int .i64 (n : Int))).run Try.prog W = .ok (.slice (some ⟨W.heap.size, 0, none⟩) n n) (W.alloc (.cells (bcells (List.replicate n 0)).toArray 5)) := by
    intro W
    have h := run_make (P := Try.prog) W 66 5 i0 (.int .u8 0) Try.underlying66 hi hz0 .i64 .i64 (n : Int) (n : Int) (by omega) (by omega) (by rw [hz2]; omega) (by omega)
    rw [hz1, Nat.mul_one, Int.toNat_natCast, made_zeros] at h
    exact h
  clear hh hi hz0 hz1 hz2
  go_enter Try.func22, Try.ntmps22
  go_wp2_with fail
  clear hmk
  go_loopw [5, 6] (fun v5 v6 wr => ∃ (k : Nat) (cs : List (List UInt8)) (suf : List UInt8) (P : Option Addr), v5 = .int .i64 k ∧ v6 = .pointer P ∧ k ≤ n ∧ Chain w g 68 5 P cs ∧
      Hid (wr.heap[w.heap.size]? = some (.cells (bcells (List.replicate k 0 ++ suf)).toArray 5 (0, 0))) ∧ Hid (k = (Wt.flat (cs, false)).length) ∧ Hid (Wt.flat (cs, false) ++ suf = L) ∧ Below w.heap.size w wr)
    (fun v5 _ _ => (intOf v5).toNat)
  case atStart => exact ⟨n, st.1, [], P, rfl, rfl, Nat.le_refl _, hc, by rw [List.append_nil]; exact Lib.hid (Has.made w 5 (bcells (List.replicate n 0)).toArray), Lib.hid (by rw [← HZ.out, HN.out]), Lib.hid (by rw [← HZ.out]; simp), (Below.refl _ _).alloc (Nat.le_refl _) _⟩
  case round =>
    obtain ⟨k, cs, suf, P, rfl, rfl, hkn, hck, HH, HK, HL, hbk⟩ := hrel
    cases cs with
    | nil =>
      have hP : P = none := hck
      subst hP
      have hk0 : k = 0 := by rw [HK.out]; rfl
      subst hk0
      have hsuf : suf = L := by have := HL.out; simpa [Wt.flat] using this
      subst hsuf
      have hcv : ∀ W : World, W.heap[w.heap.size]? = some (.cells (bcells (List.replicate 0 0 ++ suf)).toArray 5 (0, 0)) → (convert 66 9 (.slice (some ⟨w.heap.size, 0, none⟩) n n)).run Try.prog W = .ok (.string (S suf)) W := fun W hW =>
        conv_text Try.underlying66 Try.underlying5 Try.underlying9 suf HN.out (fun i hi => by rw [Has.cell hW]; simp)
      have hcv1 := hcv wr HH.out
      clear hcv
      go_wp2_with fail
      go_ret2
      exact ⟨rfl, hbk⟩
    | cons c cs =>
      obtain ⟨q, prev, A, cap, bq, rfl, hqg, hbg, hh, hy, hcn, _, hcr⟩ := hck
      have hq0 : wr.cell? ⟨q, 0, none⟩ = some (.pointer prev) := (hh.below hbk hh.lt).cell 0
      have hq1 : wr.cell? ⟨q, 1, none⟩ = some (.slice A c.length cap) := (hh.below hbk hh.lt).cell 1
      obtain ⟨off, hA, hcells⟩ := hy hcn
      subst hA
      have hkc : k = (Wt.flat (cs, false)).length + c.length := by rw [HK.out]; simp [Wt.flat]
      obtain ⟨j, hj⟩ : ∃ j, (Wt.flat (cs, false)).length = j := ⟨_, rfl⟩
      rw [hj] at hkc
      have HJ := Lib.hid hj; clear hj
      have hcl : 0 < c.length := List.length_pos_iff.2 hcn
      have hbqlt := hy.lt hcn
      have HCELLS := Lib.hid hcells; clear hcells
      obtain ⟨m, hm⟩ : ∃ m, c.length = m := ⟨_, rfl⟩
      rw [hm] at hkc hcl hq1
      have hsub : IntKind.i64.wrap ((k : Int) - (m : Int)) = (j : Int) := by rw [IntKind.wrap_i64]; omega
      have hsub2 : (k : Int) - (m : Int) = (j : Int) := by omega
      have hj0 : (0 : Int) ≤ (j : Int) := by omega
      have hjn : (j : Int) ≤ (n : Int) := by omega
      have hjn2 : ¬ n = j := by omega
      have HM := Lib.hid hm; clear hm
      have HKC := Lib.hid hkc; clear hkc
      have HQ := Lib.hid hh
      clear hcn hh hy
      go_wp2_with fail
      have hnc : (bcells c).length = Nat.min m (n - j) := by
        rw [show (bcells c).length = c.length by simp [bcells], HM.out]
        exact (Nat.min_eq_left (by have := HKC.out; omega)).symm
      have hsrc : ∀ (W : World), Below w.heap.size w W → ∀ i v, (bcells c)[i]? = some v → W.cell? ((⟨bq, off, none⟩ : Addr).add i) = some v := by
        intro W hW i v hv
        have hil : i < c.length := by
          have := (List.getElem?_eq_some_iff.1 hv).1
          simpa [bcells] using this
        rw [show (⟨bq, off, none⟩ : Addr).add i = ⟨bq, off + i, none⟩ by unfold Addr.add; split <;> simp_all]
        rw [hW.cell (p := ⟨bq, off + i, none⟩) hbqlt, HCELLS.out i hil, hv]
      have hfit : j + (bcells c).length ≤ (bcells (List.replicate k 0 ++ suf)).length := by
        have := HKC.out; have := HM.out; simp [bcells]; omega
      have HNC := Lib.hid hnc; clear hnc
      have HSRC := Lib.hid hsrc; clear hsrc
      have HFIT := Lib.hid hfit; clear hfit
      go_region_law (refine step_copy_splice rfl (.tmp 43) (.tmp 47) 66 66 rfl 5 Try.underlying66 u8size (some ⟨w.heap.size, j, none⟩) (some ⟨bq, off, none⟩) (n - j) (n - j) m cap (by simp [Act.eval]) (by simp [Act.eval]) w.heap.size j (bcells (List.replicate k 0 ++ suf)) 5 HH.out (bcells c) HNC.out (fun _ => ⟨rfl, _, rfl, HSRC.out _ hbk.drew⟩) HFIT.out (bcells_one c) w.heap.size w hbk.drew (Nat.le_refl _) ?_; intro w2 HG2 hB2)
      all_goals
        have hq02 : w2.cell? ⟨q, 0, none⟩ = some (.pointer prev) := (HQ.out.below hB2 HQ.out.lt).cell 0
        go_wp2_with fail
        go_roundw
        case rel =>
          refine ⟨j, cs, c ++ suf, prev, rfl, rfl, by omega, hcr, Lib.hid ?_, Lib.hid HJ.out.symm, Lib.hid ?_, hB2⟩
          · have h := HG2.out
            rw [HKC.out, ← HM.out, splice_zeros] at h
            exact h
          · rw [← HL.out]
            simp [Wt.flat]
        case measure => have := HKC.out; simp [intOf]; omega
end Go.Proofs.Ytihhgingdgepcaa
