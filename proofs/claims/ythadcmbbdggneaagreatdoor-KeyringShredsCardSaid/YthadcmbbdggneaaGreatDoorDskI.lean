/-
  A disk's image: all that its sectors hold for good, one behind another.
-/
import Derived.Test.YthadcmbbdggneaaGreatDoorDskF
import Derived.Laws.AppendOwn
import Derived.Outline
namespace Go.Proofs.YthadcmbbdggneaaGreatDoor
open Go.RowKit
set_option linter.unusedVariables false

theorem iu8 : (Tryz.prog.info? 5).map (fun i => (i.zero, i.size, i.bytes)) = some (some (.int .u8 0), 1, 1) := by kernel_rfl
theorem made_noughts (n : Nat) : madeCells (Value.int .u8 0).cells n = (bcells (List.replicate n 0)).toArray := by
  apply Array.ext
  · simp [bcells, madeCells]
  · intro i h1 h2
    simp [bcells, madeCells, Value.cells, Nat.mod_one]
/-- The first k sectors' contents, one behind another. -/
def Dsk.img (L : List Dsk.Sec) : List UInt8 := (L.map (·.sure)).flatten

theorem Dsk.img_len {L : List Dsk.Sec} (h : ∀ s ∈ L, s.sure.length = 64) : (Dsk.img L).length = 64 * L.length := by
  induction L with
  | nil => rfl
  | cons s L ih =>
    have h1 := ih (fun x hx => h x (List.mem_cons_of_mem _ hx))
    have h2 := h s List.mem_cons_self
    simp only [Dsk.img, List.map_cons, List.flatten_cons, List.length_append, List.length_cons] at h1 ⊢
    omega
theorem own_stays {w w' : World} {B e s n : Nat} {v : Value} {xs : List Value} (h : w.ownsRow B e s v n xs) (hb : ∀ k, k < w.heap.size → w'.heap[k]? = w.heap[k]?) : w'.ownsRow B e s v n xs := by
  refine ⟨h.1, ?_⟩
  rcases h.2 with h0 | ⟨g, cap, cur, hv, hB, hg, hr⟩
  · exact Or.inl h0
  · refine Or.inr ⟨g, cap, cur, hv, hB, ?_, hr⟩
    rw [hb g (Has.lt (w := w) (g := g) (t := e) (cs := cur) hg)]
    exact hg
theorem Dsk.img_next {L : List Dsk.Sec} {k : Nat} {s : Dsk.Sec} (hs : L[k]? = some s) : Dsk.img (L.take (k + 1)) = Dsk.img (L.take k) ++ s.sure := by
  rw [List.take_add_one, hs]
  simp only [Dsk.img, Option.toList, List.map_append, List.flatten_append, List.map_cons, List.map_nil, List.flatten_cons, List.flatten_nil, List.append_nil]

set_option maxRecDepth 100000 in
set_option maxHeartbeats 2000000 in
theorem image_any {w : World} {g bd mb : Nat} {d : Dsk.St} (h : DiskAt w g bd mb d) :
    Calls Tryz.prog 26 #[.pointer (some ⟨g, 0, none⟩)] w fun r w' => r = .returned (.string (S (Dsk.img d.secs))) ∧ Below w.heap.size w w' := by
  have HW := Lib.hid (works_any h)
  obtain ⟨l0, k0, t0, hc, hr⟩ := h.cells
  obtain ⟨c, _⟩ := cells9 hc
  have hlts := h.lt
  have hmost := h.most
  have hpos := h.pos
  have hrows := h.rows
  have hgood : ∀ s ∈ d.secs, s.sure.length = 64 := fun s hs => (h.good s hs).1
  obtain ⟨i0, hi, hz0, hz1, hz2⟩ := info_parts iu8
  generalize d.secs = L at *
  clear hc hr h
  have hmk : ∀ W : World, (Instr.makeSlice 62 (.int .i64 0) (.int .i64 ((L.length : Int) * 64))).run Tryz.prog W = .ok (.slice (some ⟨W.heap.size, 0, none⟩) 0 (64 * L.length)) (W.alloc (.cells (bcells (List.replicate (64 * L.length) 0)).toArray 5)) := by
    intro W
    have h := run_make (P := Tryz.prog) W 62 5 i0 (.int .u8 0) Tryz.underlying62 hi hz0 .i64 .i64 0 ((L.length : Int) * 64) (by omega) (by omega) (by rw [hz2]; omega) (by omega)
    have t2 : ((L.length : Int) * 64).toNat = 64 * L.length := by omega
    rw [hz1, Nat.mul_one, t2, made_noughts] at h
    exact h
  have hown0 : (w.alloc (.cells (bcells (List.replicate (64 * L.length) 0)).toArray 5)).ownsRow w.heap.size 5 1 (.slice (some ⟨w.heap.size, 0, none⟩) 0 (64 * L.length)) 0 (bcells (Dsk.img (L.take 0))) :=
    ⟨by simp [bcells, Dsk.img], Or.inr ⟨w.heap.size, 64 * L.length, _, rfl, Nat.le_refl _, Has.made _ _ _, Nat.zero_le _, by unfold maxLen; omega, by simp [bcells], by simp [bcells, Dsk.img]⟩⟩
  have HI := Lib.hid (And.intro hi (And.intro hz0 (And.intro hz1 hz2))); clear hi hz0 hz1 hz2
  have HOWN0 := Lib.hid hown0; clear hown0
  have hl0 : (0 : Int) ≤ (L.length : Int) * 64 := by omega
  have hl1 : (L.length : Int) * 64 ≤ 1000000 := by omega
  go_enter Tryz.func26, Tryz.ntmps26
  go_wp2_with fail
  refine HW.out.mono ?_
  rintro r w1 ⟨rfl, rfl⟩
  go_wp2_with fail
  clear hmk
  go_loopw [3, 21] (fun v2 v21 wr => ∃ k : Nat, k ≤ L.length ∧ v21 = .int .i64 k ∧ wr.ownsRow w.heap.size 5 1 v2 (64 * k) (bcells (Dsk.img (L.take k))) ∧ Below w.heap.size w wr) (fun _ v21 _ => L.length - (intOf v21).toNat)
  case atStart => exact ⟨0, Nat.zero_le _, rfl, HOWN0.out, (Below.refl _ _).alloc (Nat.le_refl _) _⟩
  case round =>
    obtain ⟨k, hk, rfl, hown, hbk⟩ := hrel
    by_cases hlt : k < L.length
    · have hk0 : (0 : Int) ≤ (k : Int) := by omega
      have hki : (k : Int) < (L.length : Int) := by omega
      obtain ⟨z, hz, hzs⟩ := zeroSome
      have HZS := Lib.hid hzs; clear hzs
      have hs := List.getElem?_eq_getElem hlt
      generalize L[k] = s at hs
      have hnx := Dsk.img_next hs
      have hl := hgood s (List.mem_of_getElem? hs)
      have hrange := rangeAt_keep (hrows.at hs) (hbk.block bd hlts.2.1)
      have hsl' := secSz (a := s.at_) hl
      have hone := secV_one s.sure s.at_
      have hsz := secV_size (a := s.at_) hl
      have HRG := Lib.hid hrange
      have HI3 := Lib.hid hsl'
      have HI2 : Hid ((Tryz.prog.info? 87).map (·.size) = some (secV s.sure s.at_).size) := Lib.hid (by rw [hsz]; exact secSize)
      have HSZ := Lib.hid hsz
      have HO2 := Lib.hid hone
      clear hrange hsl' hone hsz
      have hrow := setRow_heap (wr.alloc (.cells z 87)) wr.heap.size z (secV s.sure s.at_) 87 (0, 0) (heap_alloc_new _ _)
      have hgr : ((wr.alloc (.cells z 87)).setRow wr.heap.size (secV s.sure s.at_)).heap.size = wr.heap.size + 1 := by simp [World.setRow]
      have hb2 := below_setRow (w0 := wr) (B := wr.heap.size) (g := wr.heap.size) ((Below.refl _ wr).alloc (Nat.le_refl _) (.cells z 87)) (Nat.le_refl _) (secV s.sure s.at_)
      have hb3 : Below w.heap.size w ((wr.alloc (.cells z 87)).setRow wr.heap.size (secV s.sure s.at_)) := hbk.trans ⟨hb2.os, hb2.tape, hb2.output, hb2.size, fun i hi => hb2.block i (Nat.lt_of_lt_of_le hi hbk.size)⟩
      have hown2 : ((wr.alloc (.cells z 87)).setRow wr.heap.size (secV s.sure s.at_)).ownsRow w.heap.size 5 1 u3 (64 * k) (bcells (Dsk.img (L.take k))) := own_stays hown hb2.block
      have HOW := Lib.hid hown2
      have HB3 := Lib.hid hb3
      have HROW : Hid (Has ((wr.alloc (.cells z 87)).setRow wr.heap.size (secV s.sure s.at_)) wr.heap.size 87 (secV s.sure s.at_)) := Lib.hid hrow
      have hsl := fun (b : Nat) (W : World) => arr_all (P := Tryz.prog) Tryz.underlying85 Tryz.sizeOf5 (by decide) b W
      clear hb2 hb3 hown2 hrow hown
      go_upto_region 7 with (first
        | (refine wpList_load_mid rfl 87 (.tmp 23) rfl bd (k * 65) ?e1 _ _ HRG.out Tryz.underlying87 rfl HI3.out ?_; (case e1 => rfl))
        | (refine wpList_store_row rfl 87 (.tmp 5) (.tmp 24) rfl wr.heap.size (secV s.sure s.at_) ?e2 ?e3 _ _ (heap_alloc_new _ _) HI2.out ?e4 HO2.out ?_; (case e2 => rfl); (case e3 => rfl); (case e4 => rw [HSZ.out, HZS.out])))
      generalize ((wr.alloc (.cells z 87)).setRow wr.heap.size (secV s.sure s.at_)) = W2 at *
      have hnew : ∀ (j : Nat) (u : Value), (bcells s.sure)[j]? = some u → W2.cell? ((⟨wr.heap.size, 0, none⟩ : Addr).add j) = some u := by
        intro j u hu
        have hj : j < s.sure.length := by
          have := List.getElem?_eq_some_iff.1 hu
          obtain ⟨h1, _⟩ := this
          simpa [bcells] using h1
        rw [show (⟨wr.heap.size, 0, none⟩ : Addr).add j = ⟨wr.heap.size, j, none⟩ from by unfold Addr.add; split <;> simp_all, HROW.out.cell, List.getElem?_toArray, secVals_byte hj]
        exact hu
      have HNEW := Lib.hid hnew; clear hnew
      have hb1 : ∀ u ∈ bcells s.sure, u.oneCell' = true := by
        intro u hu
        simp only [bcells, List.mem_map] at hu
        obtain ⟨c, _, rfl⟩ := hu
        rfl
      have HONE := Lib.hid hb1; clear hb1
      have hbl : (bcells s.sure).length = 64 * 1 := by rw [bcells_len, hl]
      have hbase2 : w.heap.size ≤ W2.heap.size := HB3.out.size
      have hk2 : 64 * k + 64 ≤ 1000000 := by omega
      go_wp2_with (at_builtin; refine wpList_append_own _ rfl (.tmp 25) (.tmp 27) 62 rfl w.heap.size 5 i0 (.int .u8 0) 1 1 Tryz.underlying62 HI.out.1 HI.out.2.1 HI.out.2.2.1 HI.out.2.2.2 rfl (by decide) u3 (64 * k) (bcells (Dsk.img (L.take k))) rfl HOW.out ⟨wr.heap.size, 0, none⟩ 64 64 (bcells s.sure) rfl hbl HNEW.out HONE.out (by simp only [maxLen]; omega) (by omega) (by omega) ?_; intro v8 w3 hown3 hg3 hnil3)
      have hown4 : w3.ownsRow w.heap.size 5 1 v8 (64 * (k + 1)) (bcells (Dsk.img (L.take (k + 1)))) := by
        rw [hnx, show bcells (Dsk.img (L.take k) ++ s.sure) = bcells (Dsk.img (L.take k)) ++ bcells s.sure from by simp [bcells]]
        exact hown3
      have hb4 : Below w.heap.size w w3 := ⟨hg3.os.trans HB3.out.os, hg3.tape.trans HB3.out.tape, hg3.output.trans HB3.out.output, Nat.le_trans HB3.out.size hg3.size, fun i hi => (hg3.block i (Nat.lt_of_lt_of_le hi HB3.out.size) (fun e => by have := (HOW.out.lt i e.symm).1; omega)).trans (HB3.out.block i hi)⟩
      clear hown3 hg3 hnil3
      go_wp2_with fail
      go_roundw
      case rel => exact ⟨k + 1, by omega, by go_num, hown4, hb4⟩
      case measure => simp [intOf]; omega
    · have hke : k = L.length := by omega
      have hki : ¬ (k : Int) < (L.length : Int) := by omega
      rw [hke, List.take_length] at hown
      rw [hke]
      rw [hke] at hki
      have hil := Dsk.img_len hgood
      obtain ⟨M, hM⟩ : ∃ M, Dsk.img L = M := ⟨_, rfl⟩
      rw [hM] at hown hil
      have HM := Lib.hid hM; clear hM
      rcases hown.2 with ⟨_, h0⟩ | ⟨gx, cap, cur, rfl, hB, hg, _, _, _, htk⟩
      · omega
      · have hcv : (convert 62 9 (.slice (some ⟨gx, 0, none⟩) (64 * L.length) cap)).run Tryz.prog wr = .ok (.string (S M)) wr :=
          conv_text Tryz.underlying62 Tryz.underlying5 Tryz.underlying9 M hil (fun i hi => by
            have hx : wr.cell? ⟨gx, i, none⟩ = cur[i]? := Has.cell (w := wr) (g := gx) (t := 5) (cs := cur) hg i
            rw [Nat.zero_add, hx, ← htk, List.getElem?_take_of_lt (by omega), Array.getElem?_toList])
        clear hown htk hg hlt hk hke
        go_wp2_with fail
        go_ret
        exact ⟨by rw [HM.out]; rfl, hbk⟩
end Go.Proofs.YthadcmbbdggneaaGreatDoor
