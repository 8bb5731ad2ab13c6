/-
  The contracts of a state's Sum, and of sha's Sum.
-/
import Derived.Test.YtgjknfphmmlcdaaDoorShaWr
namespace Go.Proofs.YtgjknfphmmlcdaaDoor
open Go.RowKit
set_option linter.unusedVariables false

/-- The first k words as bytes. -/
def outk (s : S8) (k : Nat) : List UInt8 := ((s.toList.take k).map fun x => bek x.toNat 4).flatten
theorem outk_succ (s : S8) (k : Nat) (h : k < 8) : outk s (k + 1) = outk s k ++ bek (s.toList.getD k 0).toNat 4 := by
  have h8 : k < s.toList.length := h
  unfold outk
  rw [List.take_succ_eq_append_getElem h8, List.map_append, List.flatten_append]
  simp [List.getD, h8]
theorem outk_len (s : S8) : ∀ k, k ≤ 8 → (outk s k).length = 4 * k
  | 0, _ => rfl
  | k + 1, h => by rw [outk_succ s k (by omega), List.length_append, outk_len s k (by omega), bek_len]; omega
theorem outk_all (s : S8) : outk s 8 = Sha.out s := rfl
theorem stc_word (s : S8) (blk : List UInt8) (n : Nat) {w : World} {g : Nat} {T : TypeId} (h : Has w g T (stc s blk n).toArray) (k : Nat) (hk : k < 8) :
    w.cell? ⟨g, k, none⟩ = some (.int .u32 ((s.toList.getD k 0).toNat : Int)) := by
  have hk' : k < s.toList.length := hk
  have := stc_range0 s blk n h k (.int .u32 ((s.toList.getD k 0).toNat : Int)) (by simp [wcells, List.getD, hk'])
  simpa using this
theorem stinfo : (Tryd.prog.info? 124).map (·.size) = some 74 := by kernel_rfl

set_option maxRecDepth 100000 in
set_option maxHeartbeats 8000000 in
theorem sum_st (M : List UInt8) (g : Nat) (w : World) (h : StAt w 124 g M M.length) (hM : M.length ≤ 5000000000000000) (hT : Tabs w) (hg : 2 ≤ g) :
    Calls Tryd.prog 55 #[.pointer (some ⟨g, 0, none⟩)] w (TextPost w (Sha.sum M)) := by
  obtain ⟨c72, c73⟩ := h.size
  have hglt := h.lt
  obtain ⟨out, hout⟩ : ∃ o, Sha.sum M = o := ⟨_, rfl⟩
  rw [hout]
  have HOUT := Lib.hid hout; clear hout
  obtain ⟨pad, hpad⟩ : ∃ p, padb M.length = p := ⟨_, rfl⟩
  have hpl := padb_len M.length
  rw [hpad] at hpl
  have hpc := fun W => padding_any M.length W (by omega)
  rw [hpad] at hpc
  have HPC := Lib.hid hpc; clear hpc
  have HPAD := Lib.hid (And.intro hpad hpl); clear hpad hpl
  obtain ⟨blk, hb, hh, htk⟩ := h
  have hsl := stc_len (Sha.hashN M (M.length / 64)) blk M.length hb
  obtain ⟨cs, hcs⟩ : ∃ c, stc (Sha.hashN M (M.length / 64)) blk M.length = c := ⟨_, rfl⟩
  rw [hcs] at hh hsl
  have HST : Hid (∀ (W : World) (g2 : Nat), Has W g2 124 cs.toArray → StAt W 124 g2 M M.length) := fun W g2 hW => ⟨blk, hb, by rw [hcs]; exact hW, htk⟩
  have hri : (Tryd.prog.info? 124).map (·.size) = some cs.toArray.size := by rw [stinfo, List.size_toArray, hsl]
  have hone : cs.toArray.all (·.oneCell') = true := by
    rw [← hcs]
    simp [stc, S8.toList, bcells, Value.oneCell']
  have HRI := Lib.hid hri; clear hri
  have HONE := Lib.hid hone; clear hone
  have HSL : Hid (cs.toArray.size = 74) := Lib.hid (by rw [List.size_toArray, hsl])
  clear hsl hcs htk hb
  have hm0 : (0 : Int) ≤ (M.length : Int) := by omega
  have hm1 : (M.length : Int) ≤ 5000000000000000 := by omega
  have hzv := zero_state
  go_enter Tryd.func55, Tryd.ntmps55
  go_upto_region 4 with (first
    | (refine wpList_load_row rfl 124 (.tmp 16) rfl g ?e1 _ _ _ _ hh Tryd.underlying124 rfl HRI.out ?_; (case e1 => rfl))
    | (refine wpList_store_row rfl 124 (.tmp 3) (.tmp 17) rfl _ cs.toArray ?e2 ?e3 _ _ (heap_alloc_new _ _) HRI.out ?e4 HONE.out ?_; (case e2 => rfl); (case e3 => rfl); (case e4 => rw [HSL.out]; rfl)))
  clear hzv
  generalize hW2 : World.setRow (World.alloc w _) w.heap.size cs.toArray = W2
  have hb2 : Below w.heap.size w W2 := by rw [← hW2]; exact below_setRow ((Below.refl _ _).alloc (Nat.le_refl _) _) (Nat.le_refl _) _
  have hg2 : Has W2 w.heap.size 124 cs.toArray := by rw [← hW2]; exact setRow_heap _ _ _ _ _ _ (heap_alloc_new _ _)
  have hs2 : W2.heap.size = w.heap.size + 1 := by rw [← hW2]; simp
  have c72' : W2.cell? ⟨g, 72, none⟩ = some (.int .i64 (M.length : Int)) := (hb2.cell (p := ⟨g, 72, none⟩) hglt).trans c72
  clear hW2 c72 c73
  have HS2 := Lib.hid hs2; clear hs2
  go_wp2_with fail
  refine (HPC.out _).mono ?_
  rintro r3 w3 ⟨rfl, hb3⟩
  have hst3 := (HST.out _ _ hg2).below hb3 (by have := HS2.out; omega)
  have hb03 := hb2.trans (hb3.mono (by have := HS2.out; omega))
  have hmm : (M ++ pad).length ≤ 10000000000000000 := by
    rw [List.length_append]; have := HPAD.out.2; have := Nat.mod_lt (119 - M.length % 64) (show 0 < 64 by decide); omega
  have hWr := write_st (M ++ pad) M.length w.heap.size w3 (hst3.more pad) (by rw [List.length_append]; omega) hmm (hT.below hb03 hT.2.2) hT.2.2
  rw [List.drop_left] at hWr
  have HWR := Lib.hid hWr; clear hWr hmm hst3 hg2
  go_wp2_with fail
  refine (HWR.out).mono ?_
  rintro r4 w4 ⟨rfl, hst4, ho4⟩
  have hb04 : Below w.heap.size w w4 := ho4.below hb03 (by have := hb3.size; have := HS2.out; omega) (Nat.le_refl _)
  obtain ⟨blk4, hbl4, hh4, _⟩ := hst4
  have hout2 : Sha.out (Sha.hashN (M ++ pad) ((M ++ pad).length / 64)) = out := by
    rw [← HOUT.out, Sha.sum, HPAD.out.1]
  generalize Sha.hashN (M ++ pad) ((M ++ pad).length / 64) = sf at hh4 hout2
  have hwd := fun k hk => stc_word sf blk4 (M ++ pad).length hh4 k hk
  have HWD := Lib.hid hwd; clear hwd hh4
  have HOUT2 := Lib.hid hout2; clear hout2 HOUT HWR HPC
  have hgs : w.heap.size < w4.heap.size := by have := ho4.size; have := hb3.size; have := HS2.out; omega
  clear ho4 hb3 hb2 hb03 c72' hbl4
  go_wp2_with fail
  go_loopw [4, 24] (fun v4 v24 wr => ∃ k : Nat, k ≤ 8 ∧ v24 = .int .i64 k ∧ wr.ownsRow (w.heap.size + 1) 5 1 v4 (outk sf k).length (bcells (outk sf k)) ∧ Below (w.heap.size + 1) w4 wr) (fun _ v24 _ => 8 - (intOf v24).toNat)
  case atStart => exact ⟨0, Nat.zero_le _, rfl, World.ownsRow_nil _ _ _ _, Below.refl _ _⟩
  case round =>
    obtain ⟨k, hk, rfl, hown, hbk⟩ := hrel
    by_cases hlt : k < 8
    · have hk0 : (0 : Int) ≤ (k : Int) := by omega
      have hki : (k : Int) < 8 := by omega
      have hc := (hbk.cell (p := ⟨w.heap.size, k, none⟩) (show w.heap.size < w.heap.size + 1 by omega)).trans (HWD.out k hlt)
      have hol := outk_len sf k (by omega)
      have hnx := outk_succ sf k hlt
      have hsz := hbk.size
      obtain ⟨x, hx⟩ : ∃ x, sf.toList.getD k 0 = x := ⟨_, rfl⟩
      rw [hx] at hc hnx
      have hxl := x.toNat_lt
      have hA := fun W (hW : W.ownsRow (w.heap.size + 1) 5 1 u4 (outk sf k).length (bcells (outk sf k))) (h2 : w.heap.size + 1 ≤ W.heap.size) => appendNumber_any u4 (outk sf k) x.toNat 4 (w.heap.size + 1) W hW h2 (by omega) (by decide) (Nat.lt_of_lt_of_le hxl (by decide))
      rw [← hnx] at hA
      have HA := Lib.hid hA; clear hA hnx hx hol
      have hx0 : (0 : Int) ≤ (x.toNat : Int) := by omega
      have hx1 : (x.toNat : Int) < 4294967296 := by have : x.toNat < 4294967296 := hxl; omega
      clear hxl
      go_wp2_with fail
      refine (HA.out _ hown (by omega)).mono ?_
      rintro r5 w5 ⟨v5, rfl, hown5, hb5⟩
      clear hown
      go_wp2_with fail
      go_roundw
      case rel => exact ⟨k + 1, by omega, by go_num, hown5, hbk.trans hb5⟩
      case measure => simp [intOf]; omega
    · have hke : k = 8 := by omega
      have hki : ¬ (k : Int) < 8 := by omega
      rw [hke, outk_all, HOUT2.out] at hown
      clear hke hlt hk
      obtain ⟨b, A, cap, rfl, hby⟩ := own_bytes hown
      have hcv := conv_bytes_text (P := Tryd.prog) Tryd.underlying82 Tryd.underlying5 Tryd.underlying9 hby cap
      clear hown
      have hfin := hb04.trans (hbk.mono (Nat.le_succ _))
      go_wp2_with fail
      go_ret
      exact ⟨rfl, hfin⟩

set_option maxHeartbeats 2000000 in
theorem sum_any (M : List UInt8) (w : World) (hM : M.length ≤ 5000000000000000) (hT : Tabs w) :
    Calls Tryd.prog 49 #[.string (S M)] w (TextPost w (Sha.sum M)) := by
  have hS := fun W (h : StAt W 124 w.heap.size M M.length) (hTW : Tabs W) => sum_st M w.heap.size W h hM hTW hT.2.2
  generalize Sha.sum M = out at hS ⊢
  have HS := Lib.hid hS; clear hS
  go_enter Tryd.func49, Tryd.ntmps49
  go_wp2_with fail
  refine (new_any w hT).mono ?_
  rintro r1 w1 ⟨rfl, hst1, hb1, hs1⟩
  have HS1 := Lib.hid hs1; clear hs1
  have hst1' := hst1.more M
  rw [List.nil_append] at hst1'
  have hW := write_st M 0 w.heap.size w1 hst1' (Nat.zero_le _) (by omega) (hT.below hb1 hT.2.2) hT.2.2
  rw [List.drop_zero] at hW
  have HW := Lib.hid hW; clear hW hst1 hst1'
  go_wp2_with fail
  refine (HW.out).mono ?_
  rintro r2 w2 ⟨rfl, hst2, ho2⟩
  have hb2 : Below w.heap.size w w2 := ho2.below hb1 (by have := HS1.out; omega) (Nat.le_refl _)
  go_wp2_with fail
  refine (HS.out _ hst2 (hT.below hb2 hT.2.2)).mono ?_
  rintro r3 w3 ⟨rfl, hb3⟩
  go_wp2_with fail
  go_ret
  exact ⟨rfl, hb2.trans (hb3.mono hb2.size)⟩
end Go.Proofs.YtgjknfphmmlcdaaDoor
