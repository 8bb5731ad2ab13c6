/-
  The contract of mill's With.
-/
import Derived.Test.YtphhaiccpllnpaaDoorMillEnter
import Derived.Test.YtphhaiccpllnpaaDoorMillLaw
namespace Go.Proofs.YtphhaiccpllnpaaDoor
open Go.RowKit
set_option linter.unusedVariables false

def WithPost (w : World) (l : List Mill.En) (e : Ending) (w' : World) : Prop :=
  Below w.heap.size w w' ∧ ((Mill.right l = true ∧ e = .returned (.tuple #[.pointer (some ⟨w.heap.size + 1, 0, none⟩), .int .i64 0]) ∧ MillAt w' (w.heap.size + 1) w.heap.size l Mill.fresh) ∨
    (Mill.right l = false ∧ e = .returned (.tuple #[.pointer none, .int .i64 1])))

/-- The table's block has been made. -/
theorem tab_made {w w1 : World} {g nb : Nat} (h : Has w1 g 67 (millCells none nb [] Mill.fresh)) (hn : Noted w1 nb []) (hgn : g ≠ nb) :
    MillTab ((w1.setCell ⟨g, 0, none⟩ (.map (some w1.heap.size))).alloc (.map #[] 0)) g nb w1.heap.size [] Mill.fresh := by
  have hgl := h.lt
  have hnl := hn.lt
  have hs : (w1.setCell ⟨g, 0, none⟩ (.map (some w1.heap.size))).heap.size = w1.heap.size := by simp [World.setCell]
  have ham := Asks.made (w1.setCell ⟨g, 0, none⟩ (.map (some w1.heap.size)))
  rw [hs] at ham
  refine ⟨(h.set 0 _).of_alloc _, ham, hn.keep ?_, hgn, by omega, by omega, (show 0 < maxLen by decide)⟩
  exact (Below.heap_alloc _ _ _ (by rw [hs]; exact hnl)).trans (Below.heap_setCell _ _ _ _ (show nb ≠ g by omega))

set_option maxRecDepth 100000 in
set_option maxHeartbeats 4000000 in
theorem with_any (A : Option Addr) (l : List Mill.En) (cap : Nat) (hlen : l.length ≤ 1000000) (hfit : Mill.fit l) (w : World) (hE : Ents w A l) (hT : Tabs w) :
    Calls Tryd.prog 33 #[.slice A l.length cap] w (WithPost w l) := by
  have hmm := @run_makeMap Tryd.prog
  have hzE : ∀ W, (zeroValue 85).run Tryd.prog W = .ok (.agg #[.bool false, .string (S []), .string (S []), .string (S [])]) W := fun W => by kernel_rfl
  have HT := Lib.hid hT; clear hT
  have HE := Lib.hid hE; clear hE
  have HFIT := Lib.hid hfit; clear hfit
  have HLEN := Lib.hid hlen
  by_cases hl : l = []
  · subst hl
    go_enter Tryd.func33, Tryd.ntmps33
    go_wp2_with fail
    refine (newMill_any w).mono ?_
    rintro r1 w1 ⟨rfl, hM1, hb1, hs1, hh1⟩
    have k0 : w1.cell? ⟨w.heap.size + 1, 0, none⟩ = some (.map none) := hh1.cell 0
    have f0 := hh1.free 0
    have hgl := hh1.lt
    obtain ⟨tv, _, _, hn1, _⟩ := hM1
    have HTM := Lib.hid (tab_made (w := w) hh1 hn1 (by omega)); clear hn1 hh1
    have HS1 := Lib.hid hs1; clear hs1
    go_wp2_with fail
    refine wp_loop_rounds 1 ?_
    rw [rounds_succ]
    go_wp2_with fail
    go_ret2
    exact ⟨(hb1.setCell (p := ⟨w.heap.size + 1, 0, none⟩) (by simp) _).alloc (by simp [World.setCell]; have := HS1.out; omega) _, Or.inl ⟨rfl, rfl, HTM.out.at⟩⟩
  · obtain ⟨b, off, rfl, hc⟩ := HE.out hl
    have hblt : b < w.heap.size := World.block_lt_of_cell? w ⟨b, off + 0 * 4, none⟩ (hc 0 (List.length_pos_iff.2 hl)).1
    clear hl
    have HC := Lib.hid hc; clear hc
    go_enter Tryd.func33, Tryd.ntmps33
    go_wp2_with fail
    refine (newMill_any w).mono ?_
    rintro r1 w1 ⟨rfl, hM1, hb1, hs1, hh1⟩
    have k0 : w1.cell? ⟨w.heap.size + 1, 0, none⟩ = some (.map none) := hh1.cell 0
    have f0 := hh1.free 0
    have hgl := hh1.lt
    obtain ⟨tv, _, _, hn1, _⟩ := hM1
    have htm := tab_made (w := w) hh1 hn1 (by omega)
    have HS1 := Lib.hid hs1; clear hs1
    go_upto_region 3 with (fail)
    have hs1 := HS1.out
    have hb2 : Below w.heap.size w ((w1.setCell ⟨w.heap.size + 1, 0, none⟩ (.map (some w1.heap.size))).alloc (.map #[] 0)) := (hb1.setCell (p := ⟨w.heap.size + 1, 0, none⟩) (by simp) _).alloc (by simp [World.setCell]; omega) _
    have htb : w.heap.size ≤ w1.heap.size := by omega
    clear k0 f0 hn1 hh1 hb1 hs1
    generalize w1.heap.size = tb at htm hb2 htb ⊢
    generalize World.alloc (World.setCell w1 _ _) _ = W at htm hb2 ⊢
    go_wp2_with fail
    go_loopw [6, 14] (fun v6 v14 wr => ∃ i : Nat, i ≤ l.length ∧ v14 = .int .i64 i ∧ Mill.right (l.take i) = true ∧ MillTab wr (w.heap.size + 1) w.heap.size tb (l.take i) Mill.fresh ∧ Below w.heap.size w wr) (fun _ v14 _ => l.length - (intOf v14).toNat)
    case atStart => exact ⟨0, Nat.zero_le _, rfl, rfl, htm, hb2⟩
    case round =>
      obtain ⟨i, hi, rfl, hr, hm, hbr⟩ := hrel
      by_cases hlt : i < l.length
      · obtain ⟨c0, c1, c2, c3⟩ := HC.out i hlt
        have c0 := (hbr.cell (p := ⟨b, off + i * 4, none⟩) hblt).trans c0
        have c1 := (hbr.cell (p := ⟨b, off + i * 4 + 1, none⟩) hblt).trans c1
        have c2 := (hbr.cell (p := ⟨b, off + i * 4 + 2, none⟩) hblt).trans c2
        have c3 := (hbr.cell (p := ⟨b, off + i * 4 + 3, none⟩) hblt).trans c3
        have hbl := Nat.lt_of_lt_of_le hblt hbr.size
        have hi0 : (0 : Int) ≤ (i : Int) := by omega
        have hii : (i : Int) < (l.length : Int) := by omega
        have hrt := right_take l i hlt
        have hrb := right_bad l i hlt
        have hef := HFIT.out _ (List.getElem_mem hlt)
        have htk : l.take (i + 1) = l.take i ++ [l[i]'hlt] := List.take_succ_eq_append_getElem hlt
        have hEn : ∀ W, MillTab W (w.heap.size + 1) w.heap.size tb (l.take i) Mill.fresh → Tabs W → Calls Tryd.prog 52 #[.pointer (some ⟨w.heap.size + 1, 0, none⟩), enVal (l[i]'hlt)] W (EnterPost W (w.heap.size + 1) w.heap.size tb (l.take (i + 1)) Mill.fresh) := fun W h1 h2 => by
          rw [htk]
          have q1 := h2.2.2
          have q2 := HT.out.2.2
          have q3 : (1000000 : Nat) < maxLen := by decide
          have q4 := HLEN.out
          exact enter_any _ _ _ _ _ _ W h1 (by omega) (by omega) h2 (by omega) (by rw [← htk, List.length_take]; omega)
        generalize l[i]'hlt = e at c0 c1 c2 c3 hrt hrb hef hEn
        have HEN := Lib.hid hEn
        clear hEn htk hef
        by_cases h32 : e.out.length = 32
        · have hq : ((e.out.length : Int) != 32) = false := by rw [h32]; rfl
          have hq2 : ((e.out.length : Int) == 32) = true := by rw [h32]; rfl
          rw [hr, h32] at hrt
          have HRT := Lib.hid hrt
          clear hrb hrt
          have HM := Lib.hid (And.intro hm hbr); clear hm hbr hr
          go_wp2_with fail
          generalize hW : World.alloc wr _ = W1
          have hb1 : Below wr.heap.size wr W1 := by rw [← hW]; exact (Below.refl _ _).alloc (Nat.le_refl _) _
          clear hW
          refine (HEN.out W1 (HM.out.1.below hb1) (HT.out.below (HM.out.2.trans (hb1.mono HM.out.2.size)) HT.out.2.2)).mono ?_
          rintro r3 w3 ⟨rfl, hm3, hmv3⟩
          have HM3 := Lib.hid (And.intro hm3 (hmv3.below (HM.out.2.trans (hb1.mono HM.out.2.size)) (Nat.le_trans HM.out.2.size hb1.size) (by simp; omega)))
          clear hm3 hmv3 hb1
          go_wp2_with fail
          go_roundw
          case rel => exact ⟨i + 1, by omega, by go_num, by simpa using HRT.out, HM3.out.1, HM3.out.2⟩
          case measure => simp [intOf]; omega
        · have hq : ((e.out.length : Int) != 32) = true := by simp; omega
          have hq2 : ((e.out.length : Int) == 32) = false := by simp; omega
          have HRR := Lib.hid (hrb h32)
          clear hrb hrt h32
          go_wp2_with fail
          go_ret2
          exact ⟨hbr.alloc hbr.size _, Or.inr ⟨HRR.out, rfl⟩⟩
      · have hie : i = l.length := by omega
        have hii : ¬ (i : Int) < (l.length : Int) := by omega
        rw [hie, List.take_length] at hr hm
        have HR := Lib.hid hr; clear hr
        go_wp2_with fail
        go_ret2
        exact ⟨hbr, Or.inl ⟨HR.out, rfl, hm.at⟩⟩
end Go.Proofs.YtphhaiccpllnpaaDoor
