/-
  A due is taken out of a heap.
-/
import Derived.Test.YtjmdpepghnhpkaaHeapDown
namespace Go.Proofs.Ytjmdpepghnhpkaa
open Go.RowKit
set_option linter.unusedVariables false

theorem HAt.cut {w : World} {q B cap : Nat} {h : List Du} (H : HAt w q B h cap) {n : Nat} (hn : n ≤ h.length) : HAt (w.setCell ⟨q, 0, none⟩ (.slice (some ⟨B, 0, none⟩) n cap)) q B (h.take n) cap := by
  obtain ⟨cur, hh, hs, hc⟩ := H.row
  refine ⟨H.ne, ?_, ⟨cur, hh.other (p := ⟨q, 0, none⟩) (fun e => H.ne e.symm) _, hs, fun i hi => ?_⟩, by rw [List.length_take]; have := H.le; omega, H.cm⟩
  · rw [List.length_take, Nat.min_eq_left hn]
    exact H.qh.set 0 _
  · rw [List.length_take] at hi
    rw [List.getElem_take]
    exact hc i (by omega)
/-- What is left of a heap behind the filling of a gap. -/
theorem Du.gap_fix {h : List Du} {i n : Nat} {d : Du} (hh : Du.Heap h) (hn : h.length = n + 1) (hi : i < n) : Du.FixAt ((h.set i d).take n) i := by
  have e : (h.set i d).take n = (h.take n).set i d := by rw [List.take_set]
  rw [e]
  exact Du.fix_set (Du.heap_take hh n) (by rw [List.length_take]; omega)
theorem Du.gap_last {h : List Du} {n : Nat} {d : Du} (hh : Du.Heap h) (hn : h.length = n + 1) : Du.Heap ((h.set n d).take n) := by
  have e : (h.set n d).take n = h.take n := by rw [List.take_set_of_le (Nat.le_refl _)]
  rw [e]
  exact Du.heap_take hh n
theorem Du.heap_downAt {h : List Du} (hh : Du.Heap h) {i : Nat} (hi : i < h.length) : Du.DownAt h i := Du.fix_down (Du.heap_fixAt hh i) (by
  by_cases h0 : i = 0
  · exact Or.inl h0
  · exact Or.inr (hh i (by omega) hi))
set_option maxRecDepth 100000 in
set_option maxHeartbeats 8000000 in
theorem dremove_any {w : World} {q B cap : Nat} {h : List Du} {i : Nat} (H : HAt w q B h cap) (hh : Du.Heap h) (hi : i < h.length) (hl : h.length ≤ 1000000) :
    Calls Try.prog 24 #[.pointer (some ⟨q, 0, none⟩), .int .i64 (i : Int)] w fun r w' => r = .returned (.tuple #[]) ∧ ∃ h', h.Perm (Du.g h i :: h') ∧ Du.Heap h' ∧ HAt w' q B h' cap ∧ Mv w w' [q, B] := by
  obtain ⟨n, hn⟩ : ∃ n, h.length = n + 1 := ⟨h.length - 1, by omega⟩
  have hnl : n < h.length := by omega
  have HP : Hid (h.Perm (Du.g h i :: (Du.sw h i n).take n)) := Lib.hid (by
    have := Du.remove_perm hn hi
    unfold Du.sw
    rwa [List.take_set_of_le (Nat.le_refl _)])
  have HFX : Hid (i < n → Du.FixAt ((Du.sw h i n).take n) i) := Lib.hid (fun h1 => by
    unfold Du.sw
    rw [List.take_set_of_le (Nat.le_refl _)]
    exact Du.gap_fix hh hn h1)
  have HLS : Hid (i = n → Du.Heap ((Du.sw h i n).take n)) := Lib.hid (fun h1 => by
    unfold Du.sw
    rw [List.take_set_of_le (Nat.le_refl _), h1]
    exact Du.gap_last hh hn)
  have HL2 : Hid (((Du.sw h i n).take n).length = n) := Lib.hid (by rw [List.length_take, Du.sw_len]; omega)
  have hsl := H.slice
  have hnh : (n : Int) ≤ (h.length : Int) := by omega
  have hw1 : IntKind.i64.wrap ((h.length : Int) - 1) = (n : Int) := by rw [IntKind.wrap_i64]; omega
  have hnc : (n : Int) ≤ (cap : Int) := by have := H.le; omega
  have hn0 : (0 : Int) ≤ (n : Int) := by omega
  have HSW := Lib.hid (swap_any H hi hnl)
  have HNL : Hid (n ≤ (Du.sw h i n).length) := Lib.hid (by rw [Du.sw_len]; omega)
  have HSL : Hid ((Du.sw h i n).length = h.length) := Lib.hid (Du.sw_len _ _ _)
  have HIN := Lib.hid hi
  have HLN : Hid (n ≤ 1000000 ∧ h.length = n + 1) := Lib.hid (by omega)
  generalize Du.sw h i n = g at HP HFX HLS HL2 HSW HNL HSL
  clear H hh hi hl hnl hn
  obtain ⟨N, hN⟩ : ∃ N, h.length = N := ⟨_, rfl⟩
  rw [hN] at hsl hw1 hnh HSL
  clear hN
  go_enter Try.func24, Try.ntmps24
  go_wp2_with fail
  refine HSW.out.mono ?_
  rintro r w1 ⟨rfl, hat1, hm1⟩
  have HAT1 := Lib.hid hat1
  have HM1 := Lib.hid (hm1.wide (t := [q, B]) (by simp))
  clear hat1 hm1 HSW hsl
  have hsl : w1.cell? ⟨q, 0, none⟩ = some (.slice (some ⟨B, 0, none⟩) N cap) := by
    have := HAT1.out.slice
    rwa [HSL.out] at this
  have hfr : w1.frozen? ⟨q, 0, none⟩ = false := HAT1.out.qh.free 0
  have HAT2 := Lib.hid (HAT1.out.cut HNL.out)
  have HM2 := Lib.hid (HM1.out.trans (Mv.of_only (Only.set w1 q 0 (.slice (some ⟨B, 0, none⟩) n cap)) (s := [q, B]) (by simp)))
  go_upto_region 3 with fail
  generalize w1.setCell ⟨q, 0, none⟩ (.slice (some ⟨B, 0, none⟩) n cap) = W2 at HAT2 HM2 ⊢
  generalize g.take n = h2 at HP HFX HLS HL2 HAT2
  clear HAT1 HM1 hsl hfr hw1 hnc HNL hnh
  by_cases hin : i < n
  · have hin2 : (i : Int) < (n : Int) := by omega
    have HIN := Lib.hid hin
    have HF := Lib.hid (HFX.out hin)
    have HRS := Lib.hid (rise_any (i := i) HAT2.out (by rw [HL2.out]; exact hin) (by rw [HL2.out]; exact HLN.out.1))
    clear hin HFX HLS
    go_wp2_with fail
    refine HRS.out.mono ?_
    rintro r w3 ⟨rfl, h3, hp3, hu3, hs3, hat3, hm3⟩
    have hl3 : h3.length = n := by rw [hp3.length_eq, HL2.out]
    have hdn : Du.DownAt h3 i := by
      by_cases h0 : i = 0
      · rw [hs3 (Or.inl h0)]; exact Du.fix_down HF.out (Or.inl h0)
      · cases hlt : Du.lt (Du.g h2 i) (Du.g h2 (Du.par i)) with
        | false => rw [hs3 (Or.inr hlt)]; exact Du.fix_down HF.out (Or.inr hlt)
        | true => exact Du.heap_downAt (hu3 (Du.fix_up HF.out (by omega) hlt)) (by rw [hl3]; exact HIN.out)
    have HDN := Lib.hid (sink_any hat3 (by rw [hl3]; exact HIN.out) (by rw [hl3]; exact HLN.out.1))
    have HM3 := Lib.hid (HM2.out.trans (hm3.wide (t := [q, B]) (by simp)))
    have HP3 := Lib.hid hp3
    have HDD := Lib.hid hdn
    clear hp3 hu3 hs3 hat3 hm3 hdn hl3 HRS HM2 HAT2 HF
    go_wp2_with fail
    refine HDN.out.mono ?_
    rintro r w4 ⟨rfl, h4, hp4, hd4, hat4, hm4⟩
    have HFIN := Lib.hid (And.intro (HP.out.trans ((HP3.out.symm.trans hp4.symm).cons _)) (And.intro (hd4 HDD.out) (And.intro hat4 (HM3.out.trans (hm4.wide (t := [q, B]) (by simp))))))
    clear hp4 hd4 hat4 hm4 HDN HM3 HP3 HDD
    go_wp2_with fail
    go_returns
    exact ⟨rfl, h4, HFIN.out.1, HFIN.out.2.1, HFIN.out.2.2.1, HFIN.out.2.2.2⟩
  · have hin2 : ¬ (i : Int) < (n : Int) := by omega
    have HHE := Lib.hid (HLS.out (by have := HIN.out; have := HLN.out.2; omega))
    clear hin HFX HLS
    go_wp2_with fail
    go_returns
    exact ⟨rfl, h2, HP.out, HHE.out, HAT2.out, HM2.out⟩
end Go.Proofs.Ytjmdpepghnhpkaa
