/-
  The contract of paper's Bytes.
-/
import Derived.Test.YtfppobnfajkmmaaPapPure
import Derived.Test.YtfppobnfajkmmaaTidy
namespace Go.Proofs.Ytfppobnfajkmmaa
open Go.RowKit Go.Lib
set_option linter.unusedVariables false

theorem FSl.only {w w' : World} {b g : Nat} {A : Option Addr} {L : List Fld} (h : FSl w b A L) (ho : Only w w' g) (hne : b ≠ g) : FSl w' b A L := fun hl => by
  obtain ⟨off, hA, hlt, hc⟩ := h hl
  exact ⟨off, hA, by have := ho.size; omega, fun i hi => (hc i hi).keep (ho.block b hlt (fun e => hne (by injection e)))⟩

theorem wflat0 : (Wt.flat (([], false) : Wt.St)).length = 0 := rfl

set_option maxHeartbeats 4000000 in
set_option maxRecDepth 100000 in
theorem pbytes_any (id : List UInt8) (cls : Int) (L : List Fld) (b cap : Nat) (A : Option Addr) (w : World) (hF : FSl w b A L) (hL : L.length ≤ 1000000) (hid : id.length ≤ 1000000)
    (hN : ∀ x ∈ L, x.name.length ≤ 1000000) (hok : ∀ x ∈ L, x.ok) :
    Calls Try.prog 13 #[.agg #[.string (S id), .int .i64 cls, .slice A L.length cap]] w fun r w' => r = .returned (.tuple #[.string (S (Pap.bytes id cls L).1), .int .i64 (Pap.bytes id cls L).2]) ∧ Below w.heap.size w w' := by
  have hC := fun W (hF : FSl W b A L) => check_any id cls L b cap A W hF hL hid hN hok
  have hB : Pap.bytes id cls L = if Pap.check id cls L = 0 then (Pap.enc id cls (Pap.tidy L), 0) else ([], Pap.check id cls L) := Pap.bytes_eq id cls L
  have hP0 := Has.made w 24 #[.string (S id), .int .i64 cls, .slice A L.length cap]
  have hb0 := up1 (w := w) (.cells #[.string (S id), .int .i64 cls, .slice A L.length cap] 24)
  have hF0 := hF.below hb0 (Nat.le_refl _)
  have hs0 : (w.alloc (.cells #[.string (S id), .int .i64 cls, .slice A L.length cap] 24)).heap.size = w.heap.size + 1 := by simp
  by_cases hk : Pap.check id cls L = 0
  · rw [if_pos hk] at hB
    rw [hk] at hC
    obtain ⟨hw24, hcls, hlen, -, -⟩ := Pap.check_zero hk
    have hgood := Pap.tidy_good hk hok
    have htl := Pap.tidy_len L
    have hT := fun W (hF : FSl W b A L) => tidy_any id cls L (Or.inl (by omega)) b cap A W hF hok
    have hid24 := (Pap.word_len hw24).2
    rw [hB]
    clear hB hk hw24 hF hN hok
    have hTE := Pap.tidy_eq L
    unfold TidyPost at hT
    rw [hTE] at hT
    clear hTE
    have hfl := Pap.lay_flat id cls (Pap.tidy L).length (Pap.tidy L)
    rw [← Pap.enc_eq] at hfl
    generalize Pap.enc id cls (Pap.tidy L) = en at hfl
    generalize Pap.tidy L = T at hgood htl hT hfl
    have HC := Lib.hid hC; clear hC
    have HT := Lib.hid hT; clear hT
    have HFL := Lib.hid hfl; clear hfl
    have HGOOD := Lib.hid hgood; clear hgood
    have HLEN := Lib.hid (And.intro htl (And.intro hlen (And.intro hid (And.intro hcls hid24)))); clear htl hid hcls hid24
    have hn12 : L.length ≤ 12 := hlen.2
    have HW0 := Lib.hid (And.intro hP0 (And.intro hb0 hF0)); clear hP0 hb0 hF0
    go_enter Try.func13, Try.ntmps13
    go_wp2_with fail
    generalize w.alloc (.cells #[.string (S id), .int .i64 cls, .slice A L.length cap] 24) = W0 at HW0 hs0 ⊢
    refine (HC.out _ HW0.out.2.2).mono ?_
    rintro r w1 ⟨rfl, hb1⟩
    have hP1 := HW0.out.1.below hb1 HW0.out.1.lt
    have hF1 := HW0.out.2.2.below hb1 (Nat.le_refl _)
    have hb1' := HW0.out.2.1.trans (hb1.mono (by omega))
    have hs1 : w.heap.size + 1 ≤ w1.heap.size := by have := hb1.size; omega
    have c0 := hP1.cell 0
    have c1 := hP1.cell 1
    have c2 := hP1.cell 2
    clear HW0 hb1 hs0 W0
    have HW1 := Lib.hid (And.intro hP1 (And.intro hb1' hF1)); clear hP1 hb1' hF1
    go_wp2_with fail
    refine (HT.out _ HW1.out.2.2).mono ?_
    rintro r w2 ⟨A2, b2, cap2, rfl, hb2n, hF2, hb2⟩
    have hP2 := HW1.out.1.below hb2 HW1.out.1.lt
    have hb2' := HW1.out.2.1.trans (hb2.mono (by omega))
    have hs2 : w.heap.size + 1 ≤ w2.heap.size := by have := hb2.size; omega
    clear c0 c1 c2
    have c0 := hP2.cell 0
    have c1 := hP2.cell 1
    have c2 := hP2.cell 2
    have f0 := hP2.free 0
    have f1 := hP2.free 1
    have f2 := hP2.free 2
    have hP3 : Has (((w2.setCell ⟨w.heap.size, 0, none⟩ (.string (S id))).setCell ⟨w.heap.size, 1, none⟩ (.int .i64 cls)).setCell ⟨w.heap.size, 2, none⟩ (.slice A2 L.length cap2)) w.heap.size 24 #[.string (S id), .int .i64 cls, .slice A2 L.length cap2] := by
      have := ((hP2.set 0 (.string (S id))).set 1 (.int .i64 cls)).set 2 (.slice A2 L.length cap2)
      simpa using this
    have ho3 := ((Only.set w2 w.heap.size 0 (.string (S id))).trans (Only.set _ w.heap.size 1 (.int .i64 cls))).trans (Only.set _ w.heap.size 2 (.slice A2 L.length cap2))
    have hF3 := hF2.only ho3 (by omega)
    have hb3 := ho3.below hb2' (by omega) (Nat.le_refl _)
    have hs3 : (((w2.setCell ⟨w.heap.size, 0, none⟩ (.string (S id))).setCell ⟨w.heap.size, 1, none⟩ (.int .i64 cls)).setCell ⟨w.heap.size, 2, none⟩ (.slice A2 L.length cap2)).heap.size = w2.heap.size := by simp
    have HW3 := Lib.hid (And.intro hP3 (And.intro hb3 hF3)); clear hP3 hb3 hF3 ho3 hP2 hb2' hb2 hF2 HW1
    go_upto_region 5 with (fail)
    generalize (((w2.setCell ⟨w.heap.size, 0, none⟩ (.string (S id))).setCell ⟨w.heap.size, 1, none⟩ (.int .i64 cls)).setCell ⟨w.heap.size, 2, none⟩ (.slice A2 L.length cap2)) = W3 at HW3 hs3 ⊢
    have hs3' : w.heap.size + 1 ≤ W3.heap.size := by omega
    have hgp3 : w.heap.size < W3.heap.size := by omega
    clear hs3 c0 c1 c2 f0 f1 f2
    have hP4 := HW3.out.1.of_alloc (.cells #[.pointer none, .int .i64 0, .bool false] 52)
    have hb4 := HW3.out.2.1.trans ((up1 (w := W3) (.cells #[.pointer none, .int .i64 0, .bool false] 52)).mono (by omega))
    have hF4 := HW3.out.2.2.below (up1 (w := W3) (.cells #[.pointer none, .int .i64 0, .bool false] 52)) (Nat.le_refl _)
    have hWr4 := wr_new W3
    have hs4 : (W3.alloc (.cells #[.pointer none, .int .i64 0, .bool false] 52)).heap.size = W3.heap.size + 1 := by simp
    have hb2lt : T ≠ [] → b2 < W3.heap.size := fun h => by obtain ⟨_, _, h, _⟩ := HW3.out.2.2 h; exact h
    have c0 := HW3.out.1.cell 0
    have c1 := HW3.out.1.cell 1
    have c2 := HW3.out.1.cell 2
    clear HW3
    have hTn : T ≠ [] := by intro hc; have := HLEN.out.1; rw [hc] at this; simp at this; omega
    have hb2l := hb2lt hTn
    clear hb2lt
    have HK : Hid (∀ W, Only (W3.alloc (.cells #[.pointer none, .int .i64 0, .bool false] 52)) W W3.heap.size → Has W w.heap.size 24 #[.string (S id), .int .i64 cls, .slice A2 L.length cap2] ∧ FSl W b2 A2 T ∧ Below w.heap.size w W ∧ W3.heap.size + 1 ≤ W.heap.size) := fun W hW =>
      ⟨hW.has hP4 (by omega), hF4.only hW (by omega), hW.below hb4 (by omega) (by omega), by have := hW.size; omega⟩
    clear hP4 hb4 hF4
    have hT0 := wtext_wr id W3.heap.size ([], false) _ hWr4 (by have := HLEN.out.2.2.1; rw [wflat0]; omega)
    have HT0 := Lib.hid hT0; clear hT0 hWr4
    go_wp2_with fail
    refine (HT0.out).mono ?_
    rintro r w5 ⟨rfl, hr5, ho5⟩
    clear c0 c1 c2 HT0
    obtain ⟨hP5, -, -, hs5⟩ := HK.out w5 ho5
    have c0 := hP5.cell 0
    have c1 := hP5.cell 1
    have c2 := hP5.cell 2
    have hl1 : (Wt.flat (Wt.text id ([], false))).length ≤ 1000024 := by
      rw [Wt.flat_text, List.length_append, List.length_append, wflat0]
      have := M.encL_len id.length
      have := HLEN.out.2.2.1
      omega
    have hN1 := wnum_wr cls W3.heap.size _ w5 hr5 (by omega)
    have HN1 := Lib.hid hN1; clear hN1 hr5 hP5
    go_wp2_with fail
    refine (HN1.out).mono ?_
    rintro r w6 ⟨rfl, hr6, ho6⟩
    clear c0 c1 c2 HN1
    have ho6' := ho5.trans ho6
    clear ho5 ho6 hs5
    obtain ⟨hP6, -, -, hs6⟩ := HK.out w6 ho6'
    have c0 := hP6.cell 0
    have c1 := hP6.cell 1
    have c2 := hP6.cell 2
    have hl2 : (Wt.flat (Wt.num cls (Wt.text id ([], false)))).length ≤ 1000048 := by
      rw [Wt.flat_num, List.length_append]
      have := M.encL_len cls
      omega
    have hN2 := wnum_wr (L.length : Int) W3.heap.size _ w6 hr6 (by omega)
    have HN2 := Lib.hid hN2; clear hN2 hr6 hP6 hl1
    go_wp2_with fail
    refine (HN2.out).mono ?_
    rintro r w7 ⟨rfl, hr7, ho7⟩
    clear c0 c1 c2 HN2
    have ho7' := ho6'.trans ho7
    clear ho6' ho7 hs6
    obtain ⟨hP7, -, -, hs7⟩ := HK.out w7 ho7'
    have c0 := hP7.cell 0
    have c1 := hP7.cell 1
    have c2 := hP7.cell 2
    clear hP7
    have hr7' : Wr w7 W3.heap.size (Pap.lay id cls L.length (T.take 0)) := by
      rw [List.take_zero, Pap.lay_nil]
      exact hr7
    go_wp2_with fail
    clear c0 c1 c2 hr7
    go_loopg [30] L.length (fun g1 v30 wr => ∃ k : Nat, k ≤ L.length ∧ v30 = .int .i64 (k : Int) ∧ L.length - k ≤ g1 ∧ Wr wr W3.heap.size (Pap.lay id cls L.length (T.take k)) ∧ Only (W3.alloc (.cells #[.pointer none, .int .i64 0, .bool false] 52)) wr W3.heap.size)
    case atStart => exact ⟨0, Nat.zero_le _, rfl, by omega, hr7', ho7'⟩
    case round =>
      obtain ⟨k, hk, rfl, hg, hwk, hok⟩ := hrel
      obtain ⟨-, hFk, hbk, hsk⟩ := HK.out wr hok
      by_cases hlt : k < L.length
      · have hki : (k : Int) < (L.length : Int) := by omega
        have hltT : k < T.length := by rw [HLEN.out.1]; exact hlt
        obtain ⟨off, hA, hbl, hfat⟩ := hFk hTn
        subst hA
        have hfk := hfat k hltT
        clear hfat
        have hgd := HGOOD.out T[k] (List.getElem_mem hltT)
        have hst : Pap.lay id cls L.length (T.take (k + 1)) = Wt.text T[k].val.enc (Wt.text T[k].name (Pap.lay id cls L.length (T.take k))) := by rw [List.take_succ_eq_append_getElem hltT, Pap.lay_snoc]
        have hll := Pap.lay_len id cls L.length (T.take k) (fun f hf => HGOOD.out f (List.mem_of_mem_take hf)) HLEN.out.2.2.1
        rw [List.length_take] at hll
        generalize T[k] = x at hfk hgd hst
        obtain ⟨n, x⟩ := x
        obtain ⟨hg1, hg2, hg3⟩ := hgd
        have hn16 := (Pap.word_len hg1).2
        have hen := enc_len hg2
        have hBV := fun W => bytes_any x hg3 W
        dsimp only at hn16 hen hBV hg2 hst
        rw [if_pos hg2] at hBV
        generalize Val.enc x = xe at hBV hst hen
        clear hg1 hg2 hg3
        obtain ⟨vk, vf, vi, vb, vt⟩ := x
        rw [Val.v_eq] at hBV
        obtain ⟨c0, c1, c2, c3, c4, c5⟩ := hfk
        dsimp only at c0 c1 c2 c3 c4 c5
        have HBV := Lib.hid hBV; clear hBV
        have HST := Lib.hid hst; clear hst
        generalize Pap.lay id cls L.length (T.take k) = st at hwk hll HST
        have hwa := hwk.below (up1 (.cells (fcs n vk vf vi vb vt) 40)) (Nat.le_refl _)
        have hta := wtext_wr n W3.heap.size st _ hwa (by omega)
        have HTA := Lib.hid hta; clear hta hwa
        have hoa := hok.trans (Only.of_below (up1 (w := wr) (.cells (fcs n vk vf vi vb vt) 40)) W3.heap.size)
        have hga : Has (wr.alloc (.cells (fcs n vk vf vi vb vt) 40)) wr.heap.size 40 (fcs n vk vf vi vb vt) := Has.made wr _ _
        have HOA := Lib.hid (And.intro hoa hga); clear hoa hga
        have hfl2 : (Wt.flat (Wt.text n st)).length ≤ (Wt.flat st).length + 24 := by
          rw [Wt.flat_text, List.length_append, List.length_append]
          have := M.encL_len n.length
          omega
        have HFL2 := Lib.hid hfl2; clear hfl2
        go_wp2_with fail
        refine (HTA.out).mono ?_
        rintro r w8 ⟨rfl, hr8, ho8⟩
        have hG8 := ho8.has HOA.out.2 (by omega)
        obtain ⟨d0, d1, d2, d3, d4, d5⟩ := flies hG8
        clear c0 c1 c2 c3 c4 c5
        have hgl8 := hG8.lt
        go_wp2_with fail
        refine (HBV.out _).mono ?_
        rintro r w9 ⟨rfl, hb9⟩
        clear d0 d1 d2 d3 d4 d5
        have hr9 := hr8.below hb9 (Nat.le_refl _)
        have ho9 := (HOA.out.1.trans ho8).trans (Only.of_below hb9 W3.heap.size)
        have ht9 := wtext_wr xe W3.heap.size _ w9 hr9 (by have := HFL2.out; omega)
        have HT9 := Lib.hid ht9; clear ht9 hr9 hr8
        go_wp2_with fail
        refine (HT9.out).mono ?_
        rintro r w10 ⟨rfl, hr10, ho10⟩
        have ho11 := ho9.trans ho10
        have hr11 : Wr w10 W3.heap.size (Pap.lay id cls L.length (T.take (k + 1))) := by rw [HST.out]; exact hr10
        clear hr10 HT9 ho10 ho9 hb9
        go_wp2_with fail
        go_roundg (L.length - (k + 1))
        case measure => omega
        case rel => exact ⟨k + 1, by omega, by go_num, Nat.le_refl _, hr11, ho11⟩
      · obtain rfl : k = L.length := by omega
        rw [← HLEN.out.1, List.take_length] at hwk
        have hgd := Pap.lay_good id cls T.length (by exact HLEN.out.2.2.1) (by rw [HLEN.out.1]; omega) HLEN.out.2.2.2.1 T HGOOD.out
        have hll := Pap.lay_len id cls T.length T HGOOD.out HLEN.out.2.2.1
        have hta := all_good W3.heap.size _ wr hwk hgd (by rw [HLEN.out.1] at hll ⊢; omega)
        rw [HFL.out] at hta
        have HTA := Lib.hid hta; clear hta hgd hll hwk
        go_wp2_with fail
        refine (HTA.out).mono ?_
        rintro r w8 ⟨rfl, hb8⟩
        go_wp2_with fail
        go_ret2
        exact ⟨rfl, hbk.trans (hb8.mono hbk.size)⟩
  · rw [if_neg hk] at hB
    rw [hB]
    clear hB
    have hne : (Pap.check id cls L != 0) = true := by simpa using hk
    generalize Pap.check id cls L = e at hC hne ⊢
    have HC := Lib.hid hC; clear hC hk hF hN hok hL hid
    have HW0 := Lib.hid (And.intro hb0 hF0); clear hP0 hb0 hF0 hs0
    go_enter Try.func13, Try.ntmps13
    go_wp2_with fail
    refine (HC.out _ HW0.out.2).mono ?_
    rintro r w1 ⟨rfl, hb1⟩
    go_wp2_with fail
    go_ret2
    exact ⟨rfl, HW0.out.1.trans (hb1.mono (by simp))⟩
end Go.Proofs.Ytfppobnfajkmmaa
