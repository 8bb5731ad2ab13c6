/-
  The contract of DiskLasts.
-/
import Derived.Test.YtldlhdbdehmhbaaDskG
import Derived.Test.YtldlhdbdehmhbaaDskAw
import Derived.Test.YtldlhdbdehmhbaaDskArg
import Derived.Test.YtldlhdbdehmhbaaDskLasts
namespace Go.Proofs.Ytldlhdbdehmhbaa
open Go.ChangeShapes Go.WideShapes Go.ChangeAt Go.RowKit
open Go.ChangeMaps (open_string shut_string)
set_option linter.unusedVariables false

theorem bytes_at {w W : World} {ba : Nat} {A : Option Addr} {l : List UInt8} (h : Bytes w ba A l) (hb : Below w.heap.size w W) (k : Nat) (hk : k < l.length) : ∃ off, A = some ⟨ba, off, none⟩ ∧ W.cell? ⟨ba, off + k, none⟩ = some (.int .u8 ((l.getD k 0).toNat : Int)) := by
  have hne : l ≠ [] := fun e => by rw [e] at hk; exact absurd hk (Nat.not_lt_zero _)
  have hlt := h.lt hne
  obtain ⟨off, hA, hc⟩ := h hne
  refine ⟨off, hA, ?_⟩
  rw [World.cell?_of_block (hb.block ba hlt), hc k hk]
  unfold bcells
  rw [List.getElem?_map, List.getElem?_eq_getElem hk]
  simp [List.getD, hk]

/-- What is known of the disk, and of the fall's block, all the way through. -/
def LD (w W : World) (g bd mb : Nat) (keep tear : Int) (d : Dsk.St) : Prop := DiskAt W g bd mb d ∧ Below w.heap.size w W ∧ Has W w.heap.size 25 #[.int .u64 keep, .int .i64 tear] ∧ ∀ k ∈ [g, bd, mb], w.heap.size + 1 ≤ k
theorem LD.mv {w W W' : World} {g bd mb : Nat} {keep tear : Int} {d d' : Dsk.St} (h : LD w W g bd mb keep tear d) (hm : Mv W W' [g, bd, mb]) (hd : DiskAt W' g bd mb d') : LD w W' g bd mb keep tear d' :=
  ⟨hd, hm.below h.2.1 h.2.1.size (fun k hk => Nat.le_of_succ_le (h.2.2.2 k hk)), hm.has h.2.2.1 (fun hk => by have := h.2.2.2 _ hk; omega), h.2.2.2⟩
theorem LD.be {w W W' : World} {g bd mb : Nat} {keep tear : Int} {d : Dsk.St} (h : LD w W g bd mb keep tear d) (hm : Below W.heap.size W W') : LD w W' g bd mb keep tear d :=
  ⟨h.1.below hm, h.2.1.trans (hm.mono h.2.1.size), h.2.2.1.below hm h.2.2.1.lt, h.2.2.2⟩

set_option maxRecDepth 100000 in
set_option maxHeartbeats 4000000 in
theorem lasts_any (la lb : List UInt8) (A B : Option Addr) (ba bb ca cb : Nat) (f : Dsk.Fall) (hf : Fok f) (w : World) (hA : Bytes w ba A la) (hB : Bytes w bb B lb) (ha : la.length ≤ 9223372036854775807) (hb : lb.length ≤ 9223372036854775807) :
    Calls Try.prog 3 #[.slice A la.length ca, .slice B lb.length cb, .agg #[.int .u64 (f.keep : Int), .int .i64 f.tear]] w fun e w' => e = .returned (.bool true) ∧ Below w.heap.size w w' := by
  have HX : Hid (∀ (c : UInt8) (W : World), Calls Try.prog 8 #[.int .u8 (c.toNat : Int), .int .i64 64] W fun e w' => e = .returned (.string (S (Dsk.fill c 64))) ∧ Below W.heap.size W w') := Lib.hid (fun c W => fill_any c 64 (by decide) W)
  have HX0 : Hid (∀ (W : World), Calls Try.prog 8 #[.int .u8 0, .int .i64 64] W fun e w' => e = .returned (.string (S (Dsk.fill 0 64))) ∧ Below W.heap.size W w') := Lib.hid (fun W => fill_any 0 64 (by decide) W)
  have HAW : Hid _ := fun W => awake_any W
  have HNEW : Hid (∀ W : World, Calls Try.prog 6 #[.int .i64 20] W (NewDPost W 20)) := Lib.hid (fun W => newd_any 20 (by decide) (by decide) W)
  have HWA : Hid (∀ (k : Nat) (_ : k < 20) (W : World) (g bd mb : Nat), DiskAt W g bd mb (Dsk.wrTo (Dsk.fresh 20) la k) → Calls Try.prog 7 #[.pointer (some ⟨g, 0, none⟩), .int .i64 (k : Int), .string (S (Dsk.fill (la.getD k 0) 64))] W (DPost W g bd mb 0 (Dsk.wrTo (Dsk.fresh 20) la (k + 1)))) := Lib.hid (fun k hk W g bd mb h => by
    have := write_any h (by rw [Dsk.dA_acts]; omega) (by rw [Dsk.wrTo_falls]; decide) (k : Int) (Dsk.fill (la.getD k 0) 64) (by rw [Dsk.fill_len]; decide)
    rw [Dsk.step_a la k hk] at this
    exact this)
  have HFL : Hid (∀ (W : World) (g bd mb : Nat), DiskAt W g bd mb (Dsk.wrTo (Dsk.fresh 20) la (min la.length 20)) → Calls Try.prog 9 #[.pointer (some ⟨g, 0, none⟩)] W (DPost W g bd mb 0 (Dsk.wrTo (Dsk.fl (Dsk.dA la)) lb 0))) := Lib.hid (fun W g bd mb h => by
    have := flush_any h (by rw [Dsk.dA_acts]; omega) (by rw [Dsk.wrTo_falls]; decide)
    have e := Dsk.flush_dA la
    unfold Dsk.dA at e
    rw [e] at this
    exact this)
  have HWB : Hid (∀ (k : Nat) (_ : k < 20) (W : World) (g bd mb : Nat), DiskAt W g bd mb (Dsk.wrTo (Dsk.fl (Dsk.dA la)) lb k) → Calls Try.prog 7 #[.pointer (some ⟨g, 0, none⟩), .int .i64 (k : Int), .string (S (Dsk.fill (lb.getD k 0) 64))] W (DPost W g bd mb 0 (Dsk.wrTo (Dsk.fl (Dsk.dA la)) lb (k + 1)))) := Lib.hid (fun k hk W g bd mb h => by
    have := write_any h (by rw [Dsk.fl_acts]; omega) (by rw [Dsk.fl_falls]; decide) (k : Int) (Dsk.fill (lb.getD k 0) 64) (by rw [Dsk.fill_len]; decide)
    rw [Dsk.step_b la lb k hk] at this
    exact this)
  have HCR : Hid (∀ (W : World) (g bd mb : Nat), DiskAt W g bd mb (Dsk.wrTo (Dsk.fl (Dsk.dA la)) lb (min lb.length 20)) → Calls Try.prog 10 #[.pointer (some ⟨g, 0, none⟩), .agg #[.int .u64 (f.keep : Int), .int .i64 f.tear]] W (DPost W g bd mb 0 (Dsk.fall f (Dsk.base la lb)))) := Lib.hid (fun W g bd mb h => by
    have := crash_any h (by rw [Dsk.fl_falls]; decide) f hf
    rw [← Dsk.base_eq, Dsk.crash_base] at this
    exact this)
  have HSTA : Hid (∀ (W : World) (g bd mb : Nat), DiskAt W g bd mb (Dsk.fall f (Dsk.base la lb)) → Calls Try.prog 11 #[.pointer (some ⟨g, 0, none⟩)] W (DPost W g bd mb 0 (Dsk.dS la lb f))) := Lib.hid (fun W g bd mb h => by
    have := start_any h
    rw [Dsk.start_fall] at this
    exact this)
  have HRD : Hid (∀ (i : Nat) (_ : i < 20), ∃ x : List UInt8, x.length = 64 ∧ Dsk.tornAt la lb f i = (decide (x ≠ Dsk.was la i) && decide (x ≠ Dsk.is la lb i)) ∧ ∀ (W : World) (g bd mb : Nat), DiskAt W g bd mb (Dsk.dS la lb f) → Calls Try.prog 12 #[.pointer (some ⟨g, 0, none⟩), .int .i64 (i : Int)] W fun e w' => e = .returned (.tuple #[.string (S x), .int .i64 0]) ∧ Below W.heap.size W w') := Lib.hid (fun i hi => by
    obtain ⟨x, e, hl, ht⟩ := Dsk.read_dS la lb f i hi
    refine ⟨x, hl, ht, fun W g bd mb h => ?_⟩
    have := read_any h (i : Int)
    rw [e] at this
    exact this)
  have HL := Lib.hid (Dsk.lasts la lb f)
  have HWAS : Hid (∀ i, Dsk.was la i = if i < la.length then Dsk.fill (la.getD i 0) 64 else Dsk.fill 0 64) := Lib.hid (fun i => rfl)
  have HIS : Hid (∀ i, Dsk.is la lb i = if i < lb.length then Dsk.fill (lb.getD i 0) 64 else Dsk.was la i) := Lib.hid (fun i => rfl)
  have HTS := Lib.hid (Dsk.tornTo_step la lb f)
  have HT0 : Hid (Dsk.tornTo la lb f 0 = 0) := Lib.hid rfl
  have HBA := Lib.hid (fun W (hW : Below w.heap.size w W) k hk => bytes_at hA hW k hk)
  have HBB := Lib.hid (fun W (hW : Below w.heap.size w W) k hk => bytes_at hB hW k hk)
  clear hA hB
  obtain ⟨keep, hkeep⟩ : ∃ keep : Int, (f.keep : Int) = keep := ⟨_, rfl⟩
  obtain ⟨tear, htear⟩ : ∃ tear : Int, f.tear = tear := ⟨_, rfl⟩
  rw [hkeep, htear] at HCR
  rw [htear] at HL
  rw [hkeep, htear]
  clear hkeep htear
  generalize Dsk.tornTo la lb f = TT at HL HTS HT0
  generalize Dsk.tornAt la lb f = TA at HRD HTS
  generalize Dsk.was la = WS at HRD HWAS HIS
  generalize Dsk.is la lb = IS at HRD HIS
  generalize Dsk.fill = FI at *
  generalize Dsk.fall f (Dsk.base la lb) = dC at HCR HSTA
  generalize Dsk.dS la lb f = dT at HSTA HRD
  generalize hgb : Dsk.wrTo (Dsk.fl (Dsk.dA la)) lb = DB at *
  clear hgb
  unfold NewDPost at HNEW
  generalize hga : Dsk.wrTo (Dsk.fresh 20) la = DA at *
  have HD0 : Hid (Dsk.fresh 20 = DA 0) := Lib.hid (by rw [← hga]; rfl)
  clear hga
  rw [HD0.out] at HNEW
  clear HD0 hf
  have hla0 : (0 : Int) ≤ (la.length : Int) := by omega
  have hlb0 : (0 : Int) ≤ (lb.length : Int) := by omega
  obtain ⟨na, hna⟩ : ∃ na, la.length = na := ⟨_, rfl⟩
  obtain ⟨nb, hnb⟩ : ∃ nb, lb.length = nb := ⟨_, rfl⟩
  rw [hna] at HBA HFL HWAS ha hla0 ⊢
  rw [hnb] at HBB HCR HIS hb hlb0 ⊢
  clear hna hnb
  go_enter Try.func3, Try.ntmps3
  go_upto_region 1 with (fail)
  have hfc := Has.made w 25 #[.int .u64 keep, .int .i64 tear]
  have hb0 : Below w.heap.size w (w.alloc (.cells #[.int .u64 keep, .int .i64 tear] 25)) := (Below.refl _ w).alloc (Nat.le_refl _) _
  have hs0 := asize w (.cells #[.int .u64 keep, .int .i64 tear] 25)
  generalize World.alloc w _ = W0 at hfc hb0 hs0 ⊢
  go_wp2_with fail
  refine (HNEW.out _).mono ?_
  rintro r w1 ⟨g, bd, mb, rfl, hd, hb1, hg, hbd, hmb⟩
  have hs : ∀ k ∈ [g, bd, mb], w.heap.size + 1 ≤ k := by
    intro k hk
    simp only [List.mem_cons, List.not_mem_nil, or_false] at hk
    rcases hk with rfl | rfl | rfl <;> omega
  have hfc1 : Has w1 w.heap.size 25 #[.int .u64 keep, .int .i64 tear] := hfc.below hb1 (by omega)
  have H : LD w w1 g bd mb keep tear (DA 0) := ⟨hd, hb0.trans (hb1.mono (by omega)), hfc1, hs⟩
  clear hd hb1 hg hbd hmb hs hfc1 hfc hb0 hs0
  go_upto_block 0 with (fail)
  go_cut [] (fun W => LD w W g bd mb keep tear (DA (min na 20)))
  case first =>
    go_wp2_with fail
    go_loopw [9] (fun v wr => ∃ k : Nat, k ≤ min na 20 ∧ v = .int .i64 (k : Int) ∧ LD w wr g bd mb keep tear (DA k)) (fun v _ => 20 - (intOf v).toNat)
    case atStart => exact ⟨0, Nat.zero_le _, rfl, H⟩
    case round =>
      obtain ⟨k, hk, rfl, hL⟩ := hrel
      by_cases hlt : k < na
      · have hki : (k : Int) < (na : Int) := by omega
        by_cases h20 : k < 20
        · have h20i : (k : Int) < 20 := by omega
          have hk0 : (0 : Int) ≤ (k : Int) := by omega
          obtain ⟨off, hA, hc⟩ := HBA.out wr hL.2.1 k hlt
          subst hA
          have HF := Lib.hid (HWA.out k h20)
          have HL := Lib.hid hL; clear hL
          generalize la.getD k 0 = c at hc HF
          go_wp2_with fail
          refine (HX.out _ _).mono ?_
          rintro r w2 ⟨rfl, hb2⟩
          replace HL := Lib.hid (HL.out.be hb2)
          clear hb2 hc
          go_wp2_with fail
          refine (HF.out _ _ _ _ HL.out.1).mono ?_
          rintro r w3 ⟨rfl, hd3, hm3⟩
          replace HL := Lib.hid (HL.out.mv hm3 hd3)
          clear hd3 hm3
          go_wp2_with fail
          go_roundw
          case rel => exact ⟨k + 1, by omega, by go_num, HL.out⟩
          case measure => simp only [intOf]; omega
        · have h20i : ¬ (k : Int) < 20 := by omega
          have he : k = min na 20 := by omega
          rw [he] at hL
          have HL := Lib.hid hL; clear hL he
          go_wp2_with fail
          go_meet
          case rel => exact HL.out
      · have hki : ¬ (k : Int) < (na : Int) := by omega
        have he : k = min na 20 := by omega
        rw [he] at hL
        have HL := Lib.hid hL; clear hL he
        go_wp2_with fail
        go_meet
        case rel => exact HL.out
  case rest =>
  have H := hcut
  clear hcut
  go_wp2_with fail
  refine (HFL.out _ _ _ _ H.1).mono ?_
  rintro r w5 ⟨rfl, hd5, hm5⟩
  replace H := H.mv hm5 hd5
  clear hd5 hm5
  go_upto_block 2 with (fail)
  go_cut [] (fun W => LD w W g bd mb keep tear (DB (min nb 20)))
  case first =>
    go_wp2_with fail
    go_loopw [10] (fun v wr => ∃ k : Nat, k ≤ min nb 20 ∧ v = .int .i64 (k : Int) ∧ LD w wr g bd mb keep tear (DB k)) (fun v _ => 20 - (intOf v).toNat)
    case atStart => exact ⟨0, Nat.zero_le _, rfl, H⟩
    case round =>
      obtain ⟨k, hk, rfl, hL⟩ := hrel
      by_cases hlt : k < nb
      · have hki : (k : Int) < (nb : Int) := by omega
        by_cases h20 : k < 20
        · have h20i : (k : Int) < 20 := by omega
          have hk0 : (0 : Int) ≤ (k : Int) := by omega
          obtain ⟨off, hA, hc⟩ := HBB.out wr hL.2.1 k hlt
          subst hA
          have HF := Lib.hid (HWB.out k h20)
          have HL := Lib.hid hL; clear hL
          generalize lb.getD k 0 = c at hc HF
          go_wp2_with fail
          refine (HX.out _ _).mono ?_
          rintro r w2 ⟨rfl, hb2⟩
          replace HL := Lib.hid (HL.out.be hb2)
          clear hb2 hc
          go_wp2_with fail
          refine (HF.out _ _ _ _ HL.out.1).mono ?_
          rintro r w3 ⟨rfl, hd3, hm3⟩
          replace HL := Lib.hid (HL.out.mv hm3 hd3)
          clear hd3 hm3
          go_wp2_with fail
          go_roundw
          case rel => exact ⟨k + 1, by omega, by go_num, HL.out⟩
          case measure => simp only [intOf]; omega
        · have h20i : ¬ (k : Int) < 20 := by omega
          have he : k = min nb 20 := by omega
          rw [he] at hL
          have HL := Lib.hid hL; clear hL he
          go_wp2_with fail
          go_meet
          case rel => exact HL.out
      · have hki : ¬ (k : Int) < (nb : Int) := by omega
        have he : k = min nb 20 := by omega
        rw [he] at hL
        have HL := Lib.hid hL; clear hL he
        go_wp2_with fail
        go_meet
        case rel => exact HL.out
  case rest =>
  have H := hcut
  clear hcut
  have c0 : wc.cell? ⟨w.heap.size, 0, none⟩ = some (.int .u64 keep) := H.2.2.1.cell 0
  have c1 : wc.cell? ⟨w.heap.size, 1, none⟩ = some (.int .i64 tear) := H.2.2.1.cell 1
  go_wp2_with fail
  refine (HCR.out _ _ _ _ H.1).mono ?_
  rintro r w6 ⟨rfl, hd6, hm6⟩
  replace H := H.mv hm6 hd6
  clear hd6 hm6 c0 c1
  go_wp2_with fail
  refine (HSTA.out _ _ _ _ H.1).mono ?_
  rintro r w7 ⟨rfl, hd7, hm7⟩
  replace H := H.mv hm7 hd7
  clear hd7 hm7
  have HTB : Hid (∀ i, TT i ≤ i) := Lib.hid (fun i => by
    induction i with
    | zero => rw [HT0.out]; exact Nat.le_refl _
    | succ i ih => rw [HTS.out]; split <;> omega)
  go_wp2_with fail
  go_loopw [11, 12] (fun v11 v12 wr => ∃ i : Nat, i ≤ 20 ∧ v11 = .int .i64 (TT i : Int) ∧ v12 = .int .i64 (i : Int) ∧ LD w wr g bd mb keep tear dT) (fun _ v12 _ => 20 - (intOf v12).toNat)
  case atStart => exact ⟨0, by omega, by rw [HT0.out]; rfl, rfl, H⟩
  case round =>
    obtain ⟨i, hi, rfl, rfl, hL⟩ := hrel
    clear H
    have HL1 := Lib.hid hL; clear hL
    by_cases hlt : i < 20
    · have hki : (i : Int) < 20 := by omega
      have hk0 : (0 : Int) ≤ (i : Int) := by omega
      obtain ⟨x, hx64, hta, hrd⟩ := HRD.out i hlt
      have HRD1 := Lib.hid hrd; clear hrd
      have hxl : ((x.length : Int) != 64) = false := by rw [bne_eq_false_iff_eq]; omega
      have hts := HTS.out i
      rw [hta] at hts
      have htb := HTB.out i
      have hw := HWAS.out i
      have his := HIS.out i
      have HBA1 : Hid _ := fun W hW h => HBA.out W hW i h
      have HBB1 : Hid _ := fun W hW h => HBB.out W hW i h
      obtain ⟨T0, hT0⟩ : ∃ T0, TT i = T0 := ⟨_, rfl⟩
      rw [hT0] at hts htb ⊢
      generalize WS i = ws at hts hw his
      generalize IS i = iss at hts his
      have HTT := Lib.hid hts; clear hts
      have HW := Lib.hid hw; clear hw
      have HIS1 := Lib.hid his; clear his
      have ht0 : (0 : Int) ≤ (T0 : Int) := by omega
      have ht1 : (T0 : Int) ≤ 20 := by omega
      clear hT0 hta htb
      go_wp2_with fail
      refine (HRD1.out _ _ _ _ HL1.out.1).mono ?_
      rintro r w2 ⟨rfl, hb2⟩
      replace HL1 := Lib.hid (HL1.out.be hb2)
      clear hb2
      go_wp2_with fail
      refine (HX0.out _).mono ?_
      rintro r w3 ⟨rfl, hb3⟩
      replace HL1 := Lib.hid (HL1.out.be hb3)
      clear hb3
      go_upto_if 91 with (fail)
      go_cut [15] from 91 to 96 (fun v15 W => v15 = .string (S ws) ∧ LD w W g bd mb keep tear dT)
      case first =>
        by_cases hia : i < na
        · have hia' : (i : Int) < (na : Int) := by omega
          obtain ⟨off, hA, hc⟩ := HBA1.out _ HL1.out.2.1 hia
          subst hA
          have hw := HW.out
          rw [if_pos hia] at hw
          generalize la.getD i 0 = c at hc hw
          have HW2 := Lib.hid hw; clear hw
          go_wp2_with fail
          refine (HX.out _ _).mono ?_
          rintro r w4 ⟨rfl, hb4⟩
          go_wp2_with fail
          go_meet
          case rel => exact ⟨by rw [HW2.out], HL1.out.be hb4⟩
        · have hia' : ¬ (i : Int) < (na : Int) := by omega
          have hw := HW.out
          rw [if_neg hia] at hw
          have HW2 := Lib.hid hw; clear hw
          go_wp2_with fail
          go_meet
          case rel => exact ⟨by rw [HW2.out], HL1.out⟩
      case rest =>
      obtain ⟨rfl, hL⟩ := hcut
      clear HL1
      have HL1 := Lib.hid hL; clear hL
      go_upto_if 101 with (fail)
      go_cut [16] from 101 to 106 (fun v16 W => v16 = .string (S iss) ∧ LD w W g bd mb keep tear dT)
      case first =>
        by_cases hib : i < nb
        · have hib' : (i : Int) < (nb : Int) := by omega
          obtain ⟨off, hA, hc⟩ := HBB1.out _ HL1.out.2.1 hib
          subst hA
          have hw := HIS1.out
          rw [if_pos hib] at hw
          generalize lb.getD i 0 = c at hc hw
          have HW2 := Lib.hid hw; clear hw
          go_wp2_with fail
          refine (HX.out _ _).mono ?_
          rintro r w4 ⟨rfl, hb4⟩
          go_wp2_with fail
          go_meet
          case rel => exact ⟨by rw [HW2.out], HL1.out.be hb4⟩
        · have hib' : ¬ (i : Int) < (nb : Int) := by omega
          have hw := HIS1.out
          rw [if_neg hib] at hw
          have HW2 := Lib.hid hw; clear hw
          go_wp2_with fail
          go_meet
          case rel => exact ⟨by rw [HW2.out], HL1.out⟩
      case rest =>
      obtain ⟨rfl, hL⟩ := hcut
      clear HL1
      have HL1 := Lib.hid hL; clear hL
      by_cases q1 : x = ws
      · have q1' : (x == ws) = true := by rw [beq_iff_eq]; exact q1
        have htt := HTT.out
        rw [decide_eq_false (fun h => h q1), Bool.false_and, if_neg (by decide)] at htt
        have HT2 := Lib.hid htt
        clear q1 htt
        go_wp2_with fail
        go_roundw
        case rel => exact ⟨i + 1, by omega, by rw [HT2.out]; rfl, by go_num, HL1.out⟩
        case measure => simp only [intOf]; omega
      · have q1' : (x == ws) = false := by rw [beq_eq_false_iff_ne]; exact q1
        by_cases q2 : x = iss
        · have q2' : (x == iss) = true := by rw [beq_iff_eq]; exact q2
          have htt := HTT.out
          rw [show decide (x ≠ iss) = false from decide_eq_false (fun h => h q2), Bool.and_false, if_neg (by decide)] at htt
          have HT2 := Lib.hid htt
          clear q1 q2 htt
          go_wp2_with fail
          go_roundw
          case rel => exact ⟨i + 1, by omega, by rw [HT2.out]; rfl, by go_num, HL1.out⟩
          case measure => simp only [intOf]; omega
        · have q2' : (x == iss) = false := by rw [beq_eq_false_iff_ne]; exact q2
          have htt := HTT.out
          rw [decide_eq_true q1, decide_eq_true q2, if_pos (by decide)] at htt
          have HT2 := Lib.hid htt
          clear q1 q2 htt
          go_wp2_with fail
          go_roundw
          case rel => exact ⟨i + 1, by omega, by rw [HT2.out]; go_num, by go_num, HL1.out⟩
          case measure => simp only [intOf]; omega
    · obtain rfl : i = 20 := by omega
      obtain ⟨h1, h2⟩ := HL.out
      have c1 : wr.cell? ⟨w.heap.size, 1, none⟩ = some (.int .i64 tear) := HL1.out.2.2.1.cell 1
      generalize TT 20 = n at h1 h2
      clear hi hlt
      have h1' : (n : Int) ≤ 1 := by omega
      by_cases h0 : n = 0
      · subst h0
        go_wp2_with fail
        refine (HAW.out _).mono ?_
        rintro r w9 ⟨rfl, hb9⟩
        go_wp2_with fail
        go_ret
        exact ⟨rfl, HL1.out.2.1.trans (hb9.mono HL1.out.2.1.size)⟩
      · have h0' : ((n : Int) == 0) = false := by rw [beq_eq_false_iff_ne]; omega
        have h3 : 0 ≤ tear := by omega
        clear h0 h2
        go_wp2_with fail
        refine (HAW.out _).mono ?_
        rintro r w9 ⟨rfl, hb9⟩
        go_wp2_with fail
        go_ret
        exact ⟨rfl, HL1.out.2.1.trans (hb9.mono HL1.out.2.1.size)⟩
set_option maxRecDepth 100000 in
theorem diskLasts_contract {H : Type} (enc : TypeId × Value → H) (W : World) (base : Nat) (args : Array Value) (ds gs : List (DataW H)) (before : List MemPlace)
    (hval : ∀ (j : Nat) t v, Try.f3.params[j]? = some t → args[j]? = some v → Value.okWide Try.prog W .any base t v)
    (hW : DataW.Whole enc Try.prog Try.f3.params.toList Rows.diskLastsSpec.vars false W args.toList ds gs before)
    (hsz : (DataW.weightsEach Try.prog (Try.f3.params.toList ++ Rows.diskLastsSpec.plain.varTypes Try.prog) (ds ++ gs)).all (· ≤ reachBytes) = true) :
    Calls Try.prog 3 args W fun e W' =>
      ((Rows.diskLastsSpec.fn H (ds ++ gs)).results = [.lit (.bool true)] ∧ (Rows.diskLastsSpec.fn H (ds ++ gs)).args = ds ∧ (Rows.diskLastsSpec.fn H (ds ++ gs)).vars = []) ∧ e = .returned (.bool true) ∧ Below W.heap.size W W' := by
  obtain ⟨p, q, hA0, hV, rfl, hfz, hnd⟩ := hW
  have hA : DataW.TrodAll enc Try.prog W 0 (fun _ => true) true Try.f3.params.toList args.toList ds p := hA0
  rw [Try.params3] at hA hval hsz
  obtain ⟨v0, v1, v2, d0, d1, d2, p0, p1, p2, rfl, rfl, rfl, h0, h1, h2⟩ := trodAll_three hA
  obtain ⟨rfl, rfl⟩ := trodVars_none hV
  obtain ⟨A_a, len_a, cap_a, rfl⟩ := okWide_slice Try.underlying22 (hval 0 22 v0 rfl rfl)
  obtain ⟨fuel_a, hf_a⟩ := h0
  obtain ⟨l_a, b_a, rfl, lc_a, cm_a, hB_a⟩ := bytes_open hf_a
  obtain ⟨A_b, len_b, cap_b, rfl⟩ := okWide_slice Try.underlying22 (hval 1 22 v1 rfl rfl)
  obtain ⟨fuel_b, hf_b⟩ := h1
  obtain ⟨l_b, b_b, rfl, lc_b, cm_b, hB_b⟩ := bytes_open hf_b
  obtain ⟨f, rfl, ok_f⟩ := fall_open (hval 2 25 v2 rfl rfl) h2
  exact (lasts_any l_a l_b _ _ b_a b_b _ _ f ok_f W hB_a hB_b (by omega) (by omega)).mono fun e W' h => ⟨⟨rfl, rfl, rfl⟩, h⟩

end Go.Proofs.Ytldlhdbdehmhbaa
