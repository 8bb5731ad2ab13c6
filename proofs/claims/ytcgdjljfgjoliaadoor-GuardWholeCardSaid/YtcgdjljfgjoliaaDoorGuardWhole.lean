/-
  The contract of GuardWhole.
-/
import Derived.Test.YtcgdjljfgjoliaaDoorGrdWW
import Derived.Test.YtcgdjljfgjoliaaDoorGrdAw
import Derived.Test.YtcgdjljfgjoliaaDoorGrdStands
import Derived.Test.YtcgdjljfgjoliaaDoorDskArg
namespace Go.Proofs.YtcgdjljfgjoliaaDoor
open Go.ChangeShapes Go.WideShapes Go.ChangeAt Go.RowKit
open Go.ChangeMaps (open_string shut_string)
set_option linter.unusedVariables false

namespace Grd
theorem whole_read {L : List GOp} {f : Dsk.Fall} {k0 done n m : Nat} {d0 df : Dsk.St} (h : Inv L k0 done n d0) (hk : k0 ≤ m) (hs : df.secs = Dsk.fallGo f 0 d0.secs) (hu : df.up = true) {i : Nat} (hi : i < 10) :
    ∃ r : T × Nat × Int, read df (i : Int) = (r.1, (r.2.1 : Int), r.2.2) ∧ (okTo L i (sureTo L i done) r m || (decide (r.2.2 = 17) && later L i (sureTo L i done) m)) = true := by
  obtain ⟨s, h1, h2⟩ := whole h hk f hi
  refine ⟨rd s.sure, ?_, h2⟩
  have hl : df.secs.length = 10 := by rw [hs, Dsk.fallGo_len]; exact h.1
  have hp : s.pend = none := Dsk.fallGo_none s (List.mem_of_getElem? h1)
  have hr : Dsk.read df (i : Int) = (s.sure, 0) := by
    unfold Dsk.read
    rw [if_neg (by rw [hu]; decide), if_neg (by rw [hl]; omega), Int.toNat_natCast, hs, h1]
    show ((s.now), (0 : Int)) = _
    unfold Dsk.Sec.now
    rw [hp]
  unfold read
  rw [hr, if_neg (by simp)]
theorem sureTo_yes {L : List GOp} {i k : Nat} {o : GOp} (ho : L[k]? = some o) (h : valid o i = true) : sureTo L i (k + 1) = k + 1 := by
  show (match L[k]? with | some o => _ | none => _) = _
  rw [ho]
  dsimp only
  rw [if_pos h]
theorem sureTo_no {L : List GOp} {i k : Nat} {o : GOp} (ho : L[k]? = some o) (h : valid o i = false) : sureTo L i (k + 1) = sureTo L i k := by
  show (match L[k]? with | some o => _ | none => _) = _
  rw [ho]
  dsimp only
  rw [if_neg (by rw [h]; decide)]
end Grd
set_option maxRecDepth 100000 in
set_option maxHeartbeats 4000000 in
theorem gwhole_any (L : List Grd.GOp) (b off cap : Nat) (A : Option Addr) (na : Int) (f : Dsk.Fall) (hf : Fok f) (hlc : L.length ≤ cap) (hcm : cap ≤ 9223372036854775807) (w : World) (hA : OpsAt w b off A L) :
    Calls Tryd.prog 6 #[.slice A L.length cap, .int .i64 na, .agg #[.int .u64 (f.keep : Int), .int .i64 f.tear]] w fun e w' => e = .returned (.bool true) ∧ Below w.heap.size w w' := by
  have HAW : Hid _ := fun W => gawake_any W
  have HM : Hid (∀ W, Calls Tryd.prog 9 #[.int .i64 1] W (MadePost W 1)) := Lib.hid (fun W => made_any 1 (by decide) (by decide) W)
  unfold MadePost at HM
  have hw0 : Below w.heap.size w (w.alloc (.cells #[.int .u64 (f.keep : Int), .int .i64 f.tear] 49)) := (Below.refl _ w).alloc (Nat.le_refl _) _
  have hF0 := Has.made w 49 #[.int .u64 (f.keep : Int), .int .i64 f.tear]
  have hsz := asize w (.cells #[.int .u64 (f.keep : Int), .int .i64 f.tear] 49)
  generalize hW0 : w.alloc (.cells #[.int .u64 (f.keep : Int), .int .i64 f.tear] 49) = w0 at hw0 hF0 hsz
  have HBK : Hid (∀ W, Below w0.heap.size w0 W → Below w.heap.size w W) := Lib.hid (fun W hb => hw0.trans (hb.mono (by omega)))
  have HFC : Hid (∀ W, Below w0.heap.size w0 W → W.cell? ⟨w.heap.size, 0, none⟩ = some (.int .u64 (f.keep : Int)) ∧ W.cell? ⟨w.heap.size, 1, none⟩ = some (.int .i64 f.tear)) := Lib.hid (fun W hb => by
    have := hF0.below hb hF0.lt
    exact ⟨by rw [this.cell]; rfl, by rw [this.cell]; rfl⟩)
  have HAT := Lib.hid (hA.below hw0 (Nat.le_refl _))
  clear hA
  by_cases hna : na < 0 ∨ 100 < na
  · by_cases hn0 : na < 0
    · clear hna
      go_enter Tryd.func6, Tryd.ntmps6
      go_wp2_with fail
      refine (HM.out _).mono ?_
      rintro r w1 ⟨gg, g, bd, mb, rfl, hg⟩
      have H := Lib.hid hg
      clear hg
      go_wp2_with fail
      refine (HAW.out _).mono ?_
      rintro r w2 ⟨rfl, hb⟩
      replace H := Lib.hid (H.out.below hb)
      clear hb
      go_wp2_with fail
      go_ret
      exact ⟨rfl, HBK.out _ H.out.bel⟩
    · have hn1 : 100 < na := by omega
      clear hna
      go_enter Tryd.func6, Tryd.ntmps6
      go_wp2_with fail
      refine (HM.out _).mono ?_
      rintro r w1 ⟨gg, g, bd, mb, rfl, hg⟩
      have H := Lib.hid hg
      clear hg
      go_wp2_with fail
      refine (HAW.out _).mono ?_
      rintro r w2 ⟨rfl, hb⟩
      replace H := Lib.hid (H.out.below hb)
      clear hb
      go_wp2_with fail
      go_ret
      exact ⟨rfl, HBK.out _ H.out.bel⟩
  obtain ⟨n, rfl⟩ : ∃ n : Nat, na = (n : Int) := ⟨na.toNat, by omega⟩
  have hn0 : ¬ (n : Int) < 0 := by omega
  have hn1 : ¬ 100 < (n : Int) := by omega
  clear hna
  have HAR : Hid (∀ (W : World) (g bd mb : Nat), DiskAt W g bd mb (Dsk.fresh 10) → Calls Tryd.prog 23 #[.pointer (some ⟨g, 0, none⟩), .int .i64 (n : Int), .agg #[.int .u64 (f.keep : Int), .int .i64 f.tear]] W (DPost W g bd mb 0 { Dsk.fresh 10 with arm := some (n, f) })) := Lib.hid (fun W g bd mb h => by
    have := arm_any h (n : Int) (by omega) f hf
    unfold Dsk.armed at this
    rw [if_neg (by decide), if_neg hn0] at this
    exact this)
  unfold DPost at HAR
  have hINV0 := Grd.w_start L f n { Dsk.fresh 10 with arm := some (n, f) } rfl rfl rfl rfl rfl
  generalize hd1 : ({ Dsk.fresh 10 with arm := some (n, f) } : Dsk.St) = d1 at HAR hINV0
  generalize Dsk.fresh 10 = d0 at HM HAR
  clear hd1 hn0
  go_enter Tryd.func6, Tryd.ntmps6
  go_wp2_with fail
  refine (HM.out _).mono ?_
  rintro r w1 ⟨gg, g, bd, mb, rfl, hg⟩
  have H := Lib.hid hg
  have hfc := HFC.out _ hg.bel
  obtain ⟨f0, f1⟩ := hfc
  clear hg
  go_wp2_with fail
  refine (HAR.out _ _ _ _ H.out.at_.disk).mono ?_
  rintro r w2 ⟨rfl, hd, hm⟩
  replace H := Lib.hid (H.out.dsk hd hm)
  clear hd hm f0 f1
  go_upto_region 6 with fail
  have hww : WW w0 (w2.alloc (.cells (suc fun _ => 0) 51)) gg g bd mb w2.heap.size 0 (fun _ => 0) d1 := by
    have hlt := H.out.at_.disk.lt
    have hgl := H.out.at_.cells.lt
    exact ⟨H.out.below ((Below.refl _ _).alloc (Nat.le_refl _) _), Has.made w2 _ _, hgl, hlt.1, hlt.2.1, hlt.2.2, H.out.bel.size⟩
  have hsu : suc (fun _ => 0) = #[.int .i64 0, .int .i64 0, .int .i64 0, .int .i64 0, .int .i64 0, .int .i64 0, .int .i64 0, .int .i64 0, .int .i64 0, .int .i64 0] := rfl
  rw [hsu] at hww
  clear H hsu
  generalize World.alloc w2 _ = W0 at hww ⊢
  generalize w2.heap.size = su at hww ⊢
  have HW0 := Lib.hid (And.intro hww hINV0)
  clear hww hINV0
  obtain ⟨m, hm⟩ : ∃ m, min L.length 40 = m := ⟨_, rfl⟩
  have hm1 : m ≤ 40 := by omega
  have hm2 : m ≤ L.length := by omega
  have hm3 : m = L.length ∨ m = 40 := by omega
  clear hW0 hF0 hsz hw0
  go_upto_block 0 with (fail)
  go_cut [10] (fun v10 wr => ∃ (k done wn : Nat) (d : Dsk.St), k ≤ m ∧ v10 = .int .i64 (done : Int) ∧ WW w0 wr gg g bd mb su wn (fun _ => 0) d ∧ Grd.WInv L f k done wn d)
  case first =>
    go_wp2_with fail
    go_loopw [10, 11] (fun v10 v11 wr => ∃ (k done wn : Nat) (d : Dsk.St), k ≤ m ∧ v10 = .int .i64 (done : Int) ∧ v11 = .int .i64 (k : Int) ∧ WW w0 wr gg g bd mb su wn (fun _ => 0) d ∧ Grd.WInv L f k done wn d) (fun _ v11 _ => m - vI v11)
    case atStart => exact ⟨0, 0, 0, d1, Nat.zero_le _, rfl, rfl, HW0.out.1, HW0.out.2⟩
    case round =>
      obtain ⟨k, done, wn, d, hk, rfl, rfl, hw, hinv⟩ := hrel
      have hk0 : (0 : Int) ≤ (k : Int) := by omega
      have HI := Lib.hid hinv
      have HW := Lib.hid hw
      clear hw hinv
      by_cases hlt : k < m
      · have kl : k < L.length := by omega
        have kli : (k : Int) < (L.length : Int) := by omega
        have kci : (k : Int) < (cap : Int) := by omega
        have k40 : (k : Int) < 40 := by omega
        go_wp2_with fail
        refine (up_any HW.out.gw.at_.disk).mono ?_
        rintro r w3 ⟨rfl, rfl⟩
        cases hu : d.up
        · go_wp2_with fail
          go_meet
          exact ⟨k, done, wn, d, hk, rfl, HW.out, HI.out⟩
        · have HU := Lib.hid (HI.out.ups hu)
          obtain ⟨hA, hbl, hat⟩ := (HAT.out.below HW.out.gw.bel (Nat.le_refl _)) (fun e => by rw [e] at kl; exact absurd kl (Nat.not_lt_zero _))
          have hx : L[k]? = some (L[k]'kl) := List.getElem?_eq_getElem kl
          have hg := hat k kl
          generalize L[k]'kl = x at hx hg
          clear hat
          subst hA
          obtain ⟨c0, c1, c2⟩ := hg
          have HX := Lib.hid hx
          clear hx
          have HW2 := Lib.hid (HW.out.below ((Below.refl _ _).alloc (Nat.le_refl _) (.cells #[.int .i64 x.kind, .int .i64 x.i, .string (S x.s)] 53)))
          have hac : d.acts < 1000000000000 := by have := HI.out.acts; omega
          have hfa : d.falls < 1000000000000 := by have := HI.out.falls; omega
          by_cases e1 : x.kind = 1
          · have p1 : (x.kind == 1) = true := by rw [beq_iff_eq]; exact e1
            have HS := Lib.hid (Grd.w_flush HU.out HX.out e1)
            have HC := Lib.hid (gflush_any HW2.out.gw.at_ hac hfa)
            clear e1
            unfold GDPost at HC
            generalize Dsk.flush d = fr at HS HC
            obtain ⟨c, d'⟩ := fr
            dsimp only at HS HC
            clear HI HU hac hfa HX
            go_wp2_with fail
            refine HC.out.mono ?_
            rintro r w4 ⟨rfl, hg, hm⟩
            replace HW2 := Lib.hid (HW2.out.mvd hg hm)
            clear hg hm
            rcases HS.out with ⟨rfl, hi2⟩ | ⟨rfl, hi2⟩
            · have HI2 := Lib.hid hi2
              clear hi2
              go_wp2_with fail
              refine ⟨⟨k + 1, k + 1, wn, d', by omega, by go_num, by go_num, HW2.out, HI2.out⟩, ?_⟩
              simp only [vI]
              omega
            · have HI2 := Lib.hid hi2
              clear hi2
              go_wp2_with fail
              refine ⟨⟨k + 1, done, wn, d', by omega, by go_num, by go_num, HW2.out, HI2.out⟩, ?_⟩
              simp only [vI]
              omega
          · have p1 : (x.kind == 1) = false := by rw [beq_eq_false_iff_ne]; exact e1
            by_cases e2 : x.kind = 0
            · have p2 : (x.kind == 0) = true := by rw [beq_iff_eq]; exact e2
              have HS := Lib.hid (Grd.w_erase HU.out HX.out e2)
              have HC := Lib.hid (gerase_any HW2.out.gw.at_ hac hfa x.i)
              clear e1 e2
              unfold GDPost at HC
              generalize Dsk.write d x.i Grd.noughts = fr at HS HC
              obtain ⟨c, d'⟩ := fr
              dsimp only at HS HC
              clear HI HU hac hfa HX
              go_wp2_with fail
              refine HC.out.mono ?_
              rintro r w4 ⟨rfl, hg, hm⟩
              replace HW2 := Lib.hid (HW2.out.mvd hg hm)
              clear hg hm
              have HI2 := HS
              go_wp2_with fail
              refine ⟨⟨k + 1, done, wn, d', by omega, by go_num, by go_num, HW2.out, HI2.out⟩, ?_⟩
              simp only [vI]
              omega
            · have p2 : (x.kind == 0) = false := by rw [beq_eq_false_iff_ne]; exact e2
              have HS := Lib.hid (Grd.w_put HU.out (by omega) HX.out e2 e1)
              have HC := Lib.hid (gput_any HW2.out.gw.at_ (by have := HI.out.1; omega) hac hfa x.i x.s)
              unfold PutPost at HC
              generalize Grd.put 1 wn d x.i x.s = fr at HS HC
              obtain ⟨c, c', wn', d'⟩ := fr
              dsimp only at HS HC
              clear HI HU hac hfa HX
              go_wp2_with fail
              refine HC.out.mono ?_
              rintro r w4 ⟨rfl, hg, hm⟩
              replace HW2 := Lib.hid (HW2.out.mv hg hm)
              clear hg hm
              have HI2 := HS
              go_wp2_with fail
              refine ⟨⟨k + 1, done, wn', d', by omega, by go_num, by go_num, HW2.out, HI2.out⟩, ?_⟩
              simp only [vI]
              omega
      · have hkm : k = m := by omega
        subst hkm
        clear hlt
        by_cases kl : (k : Int) < (L.length : Int)
        · have k40 : ¬ (k : Int) < 40 := by omega
          go_wp2_with fail
          go_meet
          exact ⟨k, done, wn, d, Nat.le_refl _, rfl, HW.out, HI.out⟩
        · go_wp2_with fail
          go_meet
          exact ⟨k, done, wn, d, Nat.le_refl _, rfl, HW.out, HI.out⟩
  case rest =>
    obtain ⟨k, done, wn, d, hk, rfl, hw, hinv⟩ := hcut
    have hdone := hinv.done_le
    have hac : d.acts < 1000000000000 := by have := hinv.acts; omega
    have hfa : d.falls < 1000000000000 := by have := hinv.falls; omega
    have hcr := Grd.w_crash hinv
    have HC := Lib.hid (fun W (hW : WW w0 W gg g bd mb su wn (fun _ => 0) d) => crash_any hW.gw.at_.disk hfa f hf)
    have hfc := HFC.out _ hw.gw.bel
    obtain ⟨f0, f1⟩ := hfc
    have HW := Lib.hid hw
    clear hw hinv hac hfa HW0 HAR HM
    unfold DPost at HC
    generalize Dsk.crash d f = cr at HC hcr
    obtain ⟨c, d2⟩ := cr
    dsimp only at HC hcr
    obtain ⟨hu2, ha2, hf2, k0, n0, d0', hk0', hi0, hs0⟩ := hcr
    have HCR := Lib.hid (And.intro hi0 hs0)
    clear hi0 hs0
    go_wp2_with fail
    refine (HC.out _ HW.out).mono ?_
    rintro r w3 ⟨rfl, hd, hm⟩
    replace HW := Lib.hid (HW.out.dsk hd hm)
    clear hd hm f0 f1 HC
    go_wp2_with fail
    refine (calm_any HW.out.gw.at_.disk).mono ?_
    rintro r w4 ⟨rfl, hd, hm⟩
    replace HW := Lib.hid (HW.out.dsk hd hm)
    clear hd hm
    have hst : Dsk.start (Dsk.calm d2) = (0, { Dsk.calm d2 with up := true }) := by
      unfold Dsk.start
      rw [if_neg (by show ¬ d2.up = true; rw [hu2]; decide)]
    have HS := Lib.hid (start_any HW.out.gw.at_.disk)
    rw [hst] at HS
    unfold DPost at HS
    dsimp only at HS
    obtain ⟨df, hdf⟩ : ∃ df : Dsk.St, { Dsk.calm d2 with up := true } = df := ⟨_, rfl⟩
    have hdu : df.up = true := by rw [← hdf]
    have hds : df.secs = d2.secs := by rw [← hdf]; rfl
    rw [hdf] at HS
    clear hdf hst hu2 ha2 hf2
    go_wp2_with fail
    refine HS.out.mono ?_
    rintro r w5 ⟨rfl, hd, hm⟩
    replace HW := Lib.hid (HW.out.dsk hd hm)
    clear hd hm HS
    have HWH : Hid (∀ i : Nat, i < 10 → ∃ r : Grd.T × Nat × Int, Grd.read df (i : Int) = (r.1, (r.2.1 : Int), r.2.2) ∧ (Grd.okTo L i (Grd.sureTo L i done) r m || (decide (r.2.2 = 17) && Grd.later L i (Grd.sureTo L i done) m)) = true) :=
      Lib.hid (fun i hi => Grd.whole_read HCR.out.1 (by omega) (hds.trans HCR.out.2) hdu hi)
    clear HCR hds hdu
    have hdm : done ≤ m := by omega
    clear hk hk0' hdone
    go_wp2_with fail
    go_loopw [13] (fun v13 wr => ∃ (i : Nat) (F : Nat → Nat), i ≤ 10 ∧ v13 = .int .i64 (i : Int) ∧ WW w0 wr gg g bd mb su wn F df ∧ ∀ j, i ≤ j → F j = 0) (fun v13 _ => 10 - vI v13)
    case atStart => exact ⟨0, fun _ => 0, Nat.zero_le _, rfl, HW.out, fun _ _ => rfl⟩
    case round =>
      obtain ⟨i, F, hi, rfl, hw, hz⟩ := hrel
      generalize wr = wo at hw ⊢
      have HW2 := Lib.hid hw
      have HZ := Lib.hid hz
      clear hw hz HW
      have ki0 : (0 : Int) ≤ (i : Int) := by omega
      by_cases hlt : i < 10
      · have kii : (i : Int) < 10 := by omega
        go_wp2_with fail
        go_loopw [14] (fun v14 wr => ∃ (k : Nat) (F2 : Nat → Nat), k ≤ done ∧ v14 = .int .i64 (k : Int) ∧ WW w0 wr gg g bd mb su wn F2 df ∧ F2 i = Grd.sureTo L i k ∧ ∀ j, i < j → F2 j = 0) (fun v14 _ => done - vI v14)
        case atStart => exact ⟨0, F, Nat.zero_le _, rfl, HW2.out, HZ.out i (Nat.le_refl _), fun j hj => HZ.out j (by omega)⟩
        case round =>
          obtain ⟨k, F2, hk, rfl, hw, hF, hz⟩ := hrel
          have hk0 : (0 : Int) ≤ (k : Int) := by omega
          have HF := Lib.hid (And.intro hF hz)
          have HW3 := Lib.hid hw
          have cs := suc_get F2 i hlt
          rw [← hw.sc.cell] at cs
          clear hF hz hw
          by_cases hlt2 : k < done
          · have hkd : (k : Int) < (done : Int) := by omega
            have kl : k < L.length := by omega
            have kli : (k : Int) < (L.length : Int) := by omega
            have kci : (k : Int) < (cap : Int) := by omega
            obtain ⟨hA, hbl, hat⟩ := (HAT.out.below HW3.out.gw.bel (Nat.le_refl _)) (fun e => by rw [e] at kl; exact absurd kl (Nat.not_lt_zero _))
            have hx : L[k]? = some (L[k]'kl) := List.getElem?_eq_getElem kl
            have hg := hat k kl
            generalize L[k]'kl = x at hx hg
            clear hat
            subst hA
            obtain ⟨c0, c1, c2⟩ := hg
            have HX := Lib.hid hx
            clear hx
            have fr := HW3.out.sc.free i
            have HST := Lib.hid (HW3.out.set i (k + 1) hlt)
            have e5 : ((k + 1 : Nat) : Int) = (k : Int) + 1 := by omega
            rw [e5] at HST
            clear e5
            by_cases e1 : x.i = (i : Int)
            · have p1 : (x.i == (i : Int)) = true := by rw [beq_iff_eq]; exact e1
              by_cases e2 : x.kind = 1
              · have p2 : (x.kind != 1) = false := by rw [e2]; rfl
                have p2' : (x.kind == 1) = true := by rw [e2]; rfl
                have HN := Lib.hid (Grd.sureTo_no (i := i) HX.out (by unfold Grd.valid; simp [e2]))
                clear e1 e2
                go_wp2_with fail
                refine ⟨⟨k + 1, F2, by omega, by go_num, HW3.out, by rw [HN.out]; exact HF.out.1, HF.out.2⟩, ?_⟩
                simp only [vI]
                omega
              · have p2 : (x.kind != 1) = true := by rw [bne_iff_ne]; exact e2
                have p2' : (x.kind == 1) = false := by rw [beq_eq_false_iff_ne]; exact e2
                by_cases e3 : x.kind = 0
                · have p3 : (x.kind == 0) = true := by rw [beq_iff_eq]; exact e3
                  have HN := Lib.hid (Grd.sureTo_yes (i := i) HX.out (by unfold Grd.valid; simp [e1, e3]))
                  clear e1 e2 e3
                  go_wp2_with fail
                  refine ⟨⟨k + 1, upd F2 i (k + 1), by omega, by go_num, HST.out, by rw [HN.out, upd_at], fun j hj => by rw [upd_ne F2 _ (by omega)]; exact HF.out.2 j hj⟩, ?_⟩
                  simp only [vI]
                  omega
                · have p3 : (x.kind == 0) = false := by rw [beq_eq_false_iff_ne]; exact e3
                  by_cases e4 : x.s.length ≤ 47
                  · have p4 : (x.s.length : Int) ≤ 47 := by omega
                    have HN := Lib.hid (Grd.sureTo_yes (i := i) HX.out (by unfold Grd.valid; simp [e1, e2, e4]))
                    clear e1 e2 e3 e4
                    go_wp2_with fail
                    refine ⟨⟨k + 1, upd F2 i (k + 1), by omega, by go_num, HST.out, by rw [HN.out, upd_at], fun j hj => by rw [upd_ne F2 _ (by omega)]; exact HF.out.2 j hj⟩, ?_⟩
                    simp only [vI]
                    omega
                  · have p4 : ¬ (x.s.length : Int) ≤ 47 := by omega
                    have HN := Lib.hid (Grd.sureTo_no (i := i) HX.out (by unfold Grd.valid; simp [e3, e4]))
                    clear e1 e2 e3 e4
                    go_wp2_with fail
                    refine ⟨⟨k + 1, F2, by omega, by go_num, HW3.out, by rw [HN.out]; exact HF.out.1, HF.out.2⟩, ?_⟩
                    simp only [vI]
                    omega
            · have p1 : (x.i == (i : Int)) = false := by rw [beq_eq_false_iff_ne]; exact e1
              have HN := Lib.hid (Grd.sureTo_no (i := i) HX.out (by unfold Grd.valid; simp [e1]))
              clear e1
              go_wp2_with fail
              refine ⟨⟨k + 1, F2, by omega, by go_num, HW3.out, by rw [HN.out]; exact HF.out.1, HF.out.2⟩, ?_⟩
              simp only [vI]
              omega
          · obtain rfl : k = done := by omega
            obtain ⟨rr, hr1, hr2⟩ := HWH.out i hlt
            have HS := Lib.hid (stands_any HW3.out.gw.at_.disk (HAT.out.below HW3.out.gw.bel (Nat.le_refl _)) hlc hcm i (Grd.sureTo L i k) hlt (by have := Grd.sureTo_le L i k; omega) rr hr1)
            rw [hm, hr2] at HS
            rw [HF.out.1] at cs
            clear hr1 hr2
            generalize Grd.sureTo L i k = sv at HS cs
            go_wp2_with fail
            refine HS.out.mono ?_
            rintro r w6 ⟨rfl, hb⟩
            replace HW3 := Lib.hid (HW3.out.below hb)
            clear hb
            go_wp2_with fail
            refine ⟨⟨i + 1, F2, by omega, by go_num, HW3.out, fun j hj => HF.out.2 j (by omega)⟩, ?_⟩
            simp only [vI]
            omega
      · obtain rfl : i = 10 := by omega
        go_wp2_with fail
        refine (HAW.out _).mono ?_
        rintro r w6 ⟨rfl, hb⟩
        replace HW2 := Lib.hid (HW2.out.below hb)
        clear hb
        go_wp2_with fail
        go_ret
        exact ⟨rfl, HBK.out _ HW2.out.gw.bel⟩

set_option maxRecDepth 100000 in
theorem guardWhole_contract {H : Type} (enc : TypeId × Value → H) (W : World) (base : Nat) (args : Array Value) (ds gs : List (DataW H)) (before : List MemPlace)
    (hval : ∀ (j : Nat) t v, Tryd.f6.params[j]? = some t → args[j]? = some v → Value.okWide Tryd.prog W .any base t v)
    (hW : DataW.Whole enc Tryd.prog Tryd.f6.params.toList Rows.guardWholeSpec.vars false W args.toList ds gs before)
    (hsz : (DataW.weightsEach Tryd.prog (Tryd.f6.params.toList ++ Rows.guardWholeSpec.plain.varTypes Tryd.prog) (ds ++ gs)).all (· ≤ reachBytes) = true) :
    Calls Tryd.prog 6 args W fun e W' =>
      ((Rows.guardWholeSpec.fn H (ds ++ gs)).results = [.lit (.bool true)] ∧ (Rows.guardWholeSpec.fn H (ds ++ gs)).args = ds ∧ (Rows.guardWholeSpec.fn H (ds ++ gs)).vars = []) ∧ e = .returned (.bool true) ∧ Below W.heap.size W W' := by
  obtain ⟨p, q, hA0, hV, rfl, hfz, hnd⟩ := hW
  have hA : DataW.TrodAll enc Tryd.prog W 0 (fun _ => true) true Tryd.f6.params.toList args.toList ds p := hA0
  rw [Tryd.params6] at hA hval hsz
  obtain ⟨v0, v1, v2, d0, d1, d2, p0, p1, p2, rfl, rfl, rfl, h0, h1, h2⟩ := trodAll_three hA
  obtain ⟨rfl, rfl⟩ := trodVars_none hV
  obtain ⟨A_s, len_s, cap_s, rfl⟩ := okWide_slice Tryd.underlying46 (hval 0 46 v0 rfl rfl)
  obtain ⟨fuel_s, hf_s⟩ := h0
  obtain ⟨l_s, b_s, off_s, rfl, lc_s, cm_s, hR_s⟩ := ops_open hf_s
  obtain ⟨n, rfl, rfl, rfl, bd_n⟩ := open_int Tryd.underlying3 (hval 1 3 v1 rfl rfl) h1
  obtain ⟨f, rfl, ok_f⟩ := fall_open (hval 2 49 v2 rfl rfl) h2
  exact (gwhole_any l_s b_s off_s cap_s A_s n f ok_f lc_s cm_s W hR_s).mono fun e W' h => ⟨⟨rfl, rfl, rfl⟩, h⟩

end Go.Proofs.YtcgdjljfgjoliaaDoor
