/-
  The contract of SuperLoads. Made by wip/gen/mksuperl.py.
-/
import Derived.Test.YtdgfohffmbnjiaaGreatDoorSupTwo
import Derived.Test.YtdgfohffmbnjiaaGreatDoorSupGrd
import Derived.Test.YtdgfohffmbnjiaaGreatDoorSupArg
import Derived.Test.YtdgfohffmbnjiaaGreatDoorLaw
import Derived.Test.YtdgfohffmbnjiaaGreatDoorRows
import Derived.SizedLaws
namespace Go.Proofs.YtdgfohffmbnjiaaGreatDoor
open Go.ChangeShapes Go.WideShapes Go.ChangeAt Go.RowKit
open Go.ChangeMaps (open_string shut_string)
set_option linter.unusedVariables false

set_option maxRecDepth 100000 in
set_option maxHeartbeats 8000000 in
theorem sloads_any (a b : List UInt8) (hla : a.length ≤ 1000000000000000) (hlb : b.length ≤ 1000000000000000) (w : World) :
    Calls Tryz.prog 4 #[.string (S a), .string (S b)] w fun e w' => e = .returned (.bool true) ∧ Below w.heap.size w w' := by
  have HAW : Hid _ := fun W => sawake_any W
  have HM : Hid _ := fun W => smade_any W
  unfold SMadePost at HM
  by_cases h1 : 47 < a.length
  · have g1 : (47 : Int) < (a.length : Int) := by omega
    clear h1 hla hlb
    go_enter Tryz.func4, Tryz.ntmps4
    go_wp2_with fail
    refine (HM.out _).mono ?_
    rintro r w1 ⟨gg, g, bd, mb, rfl, hg⟩
    have H := Lib.hid hg
    clear hg
    go_wp2_with fail
    refine (HAW.out _).mono ?_
    rintro r w2 ⟨rfl, hb⟩
    replace H := Lib.hid (H.out.below hb)
    clear hb
    go_wp2_with fail
    go_ret
    exact ⟨rfl, H.out.bel⟩
  have g1 : ¬ (47 : Int) < (a.length : Int) := by omega
  by_cases h2 : 47 < b.length
  · have g2 : (47 : Int) < (b.length : Int) := by omega
    clear h1 h2 hla hlb
    go_enter Tryz.func4, Tryz.ntmps4
    go_wp2_with fail
    refine (HM.out _).mono ?_
    rintro r w1 ⟨gg, g, bd, mb, rfl, hg⟩
    have H := Lib.hid hg
    clear hg
    go_wp2_with fail
    refine (HAW.out _).mono ?_
    rintro r w2 ⟨rfl, hb⟩
    replace H := Lib.hid (H.out.below hb)
    clear hb
    go_wp2_with fail
    go_ret
    exact ⟨rfl, H.out.bel⟩
  have g2 : ¬ (47 : Int) < (b.length : Int) := by omega
  have ha : a.length ≤ 47 := by omega
  have hb : b.length ≤ 47 := by omega
  clear h1 h2
  have HPA : Hid (∀ (W : World) (gg g bd mb : Nat), GuardAt W gg g bd mb 1 0 (Dsk.fresh 4) → Calls Tryz.prog 15 #[.pointer (some ⟨gg, 0, none⟩), .int .i64 0, .string (S a)] W fun e w' =>
      (∃ st, e = .returned (.tuple #[.int .i64 st, .int .i64 0])) ∧ GuardAt w' gg g bd mb 1 1 (Sup.pa a) ∧ Mv W w' [gg, g, bd, mb]) := Lib.hid (fun W gg g bd mb h => by
    have := gput_any h (by decide) (by decide) (by decide) 0 a
    rw [Sup.pa_eq ha] at this
    exact this.mono (fun e w' hp => ⟨⟨_, hp.1⟩, hp.2⟩))
  have HPB : Hid (∀ (W : World) (gg g bd mb : Nat), GuardAt W gg g bd mb 1 1 (Sup.pa a) → Calls Tryz.prog 15 #[.pointer (some ⟨gg, 0, none⟩), .int .i64 1, .string (S b)] W fun e w' =>
      (∃ st, e = .returned (.tuple #[.int .i64 st, .int .i64 0])) ∧ GuardAt w' gg g bd mb 1 2 (Sup.pb a b) ∧ Mv W w' [gg, g, bd, mb]) := Lib.hid (fun W gg g bd mb h => by
    have := gput_any h (by decide) (show (1 : Nat) < 1000000000000 by decide) (show (0 : Nat) < 1000000000000 by decide) 1 b
    rw [Sup.pb_eq hb] at this
    exact this.mono (fun e w' hp => ⟨⟨_, hp.1⟩, hp.2⟩))
  have HLD : Hid (∀ (W : World) (g bd mb : Nat), DiskAt W g bd mb (Sup.pb a b) → Calls Tryz.prog 13 #[.pointer (some ⟨g, 0, none⟩)] W fun e w' => e = .returned (.tuple #[(Sup.load (Sup.pb a b)).1.v, .int .i64 (Sup.load (Sup.pb a b)).2]) ∧ Below W.heap.size W w') := Lib.hid (fun W g bd mb h => sload_any h)
  have hfin := Sup.loads_fin ha hb
  generalize Sup.load (Sup.pb a b) = ld at HLD hfin
  generalize Dsk.fresh 4 = d0 at HM HPA
  generalize Sup.pa a = d1 at HPA HPB
  generalize Sup.pb a b = d2 at HPB HLD
  clear ha hb
  rcases hfin with rfl | ⟨s, hs, rfl, hpar⟩
  · unfold Sup.v Sup.cells Sup.zero at HLD
    dsimp only at HLD
    have HQ : Hid (∀ W, (binOp .eql 23 (.agg #[.int .i64 0, .int .i64 0, .int .i64 0, .int .i64 0]) (.agg #[.int .i64 0, .int .i64 0, .int .i64 0, .int .i64 0])).run Tryz.prog W = .ok (.bool true) W) := Lib.hid (fun W => by
      have := run_supEq ⟨0, 0, 0, 0⟩ ⟨0, 0, 0, 0⟩ W
      rw [decide_eq_true rfl] at this
      exact this)
    clear hla hlb
    go_enter Tryz.func4, Tryz.ntmps4
    go_wp2_with fail
    refine (HM.out _).mono ?_
    rintro r w1 ⟨gg, g, bd, mb, rfl, hg⟩
    have H := Lib.hid hg
    clear hg
    go_wp2_with fail
    refine (HPA.out _ _ _ _ _ H.out.at_).mono ?_
    rintro r w2 ⟨⟨st1, rfl⟩, hg, hm⟩
    replace H := Lib.hid (H.out.mv hg hm)
    clear hg hm
    go_wp2_with fail
    refine (HPB.out _ _ _ _ _ H.out.at_).mono ?_
    rintro r w3 ⟨⟨st2, rfl⟩, hg, hm⟩
    replace H := Lib.hid (H.out.mv hg hm)
    clear hg hm
    go_wp2_with fail
    refine (HLD.out _ _ _ _ H.out.at_.disk).mono ?_
    rintro r w4 ⟨rfl, hb⟩
    have HX := Lib.hid ((H.out.below hb).own ⟨0, 0, 0, 0⟩)
    replace H := Lib.hid ((H.out.below hb).alloc (.cells #[.int .i64 0, .int .i64 0, .int .i64 0, .int .i64 0] 23))
    clear hb
    have hq := HQ.out
    obtain ⟨y0, y1, y2, y3⟩ := HX.out.lies
    dsimp only at y0 y1 y2 y3
    go_wp2_with fail
    refine (HAW.out _).mono ?_
    rintro r w8 ⟨rfl, hb⟩
    replace H := Lib.hid (H.out.below hb)
    clear hb
    go_wp2_with fail
    go_ret
    exact ⟨rfl, H.out.bel⟩
  · have HRL : Hid (∀ W, Calls Tryz.prog 8 #[.agg #[.int .i64 s.gen, .int .i64 s.boot, .int .i64 s.side, .int .i64 s.seed]] W fun e w' => e = .returned (.bool true) ∧ Below W.heap.size W w') := Lib.hid (fun W => by
      have := lsright_any s W
      rw [hs] at this
      exact this)
    have HB : Hid (∀ W, Calls Tryz.prog 14 #[.agg #[.int .i64 s.gen, .int .i64 s.boot, .int .i64 s.side, .int .i64 s.seed]] W fun e w' => e = .returned (.string (S (Sup.enc s))) ∧ Below W.heap.size W w') := Lib.hid (fun W => lsbytes_any s W)
    have hg0 := Sup.gen_pos hs
    have hg1 := (Sup.right_iff.1 hs).2.1
    have hmod : Int.tmod s.gen 2 = s.gen % 2 := Int.tmod_eq_emod_of_nonneg (by omega)
    clear hs
    rcases hpar with ⟨hp, hen, hno⟩ | ⟨hp, hen, hno⟩
    · rw [hp] at hmod
      have hbn := Sup.num_bounds b
      have hl1 : (Sup.l1 b).2.1.length ≤ 1000000000000000 := Nat.le_trans (Sup.text_rest 100 (b, 0)) hlb
      have HO : Hid (∀ (w0 W : World), Below w0.heap.size w0 W → Calls Tryz.prog 16 #[.string (S b)] W fun e w' => ∃ r bb, e = .returned (.pointer (some ⟨r, 0, none⟩)) ∧ RdIn w0 w' r bb (b, 0) ∧ Below W.heap.size W w') := Lib.hid (fun w0 W h0 => lread_any b w0 W h0)
      have H1 : Hid (∀ w0 W r bb, RdIn w0 W r bb (b, 0) → Calls Tryz.prog 17 #[.pointer (some ⟨r, 0, none⟩), .int .i64 100] W fun e w' => e = .returned (.string (S (Sup.l1 b).1)) ∧ RdIn w0 w' r bb (Sup.l1 b).2) :=
        Lib.hid (fun w0 W r bb h => (text_rd 100 r bb _ W h.rd (by show (b).length ≤ _; omega)).mono (fun e w' hp => ⟨hp.1, h.only hp.2.1 hp.2.2⟩))
      have H2 : Hid (∀ w0 W r bb, RdIn w0 W r bb (Sup.l1 b).2 → Calls Tryz.prog 18 #[.pointer (some ⟨r, 0, none⟩), .int .i64 2147483647] W fun e w' => e = .returned (.int .i64 (Sup.l2 b).1) ∧ RdIn w0 w' r bb (Sup.l2 b).2) :=
        Lib.hid (fun w0 W r bb h => (num_rd 2147483647 r bb _ W h.rd (by omega)).mono (fun e w' hp => ⟨hp.1, h.only hp.2.1 hp.2.2⟩))
      have HIS : Hid (∀ n W, Calls Tryz.prog 19 #[.string (S b), .int .i64 n] W fun e w' => e = .returned (.bool (Sup.isS b n)) ∧ Below W.heap.size W w') := Lib.hid (fun n W => isSuper_any b n hlb W)
      have hno' := hno (Sup.l2 b).1
      rw [hen] at HB
      generalize (Sup.l2 b).2 = s2 at H2
      generalize (Sup.l2 b).1 = gn at H2 hno' hbn
      generalize (Sup.l1 b).2 = s1 at H1 H2
      generalize (Sup.l1 b).1 = tx at H1
      clear hno hen hp hl1 hla hlb
      replace HIS := Lib.hid (fun W => HIS.out gn W)
      generalize Sup.isS b gn = is at HIS hno'
      obtain ⟨x1, x2, x3, x4⟩ := s
      unfold Sup.v Sup.cells at HLD
      dsimp only at HRL HB HLD hmod hno' hg0 hg1
      have hsub : wrap64 (gn - x1) = gn - x1 := by unfold wrap64; omega
      by_cases ht : tx = [67, 72, 65, 82, 84, 49]
      · subst ht
        by_cases hgt : x1 < gn
        · have hmd : Int.tmod (gn - x1) 2 = (gn - x1) % 2 := Int.tmod_eq_emod_of_nonneg (by omega)
          by_cases hm1 : (gn - x1) % 2 = 1
          · have his := hno' hgt hm1
            subst his
            rw [hm1] at hmd
            clear hm1 hno' hbn hg0 hg1
            go_enter Tryz.func4, Tryz.ntmps4
            go_wp2_with fail
            refine (HM.out _).mono ?_
            rintro r w1 ⟨gg, g, bd, mb, rfl, hg⟩
            have H := Lib.hid hg
            clear hg
            go_wp2_with fail
            refine (HPA.out _ _ _ _ _ H.out.at_).mono ?_
            rintro r w2 ⟨⟨st1, rfl⟩, hg, hm⟩
            replace H := Lib.hid (H.out.mv hg hm)
            clear hg hm
            go_wp2_with fail
            refine (HPB.out _ _ _ _ _ H.out.at_).mono ?_
            rintro r w3 ⟨⟨st2, rfl⟩, hg, hm⟩
            replace H := Lib.hid (H.out.mv hg hm)
            clear hg hm
            go_wp2_with fail
            refine (HLD.out _ _ _ _ H.out.at_.disk).mono ?_
            rintro r w4 ⟨rfl, hb⟩
            have HX := Lib.hid ((H.out.below hb).own ⟨x1, x2, x3, x4⟩)
            replace H := Lib.hid ((H.out.below hb).alloc (.cells #[.int .i64 x1, .int .i64 x2, .int .i64 x3, .int .i64 x4] 23))
            clear hb
            obtain ⟨y0, y1, y2, y3⟩ := HX.out.lies
            dsimp only at y0 y1 y2 y3
            go_wp2_with fail
            refine (HRL.out _).mono ?_
            rintro r w5 ⟨rfl, hb⟩
            replace H := Lib.hid (H.out.below hb)
            replace HX := Lib.hid (HX.out.below hb)
            clear hb y0 y1 y2 y3
            obtain ⟨y0, y1, y2, y3⟩ := HX.out.lies
            dsimp only at y0 y1 y2 y3
            go_wp2_with fail
            refine (HO.out w5 _ (Below.refl _ _)).mono ?_
            rintro e w6 ⟨r, b6, rfl, hr, _⟩
            have HR := Lib.hid hr
            clear hr
            go_wp2_with fail
            refine (H1.out _ _ _ _ HR.out).mono ?_
            rintro e w7 ⟨rfl, hr⟩
            replace HR := Lib.hid hr
            clear hr
            go_wp2_with fail
            refine (H2.out _ _ _ _ HR.out).mono ?_
            rintro e w8 ⟨rfl, hr⟩
            replace H := Lib.hid (H.out.below hr.bel)
            replace HX := Lib.hid (HX.out.below hr.bel)
            clear hr y0 y1 y2 y3
            obtain ⟨y0, y1, y2, y3⟩ := HX.out.lies
            dsimp only at y0 y1 y2 y3
            go_wp2_with fail
            refine (HIS.out _).mono ?_
            rintro r w9 ⟨rfl, hb⟩
            replace H := Lib.hid (H.out.below hb)
            replace HX := Lib.hid (HX.out.below hb)
            clear hb y0 y1 y2 y3
            obtain ⟨y0, y1, y2, y3⟩ := HX.out.lies
            dsimp only at y0 y1 y2 y3
            go_wp2_with fail
            refine (HB.out _).mono ?_
            rintro r v1 ⟨rfl, hb⟩
            replace H := Lib.hid (H.out.below hb)
            clear hb y0 y1 y2 y3 HX
            go_wp2_with fail
            refine (HAW.out _).mono ?_
            rintro r v2 ⟨rfl, hb⟩
            replace H := Lib.hid (H.out.below hb)
            clear hb
            go_wp2_with fail
            go_ret
            exact ⟨rfl, H.out.bel⟩
          · generalize (gn - x1) % 2 = md at hmd hm1
            have hmd' : (md == 1) = false := by rw [beq_eq_false_iff_ne]; exact hm1
            clear hm1 hno' hbn hg0 hg1
            go_enter Tryz.func4, Tryz.ntmps4
            go_wp2_with fail
            refine (HM.out _).mono ?_
            rintro r w1 ⟨gg, g, bd, mb, rfl, hg⟩
            have H := Lib.hid hg
            clear hg
            go_wp2_with fail
            refine (HPA.out _ _ _ _ _ H.out.at_).mono ?_
            rintro r w2 ⟨⟨st1, rfl⟩, hg, hm⟩
            replace H := Lib.hid (H.out.mv hg hm)
            clear hg hm
            go_wp2_with fail
            refine (HPB.out _ _ _ _ _ H.out.at_).mono ?_
            rintro r w3 ⟨⟨st2, rfl⟩, hg, hm⟩
            replace H := Lib.hid (H.out.mv hg hm)
            clear hg hm
            go_wp2_with fail
            refine (HLD.out _ _ _ _ H.out.at_.disk).mono ?_
            rintro r w4 ⟨rfl, hb⟩
            have HX := Lib.hid ((H.out.below hb).own ⟨x1, x2, x3, x4⟩)
            replace H := Lib.hid ((H.out.below hb).alloc (.cells #[.int .i64 x1, .int .i64 x2, .int .i64 x3, .int .i64 x4] 23))
            clear hb
            obtain ⟨y0, y1, y2, y3⟩ := HX.out.lies
            dsimp only at y0 y1 y2 y3
            go_wp2_with fail
            refine (HRL.out _).mono ?_
            rintro r w5 ⟨rfl, hb⟩
            replace H := Lib.hid (H.out.below hb)
            replace HX := Lib.hid (HX.out.below hb)
            clear hb y0 y1 y2 y3
            obtain ⟨y0, y1, y2, y3⟩ := HX.out.lies
            dsimp only at y0 y1 y2 y3
            go_wp2_with fail
            refine (HO.out w5 _ (Below.refl _ _)).mono ?_
            rintro e w6 ⟨r, b6, rfl, hr, _⟩
            have HR := Lib.hid hr
            clear hr
            go_wp2_with fail
            refine (H1.out _ _ _ _ HR.out).mono ?_
            rintro e w7 ⟨rfl, hr⟩
            replace HR := Lib.hid hr
            clear hr
            go_wp2_with fail
            refine (H2.out _ _ _ _ HR.out).mono ?_
            rintro e w8 ⟨rfl, hr⟩
            replace H := Lib.hid (H.out.below hr.bel)
            replace HX := Lib.hid (HX.out.below hr.bel)
            clear hr y0 y1 y2 y3
            obtain ⟨y0, y1, y2, y3⟩ := HX.out.lies
            dsimp only at y0 y1 y2 y3
            go_wp2_with fail
            refine (HB.out _).mono ?_
            rintro r v1 ⟨rfl, hb⟩
            replace H := Lib.hid (H.out.below hb)
            clear hb y0 y1 y2 y3 HX
            go_wp2_with fail
            refine (HAW.out _).mono ?_
            rintro r v2 ⟨rfl, hb⟩
            replace H := Lib.hid (H.out.below hb)
            clear hb
            go_wp2_with fail
            go_ret
            exact ⟨rfl, H.out.bel⟩
        · clear hno' hbn hg0 hg1 hsub
          go_enter Tryz.func4, Tryz.ntmps4
          go_wp2_with fail
          refine (HM.out _).mono ?_
          rintro r w1 ⟨gg, g, bd, mb, rfl, hg⟩
          have H := Lib.hid hg
          clear hg
          go_wp2_with fail
          refine (HPA.out _ _ _ _ _ H.out.at_).mono ?_
          rintro r w2 ⟨⟨st1, rfl⟩, hg, hm⟩
          replace H := Lib.hid (H.out.mv hg hm)
          clear hg hm
          go_wp2_with fail
          refine (HPB.out _ _ _ _ _ H.out.at_).mono ?_
          rintro r w3 ⟨⟨st2, rfl⟩, hg, hm⟩
          replace H := Lib.hid (H.out.mv hg hm)
          clear hg hm
          go_wp2_with fail
          refine (HLD.out _ _ _ _ H.out.at_.disk).mono ?_
          rintro r w4 ⟨rfl, hb⟩
          have HX := Lib.hid ((H.out.below hb).own ⟨x1, x2, x3, x4⟩)
          replace H := Lib.hid ((H.out.below hb).alloc (.cells #[.int .i64 x1, .int .i64 x2, .int .i64 x3, .int .i64 x4] 23))
          clear hb
          obtain ⟨y0, y1, y2, y3⟩ := HX.out.lies
          dsimp only at y0 y1 y2 y3
          go_wp2_with fail
          refine (HRL.out _).mono ?_
          rintro r w5 ⟨rfl, hb⟩
          replace H := Lib.hid (H.out.below hb)
          replace HX := Lib.hid (HX.out.below hb)
          clear hb y0 y1 y2 y3
          obtain ⟨y0, y1, y2, y3⟩ := HX.out.lies
          dsimp only at y0 y1 y2 y3
          go_wp2_with fail
          refine (HO.out w5 _ (Below.refl _ _)).mono ?_
          rintro e w6 ⟨r, b6, rfl, hr, _⟩
          have HR := Lib.hid hr
          clear hr
          go_wp2_with fail
          refine (H1.out _ _ _ _ HR.out).mono ?_
          rintro e w7 ⟨rfl, hr⟩
          replace HR := Lib.hid hr
          clear hr
          go_wp2_with fail
          refine (H2.out _ _ _ _ HR.out).mono ?_
          rintro e w8 ⟨rfl, hr⟩
          replace H := Lib.hid (H.out.below hr.bel)
          replace HX := Lib.hid (HX.out.below hr.bel)
          clear hr y0 y1 y2 y3
          obtain ⟨y0, y1, y2, y3⟩ := HX.out.lies
          dsimp only at y0 y1 y2 y3
          go_wp2_with fail
          refine (HB.out _).mono ?_
          rintro r v1 ⟨rfl, hb⟩
          replace H := Lib.hid (H.out.below hb)
          clear hb y0 y1 y2 y3 HX
          go_wp2_with fail
          refine (HAW.out _).mono ?_
          rintro r v2 ⟨rfl, hb⟩
          replace H := Lib.hid (H.out.below hb)
          clear hb
          go_wp2_with fail
          go_ret
          exact ⟨rfl, H.out.bel⟩
      · have ht' : (tx == [67, 72, 65, 82, 84, 49]) = false := by rw [beq_eq_false_iff_ne]; exact ht
        clear hno' hbn hg0 hg1 hsub ht
        go_enter Tryz.func4, Tryz.ntmps4
        go_wp2_with fail
        refine (HM.out _).mono ?_
        rintro r w1 ⟨gg, g, bd, mb, rfl, hg⟩
        have H := Lib.hid hg
        clear hg
        go_wp2_with fail
        refine (HPA.out _ _ _ _ _ H.out.at_).mono ?_
        rintro r w2 ⟨⟨st1, rfl⟩, hg, hm⟩
        replace H := Lib.hid (H.out.mv hg hm)
        clear hg hm
        go_wp2_with fail
        refine (HPB.out _ _ _ _ _ H.out.at_).mono ?_
        rintro r w3 ⟨⟨st2, rfl⟩, hg, hm⟩
        replace H := Lib.hid (H.out.mv hg hm)
        clear hg hm
        go_wp2_with fail
        refine (HLD.out _ _ _ _ H.out.at_.disk).mono ?_
        rintro r w4 ⟨rfl, hb⟩
        have HX := Lib.hid ((H.out.below hb).own ⟨x1, x2, x3, x4⟩)
        replace H := Lib.hid ((H.out.below hb).alloc (.cells #[.int .i64 x1, .int .i64 x2, .int .i64 x3, .int .i64 x4] 23))
        clear hb
        obtain ⟨y0, y1, y2, y3⟩ := HX.out.lies
        dsimp only at y0 y1 y2 y3
        go_wp2_with fail
        refine (HRL.out _).mono ?_
        rintro r w5 ⟨rfl, hb⟩
        replace H := Lib.hid (H.out.below hb)
        replace HX := Lib.hid (HX.out.below hb)
        clear hb y0 y1 y2 y3
        obtain ⟨y0, y1, y2, y3⟩ := HX.out.lies
        dsimp only at y0 y1 y2 y3
        go_wp2_with fail
        refine (HO.out w5 _ (Below.refl _ _)).mono ?_
        rintro e w6 ⟨r, b6, rfl, hr, _⟩
        have HR := Lib.hid hr
        clear hr
        go_wp2_with fail
        refine (H1.out _ _ _ _ HR.out).mono ?_
        rintro e w7 ⟨rfl, hr⟩
        replace HR := Lib.hid hr
        clear hr
        go_wp2_with fail
        refine (H2.out _ _ _ _ HR.out).mono ?_
        rintro e w8 ⟨rfl, hr⟩
        replace H := Lib.hid (H.out.below hr.bel)
        replace HX := Lib.hid (HX.out.below hr.bel)
        clear hr y0 y1 y2 y3
        obtain ⟨y0, y1, y2, y3⟩ := HX.out.lies
        dsimp only at y0 y1 y2 y3
        go_wp2_with fail
        refine (HB.out _).mono ?_
        rintro r v1 ⟨rfl, hb⟩
        replace H := Lib.hid (H.out.below hb)
        clear hb y0 y1 y2 y3 HX
        go_wp2_with fail
        refine (HAW.out _).mono ?_
        rintro r v2 ⟨rfl, hb⟩
        replace H := Lib.hid (H.out.below hb)
        clear hb
        go_wp2_with fail
        go_ret
        exact ⟨rfl, H.out.bel⟩
    · rw [hp] at hmod
      have hbn := Sup.num_bounds a
      have hl1 : (Sup.l1 a).2.1.length ≤ 1000000000000000 := Nat.le_trans (Sup.text_rest 100 (a, 0)) hla
      have HO : Hid (∀ (w0 W : World), Below w0.heap.size w0 W → Calls Tryz.prog 16 #[.string (S a)] W fun e w' => ∃ r bb, e = .returned (.pointer (some ⟨r, 0, none⟩)) ∧ RdIn w0 w' r bb (a, 0) ∧ Below W.heap.size W w') := Lib.hid (fun w0 W h0 => lread_any a w0 W h0)
      have H1 : Hid (∀ w0 W r bb, RdIn w0 W r bb (a, 0) → Calls Tryz.prog 17 #[.pointer (some ⟨r, 0, none⟩), .int .i64 100] W fun e w' => e = .returned (.string (S (Sup.l1 a).1)) ∧ RdIn w0 w' r bb (Sup.l1 a).2) :=
        Lib.hid (fun w0 W r bb h => (text_rd 100 r bb _ W h.rd (by show (a).length ≤ _; omega)).mono (fun e w' hp => ⟨hp.1, h.only hp.2.1 hp.2.2⟩))
      have H2 : Hid (∀ w0 W r bb, RdIn w0 W r bb (Sup.l1 a).2 → Calls Tryz.prog 18 #[.pointer (some ⟨r, 0, none⟩), .int .i64 2147483647] W fun e w' => e = .returned (.int .i64 (Sup.l2 a).1) ∧ RdIn w0 w' r bb (Sup.l2 a).2) :=
        Lib.hid (fun w0 W r bb h => (num_rd 2147483647 r bb _ W h.rd (by omega)).mono (fun e w' hp => ⟨hp.1, h.only hp.2.1 hp.2.2⟩))
      have HIS : Hid (∀ n W, Calls Tryz.prog 19 #[.string (S a), .int .i64 n] W fun e w' => e = .returned (.bool (Sup.isS a n)) ∧ Below W.heap.size W w') := Lib.hid (fun n W => isSuper_any a n hla W)
      have hno' := hno (Sup.l2 a).1
      rw [hen] at HB
      generalize (Sup.l2 a).2 = s2 at H2
      generalize (Sup.l2 a).1 = gn at H2 hno' hbn
      generalize (Sup.l1 a).2 = s1 at H1 H2
      generalize (Sup.l1 a).1 = tx at H1
      clear hno hen hp hl1 hla hlb
      replace HIS := Lib.hid (fun W => HIS.out gn W)
      generalize Sup.isS a gn = is at HIS hno'
      obtain ⟨x1, x2, x3, x4⟩ := s
      unfold Sup.v Sup.cells at HLD
      dsimp only at HRL HB HLD hmod hno' hg0 hg1
      have hsub : wrap64 (gn - x1) = gn - x1 := by unfold wrap64; omega
      by_cases ht : tx = [67, 72, 65, 82, 84, 49]
      · subst ht
        by_cases hgt : x1 < gn
        · have hmd : Int.tmod (gn - x1) 2 = (gn - x1) % 2 := Int.tmod_eq_emod_of_nonneg (by omega)
          by_cases hm1 : (gn - x1) % 2 = 1
          · have his := hno' hgt hm1
            subst his
            rw [hm1] at hmd
            clear hm1 hno' hbn hg0 hg1
            go_enter Tryz.func4, Tryz.ntmps4
            go_wp2_with fail
            refine (HM.out _).mono ?_
            rintro r w1 ⟨gg, g, bd, mb, rfl, hg⟩
            have H := Lib.hid hg
            clear hg
            go_wp2_with fail
            refine (HPA.out _ _ _ _ _ H.out.at_).mono ?_
            rintro r w2 ⟨⟨st1, rfl⟩, hg, hm⟩
            replace H := Lib.hid (H.out.mv hg hm)
            clear hg hm
            go_wp2_with fail
            refine (HPB.out _ _ _ _ _ H.out.at_).mono ?_
            rintro r w3 ⟨⟨st2, rfl⟩, hg, hm⟩
            replace H := Lib.hid (H.out.mv hg hm)
            clear hg hm
            go_wp2_with fail
            refine (HLD.out _ _ _ _ H.out.at_.disk).mono ?_
            rintro r w4 ⟨rfl, hb⟩
            have HX := Lib.hid ((H.out.below hb).own ⟨x1, x2, x3, x4⟩)
            replace H := Lib.hid ((H.out.below hb).alloc (.cells #[.int .i64 x1, .int .i64 x2, .int .i64 x3, .int .i64 x4] 23))
            clear hb
            obtain ⟨y0, y1, y2, y3⟩ := HX.out.lies
            dsimp only at y0 y1 y2 y3
            go_wp2_with fail
            refine (HRL.out _).mono ?_
            rintro r w5 ⟨rfl, hb⟩
            replace H := Lib.hid (H.out.below hb)
            replace HX := Lib.hid (HX.out.below hb)
            clear hb y0 y1 y2 y3
            obtain ⟨y0, y1, y2, y3⟩ := HX.out.lies
            dsimp only at y0 y1 y2 y3
            go_wp2_with fail
            refine (HO.out w5 _ (Below.refl _ _)).mono ?_
            rintro e w6 ⟨r, b6, rfl, hr, _⟩
            have HR := Lib.hid hr
            clear hr
            go_wp2_with fail
            refine (H1.out _ _ _ _ HR.out).mono ?_
            rintro e w7 ⟨rfl, hr⟩
            replace HR := Lib.hid hr
            clear hr
            go_wp2_with fail
            refine (H2.out _ _ _ _ HR.out).mono ?_
            rintro e w8 ⟨rfl, hr⟩
            replace H := Lib.hid (H.out.below hr.bel)
            replace HX := Lib.hid (HX.out.below hr.bel)
            clear hr y0 y1 y2 y3
            obtain ⟨y0, y1, y2, y3⟩ := HX.out.lies
            dsimp only at y0 y1 y2 y3
            go_wp2_with fail
            refine (HIS.out _).mono ?_
            rintro r w9 ⟨rfl, hb⟩
            replace H := Lib.hid (H.out.below hb)
            replace HX := Lib.hid (HX.out.below hb)
            clear hb y0 y1 y2 y3
            obtain ⟨y0, y1, y2, y3⟩ := HX.out.lies
            dsimp only at y0 y1 y2 y3
            go_wp2_with fail
            refine (HB.out _).mono ?_
            rintro r v1 ⟨rfl, hb⟩
            replace H := Lib.hid (H.out.below hb)
            clear hb y0 y1 y2 y3 HX
            go_wp2_with fail
            refine (HAW.out _).mono ?_
            rintro r v2 ⟨rfl, hb⟩
            replace H := Lib.hid (H.out.below hb)
            clear hb
            go_wp2_with fail
            go_ret
            exact ⟨rfl, H.out.bel⟩
          · generalize (gn - x1) % 2 = md at hmd hm1
            have hmd' : (md == 1) = false := by rw [beq_eq_false_iff_ne]; exact hm1
            clear hm1 hno' hbn hg0 hg1
            go_enter Tryz.func4, Tryz.ntmps4
            go_wp2_with fail
            refine (HM.out _).mono ?_
            rintro r w1 ⟨gg, g, bd, mb, rfl, hg⟩
            have H := Lib.hid hg
            clear hg
            go_wp2_with fail
            refine (HPA.out _ _ _ _ _ H.out.at_).mono ?_
            rintro r w2 ⟨⟨st1, rfl⟩, hg, hm⟩
            replace H := Lib.hid (H.out.mv hg hm)
            clear hg hm
            go_wp2_with fail
            refine (HPB.out _ _ _ _ _ H.out.at_).mono ?_
            rintro r w3 ⟨⟨st2, rfl⟩, hg, hm⟩
            replace H := Lib.hid (H.out.mv hg hm)
            clear hg hm
            go_wp2_with fail
            refine (HLD.out _ _ _ _ H.out.at_.disk).mono ?_
            rintro r w4 ⟨rfl, hb⟩
            have HX := Lib.hid ((H.out.below hb).own ⟨x1, x2, x3, x4⟩)
            replace H := Lib.hid ((H.out.below hb).alloc (.cells #[.int .i64 x1, .int .i64 x2, .int .i64 x3, .int .i64 x4] 23))
            clear hb
            obtain ⟨y0, y1, y2, y3⟩ := HX.out.lies
            dsimp only at y0 y1 y2 y3
            go_wp2_with fail
            refine (HRL.out _).mono ?_
            rintro r w5 ⟨rfl, hb⟩
            replace H := Lib.hid (H.out.below hb)
            replace HX := Lib.hid (HX.out.below hb)
            clear hb y0 y1 y2 y3
            obtain ⟨y0, y1, y2, y3⟩ := HX.out.lies
            dsimp only at y0 y1 y2 y3
            go_wp2_with fail
            refine (HO.out w5 _ (Below.refl _ _)).mono ?_
            rintro e w6 ⟨r, b6, rfl, hr, _⟩
            have HR := Lib.hid hr
            clear hr
            go_wp2_with fail
            refine (H1.out _ _ _ _ HR.out).mono ?_
            rintro e w7 ⟨rfl, hr⟩
            replace HR := Lib.hid hr
            clear hr
            go_wp2_with fail
            refine (H2.out _ _ _ _ HR.out).mono ?_
            rintro e w8 ⟨rfl, hr⟩
            replace H := Lib.hid (H.out.below hr.bel)
            replace HX := Lib.hid (HX.out.below hr.bel)
            clear hr y0 y1 y2 y3
            obtain ⟨y0, y1, y2, y3⟩ := HX.out.lies
            dsimp only at y0 y1 y2 y3
            go_wp2_with fail
            refine (HB.out _).mono ?_
            rintro r v1 ⟨rfl, hb⟩
            replace H := Lib.hid (H.out.below hb)
            clear hb y0 y1 y2 y3 HX
            go_wp2_with fail
            refine (HAW.out _).mono ?_
            rintro r v2 ⟨rfl, hb⟩
            replace H := Lib.hid (H.out.below hb)
            clear hb
            go_wp2_with fail
            go_ret
            exact ⟨rfl, H.out.bel⟩
        · clear hno' hbn hg0 hg1 hsub
          go_enter Tryz.func4, Tryz.ntmps4
          go_wp2_with fail
          refine (HM.out _).mono ?_
          rintro r w1 ⟨gg, g, bd, mb, rfl, hg⟩
          have H := Lib.hid hg
          clear hg
          go_wp2_with fail
          refine (HPA.out _ _ _ _ _ H.out.at_).mono ?_
          rintro r w2 ⟨⟨st1, rfl⟩, hg, hm⟩
          replace H := Lib.hid (H.out.mv hg hm)
          clear hg hm
          go_wp2_with fail
          refine (HPB.out _ _ _ _ _ H.out.at_).mono ?_
          rintro r w3 ⟨⟨st2, rfl⟩, hg, hm⟩
          replace H := Lib.hid (H.out.mv hg hm)
          clear hg hm
          go_wp2_with fail
          refine (HLD.out _ _ _ _ H.out.at_.disk).mono ?_
          rintro r w4 ⟨rfl, hb⟩
          have HX := Lib.hid ((H.out.below hb).own ⟨x1, x2, x3, x4⟩)
          replace H := Lib.hid ((H.out.below hb).alloc (.cells #[.int .i64 x1, .int .i64 x2, .int .i64 x3, .int .i64 x4] 23))
          clear hb
          obtain ⟨y0, y1, y2, y3⟩ := HX.out.lies
          dsimp only at y0 y1 y2 y3
          go_wp2_with fail
          refine (HRL.out _).mono ?_
          rintro r w5 ⟨rfl, hb⟩
          replace H := Lib.hid (H.out.below hb)
          replace HX := Lib.hid (HX.out.below hb)
          clear hb y0 y1 y2 y3
          obtain ⟨y0, y1, y2, y3⟩ := HX.out.lies
          dsimp only at y0 y1 y2 y3
          go_wp2_with fail
          refine (HO.out w5 _ (Below.refl _ _)).mono ?_
          rintro e w6 ⟨r, b6, rfl, hr, _⟩
          have HR := Lib.hid hr
          clear hr
          go_wp2_with fail
          refine (H1.out _ _ _ _ HR.out).mono ?_
          rintro e w7 ⟨rfl, hr⟩
          replace HR := Lib.hid hr
          clear hr
          go_wp2_with fail
          refine (H2.out _ _ _ _ HR.out).mono ?_
          rintro e w8 ⟨rfl, hr⟩
          replace H := Lib.hid (H.out.below hr.bel)
          replace HX := Lib.hid (HX.out.below hr.bel)
          clear hr y0 y1 y2 y3
          obtain ⟨y0, y1, y2, y3⟩ := HX.out.lies
          dsimp only at y0 y1 y2 y3
          go_wp2_with fail
          refine (HB.out _).mono ?_
          rintro r v1 ⟨rfl, hb⟩
          replace H := Lib.hid (H.out.below hb)
          clear hb y0 y1 y2 y3 HX
          go_wp2_with fail
          refine (HAW.out _).mono ?_
          rintro r v2 ⟨rfl, hb⟩
          replace H := Lib.hid (H.out.below hb)
          clear hb
          go_wp2_with fail
          go_ret
          exact ⟨rfl, H.out.bel⟩
      · have ht' : (tx == [67, 72, 65, 82, 84, 49]) = false := by rw [beq_eq_false_iff_ne]; exact ht
        clear hno' hbn hg0 hg1 hsub ht
        go_enter Tryz.func4, Tryz.ntmps4
        go_wp2_with fail
        refine (HM.out _).mono ?_
        rintro r w1 ⟨gg, g, bd, mb, rfl, hg⟩
        have H := Lib.hid hg
        clear hg
        go_wp2_with fail
        refine (HPA.out _ _ _ _ _ H.out.at_).mono ?_
        rintro r w2 ⟨⟨st1, rfl⟩, hg, hm⟩
        replace H := Lib.hid (H.out.mv hg hm)
        clear hg hm
        go_wp2_with fail
        refine (HPB.out _ _ _ _ _ H.out.at_).mono ?_
        rintro r w3 ⟨⟨st2, rfl⟩, hg, hm⟩
        replace H := Lib.hid (H.out.mv hg hm)
        clear hg hm
        go_wp2_with fail
        refine (HLD.out _ _ _ _ H.out.at_.disk).mono ?_
        rintro r w4 ⟨rfl, hb⟩
        have HX := Lib.hid ((H.out.below hb).own ⟨x1, x2, x3, x4⟩)
        replace H := Lib.hid ((H.out.below hb).alloc (.cells #[.int .i64 x1, .int .i64 x2, .int .i64 x3, .int .i64 x4] 23))
        clear hb
        obtain ⟨y0, y1, y2, y3⟩ := HX.out.lies
        dsimp only at y0 y1 y2 y3
        go_wp2_with fail
        refine (HRL.out _).mono ?_
        rintro r w5 ⟨rfl, hb⟩
        replace H := Lib.hid (H.out.below hb)
        replace HX := Lib.hid (HX.out.below hb)
        clear hb y0 y1 y2 y3
        obtain ⟨y0, y1, y2, y3⟩ := HX.out.lies
        dsimp only at y0 y1 y2 y3
        go_wp2_with fail
        refine (HO.out w5 _ (Below.refl _ _)).mono ?_
        rintro e w6 ⟨r, b6, rfl, hr, _⟩
        have HR := Lib.hid hr
        clear hr
        go_wp2_with fail
        refine (H1.out _ _ _ _ HR.out).mono ?_
        rintro e w7 ⟨rfl, hr⟩
        replace HR := Lib.hid hr
        clear hr
        go_wp2_with fail
        refine (H2.out _ _ _ _ HR.out).mono ?_
        rintro e w8 ⟨rfl, hr⟩
        replace H := Lib.hid (H.out.below hr.bel)
        replace HX := Lib.hid (HX.out.below hr.bel)
        clear hr y0 y1 y2 y3
        obtain ⟨y0, y1, y2, y3⟩ := HX.out.lies
        dsimp only at y0 y1 y2 y3
        go_wp2_with fail
        refine (HB.out _).mono ?_
        rintro r v1 ⟨rfl, hb⟩
        replace H := Lib.hid (H.out.below hb)
        clear hb y0 y1 y2 y3 HX
        go_wp2_with fail
        refine (HAW.out _).mono ?_
        rintro r v2 ⟨rfl, hb⟩
        replace H := Lib.hid (H.out.below hb)
        clear hb
        go_wp2_with fail
        go_ret
        exact ⟨rfl, H.out.bel⟩
set_option maxRecDepth 100000 in
theorem superLoads_contract {H : Type} (enc : TypeId × Value → H) (W : World) (base : Nat) (args : Array Value) (ds gs : List (DataW H)) (before : List MemPlace)
    (hval : ∀ (j : Nat) t v, Tryz.f4.params[j]? = some t → args[j]? = some v → Value.okWide Tryz.prog W .any base t v)
    (hW : DataW.Whole enc Tryz.prog Tryz.f4.params.toList Rows.superLoadsSpec.vars false W args.toList ds gs before)
    (hsz : (DataW.weightsEach Tryz.prog (Tryz.f4.params.toList ++ Rows.superLoadsSpec.plain.varTypes Tryz.prog) (ds ++ gs)).all (· ≤ reachBytes) = true) :
    Calls Tryz.prog 4 args W fun e W' =>
      ((Rows.superLoadsSpec.fn H (ds ++ gs)).results = [.lit (.bool true)] ∧ (Rows.superLoadsSpec.fn H (ds ++ gs)).args = ds ∧ (Rows.superLoadsSpec.fn H (ds ++ gs)).vars = []) ∧ e = .returned (.bool true) ∧ Below W.heap.size W W' := by
  obtain ⟨p, q, hA0, hV, rfl, hfz, hnd⟩ := hW
  have hA : DataW.TrodAll enc Tryz.prog W 0 (fun _ => true) true Tryz.f4.params.toList args.toList ds p := hA0
  rw [Tryz.params4] at hA hval hsz
  obtain ⟨v0, v1, d0, d1, p0, p1, rfl, rfl, rfl, h0, h1⟩ := trodAll_two hA
  obtain ⟨rfl, rfl⟩ := trodVars_none hV
  obtain ⟨a, rfl, rfl, rfl, max_a⟩ := open_string Tryz.underlying9 (hval 0 9 v0 rfl rfl) h0
  have len_a : a.data.toList.length ≤ reachBytes := sized_string hsz (j := 0) (t := 9) rfl rfl
  obtain ⟨b, rfl, rfl, rfl, max_b⟩ := open_string Tryz.underlying9 (hval 1 9 v1 rfl rfl) h1
  have len_b : b.data.toList.length ≤ reachBytes := sized_string hsz (j := 1) (t := 9) rfl rfl
  rw [← S_of a]
  rw [← S_of b]
  exact (sloads_any a.data.toList b.data.toList (Nat.le_trans len_a (by decide)) (Nat.le_trans len_b (by decide)) W).mono fun e W' h => ⟨⟨rfl, rfl, rfl⟩, h⟩
end Go.Proofs.YtdgfohffmbnjiaaGreatDoor
