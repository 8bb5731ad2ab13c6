/-
  Which journals there are: the walk of JournalOpens.
-/
import Derived.Test.YtjdklifkalnamaaGreatDoorJrnOpnP
namespace Go.Proofs.YtjdklifkalnamaaGreatDoor
open Go.RowKit
set_option linter.unusedVariables false

set_option maxRecDepth 100000 in
set_option maxHeartbeats 20000000 in
theorem jopens_any (a b c e : Int) (s : List UInt8) (w : World) (ha : -9223372036854775808 ≤ a ∧ a ≤ 9223372036854775807) (hb : -9223372036854775808 ≤ b ∧ b ≤ 9223372036854775807) (hc : -9223372036854775808 ≤ c ∧ c ≤ 9223372036854775807) (he : -9223372036854775808 ≤ e ∧ e ≤ 9223372036854775807) :
    Calls Tryz.prog 5 #[.int .i64 a, .int .i64 b, .int .i64 c, .int .i64 e, .string (S s)] w fun r w' => r = .returned (.bool true) ∧ Below w.heap.size w w' := by
  have HAW := Lib.hid (fun W => jawakeJ_any W)
  by_cases hbad : a < 1 ∨ 100 < a
  · by_cases h1 : a < 1
    · clear hbad ha hb hc he
      go_enter Tryz.func5, Tryz.ntmps5
      go_wp2_with fail
      refine (HAW.out _).mono ?_
      rintro r w1 ⟨rfl, hb⟩
      go_wp2_with fail
      go_ret
      exact ⟨rfl, hb⟩
    · have h2 : 100 < a := by omega
      clear hbad ha hb hc he
      go_enter Tryz.func5, Tryz.ntmps5
      go_wp2_with fail
      refine (HAW.out _).mono ?_
      rintro r w1 ⟨rfl, hb⟩
      go_wp2_with fail
      go_ret
      exact ⟨rfl, hb⟩
  · obtain ⟨n, rfl⟩ : ∃ n : Nat, a = (n : Int) := ⟨a.toNat, by omega⟩
    have h1 : ¬ (n : Int) < 1 := by omega
    have h2 : ¬ (100 : Int) < (n : Int) := by omega
    have hn0 : 0 < n := by omega
    have hn1 : n ≤ 100 := by omega
    have HND := Lib.hid (newd_any n hn0 (by omega) w)
    unfold NewDPost at HND
    have HNIL := Lib.hid (fun W => jnopen_nil W b c e)
    clear hbad ha
    go_enter Tryz.func5, Tryz.ntmps5
    go_wp2_with fail
    refine HND.out.mono ?_
    rintro r w1 ⟨g, bd, mb, rfl, hd, hb1, l1, l2, l3⟩
    have HG1 := Lib.hid (gnew_any hd 1 (by decide) (by decide))
    unfold NewGPost at HG1
    have HB1 := Lib.hid hb1
    clear hd hb1 HND
    go_wp2_with fail
    refine HG1.out.mono ?_
    rintro r w2 ⟨gg, rfl, hg2, hb2, lgg⟩
    have HB2 := Lib.hid (HB1.out.trans (hb2.mono HB1.out.size))
    have HG2 := Lib.hid hg2
    have hlt2 := hg2.cells.lt
    clear hg2 hb2 HG1
    by_cases hn63 : n < 63
    · have HSM := Lib.hid (lopen_small HG2.out.disk hn63)
      go_wp2_with fail
      refine HSM.out.mono ?_
      rintro r w3 ⟨rfl, hb3⟩
      have HBW := Lib.hid (HB2.out.trans (hb3.mono HB2.out.size))
      have HGD := Lib.hid (HG2.out.below hb3)
      have HOF := Lib.hid (of_fresh n)
      have HLN : Hid ((Dsk.fresh n).secs.length = n) := Lib.hid List.length_replicate
      clear hb3 HSM HG2 HB1 HB2
      by_cases harg : b < 0 ∨ c < 1 ∨ e < 1 ∨ 4294967295 < e
      · have HARG := Lib.hid (jnopen_arg HGD.out b c e harg)
        go_wp2_with fail
        refine HARG.out.mono ?_
        rintro r v7 ⟨rfl, rfl⟩
        go_wp2_with fail
        refine (HNIL.out _).mono ?_
        rintro r v8 ⟨rfl, rfl⟩
        by_cases q1 : b < 0
        · go_wp2_with fail
          refine (HAW.out _).mono ?_
          rintro r v9 ⟨rfl, hb9⟩
          have HB9 := Lib.hid (HBW.out.trans (hb9.mono HBW.out.size))
          clear hb9
          go_wp2_with fail
          go_ret
          exact ⟨rfl, HB9.out⟩
        · by_cases q2 : c < 1
          · go_wp2_with fail
            refine (HAW.out _).mono ?_
            rintro r v9 ⟨rfl, hb9⟩
            have HB9 := Lib.hid (HBW.out.trans (hb9.mono HBW.out.size))
            clear hb9
            go_wp2_with fail
            go_ret
            exact ⟨rfl, HB9.out⟩
          · by_cases q3 : e < 1
            · go_wp2_with fail
              refine (HAW.out _).mono ?_
              rintro r v9 ⟨rfl, hb9⟩
              have HB9 := Lib.hid (HBW.out.trans (hb9.mono HBW.out.size))
              clear hb9
              go_wp2_with fail
              go_ret
              exact ⟨rfl, HB9.out⟩
            · have q4 : 4294967295 < e := by omega
              go_wp2_with fail
              refine (HAW.out _).mono ?_
              rintro r v9 ⟨rfl, hb9⟩
              have HB9 := Lib.hid (HBW.out.trans (hb9.mono HBW.out.size))
              clear hb9
              go_wp2_with fail
              go_ret
              exact ⟨rfl, HB9.out⟩
      · by_cases hrng : (n : Int) - c < b
        · have q1 : ¬ b < 0 := by omega
          have q2 : ¬ c < 1 := by omega
          have q3 : ¬ e < 1 := by omega
          have q4 : ¬ 4294967295 < e := by omega
          have HARG := Lib.hid (jnopen_range HGD.out b c e q1 q2 q3 q4 hc.2 (by rw [HLN.out]; exact hrng))
          clear harg
          go_wp2_with fail
          refine HARG.out.mono ?_
          rintro r v7 ⟨rfl, rfl⟩
          go_wp2_with fail
          refine (HNIL.out _).mono ?_
          rintro r v8 ⟨rfl, rfl⟩
          by_cases q5 : (n : Int) < b
          · go_wp2_with fail
            refine (HAW.out _).mono ?_
            rintro r v9 ⟨rfl, hb9⟩
            have HB9 := Lib.hid (HBW.out.trans (hb9.mono HBW.out.size))
            clear hb9
            go_wp2_with fail
            go_ret
            exact ⟨rfl, HB9.out⟩
          · have q6 : (n : Int) - b < c := by omega
            have q7 : IntKind.i64.wrap ((n : Int) - b) = (n : Int) - b := by rw [IntKind.wrap_i64]; omega
            go_wp2_with fail
            refine (HAW.out _).mono ?_
            rintro r v9 ⟨rfl, hb9⟩
            have HB9 := Lib.hid (HBW.out.trans (hb9.mono HBW.out.size))
            clear hb9
            go_wp2_with fail
            go_ret
            exact ⟨rfl, HB9.out⟩
        · obtain ⟨base, rfl⟩ : ∃ k : Nat, b = (k : Int) := ⟨b.toNat, by omega⟩
          obtain ⟨size, rfl⟩ : ∃ k : Nat, c = (k : Int) := ⟨c.toNat, by omega⟩
          obtain ⟨seed, rfl⟩ : ∃ k : Nat, e = (k : Int) := ⟨e.toNat, by omega⟩
          obtain ⟨LZ, hLZ, hopen⟩ := HOF.out base size seed (by omega) (by omega) (by omega) (by rw [HLN.out]; omega)
          have HOP := Lib.hid (hopen _ gg g bd mb 1 0 HGD.out)
          unfold OpenPost at HOP
          have q1 : ¬ (base : Int) < 0 := by omega
          have q2 : ¬ (size : Int) < 1 := by omega
          have q3 : ¬ (seed : Int) < 1 := by omega
          have q4 : ¬ (4294967295 : Int) < (seed : Int) := by omega
          have q5 : ¬ (n : Int) < (base : Int) := by omega
          have q6 : ¬ (n : Int) - (base : Int) < (size : Int) := by omega
          have q7 : IntKind.i64.wrap ((n : Int) - (base : Int)) = (n : Int) - (base : Int) := by rw [IntKind.wrap_i64]; omega
          have hsz8 : size ≤ 8192 := by omega
          clear harg hrng hopen
          go_wp2_with fail
          refine HOP.out.mono ?_
          rintro r v7 ⟨gj2, vs2, vr2, rfl, hj7, hb7, -, -, -⟩
          have HJJ := Lib.hid (And.intro hj7 hb7)
          clear hj7 hb7 HOP
          go_wp2_with fail
          refine (HNIL.out _).mono ?_
          rintro r v8 ⟨rfl, rfl⟩
          have hLZ2 : LZ = [] := by
            rcases hLZ with ⟨hh, _⟩ | ⟨_, h⟩
            · exact absurd rfl hh.1
            · exact h
          have HLZ : Hid (LZ.length = 0) := Lib.hid (by rw [hLZ2]; rfl)
          clear hLZ hLZ2
          have HBV := Lib.hid (HBW.out.trans (HJJ.out.2.mono HBW.out.size))
          have HREC : Hid (∀ W, Below v8.heap.size v8 W → Calls Tryz.prog 23 #[.pointer (some ⟨gj2, 0, none⟩)] W fun e w' => ∃ (A : Option Addr) (cap : Nat), e = .returned (.slice A 0 cap) ∧ Below W.heap.size W w') := Lib.hid (fun W hbW => by
            have hq0 := jnrecords_any (HJJ.out.1.below hbW)
            refine hq0.mono fun e w' hq => ?_
            obtain ⟨u, hu1, hu2, hu3⟩ := hq
            obtain ⟨A, cap, hu4, -, -, -⟩ := hu2.row.any
            subst hu4
            have hl0 : (LZ.map Prod.fst).length = 0 := by rw [List.length_map]; exact HLZ.out
            rw [hl0] at hu1
            exact ⟨A, cap, hu1, hu3⟩)
          have HLE : Hid (∀ W, Below v8.heap.size v8 W → Calls Tryz.prog 24 #[.pointer (some ⟨gj2, 0, none⟩)] W fun e w' => e = .returned (.int .i64 ((size : Int) - (Jrn.usedL LZ : Int))) ∧ Below W.heap.size W w') := Lib.hid (fun W hbW => by
            have hq := jnleft_any (HJJ.out.1.below hbW)
            exact hq)
          have HUS : Hid (∀ W, Below v8.heap.size v8 W → Calls Tryz.prog 20 #[.pointer (some ⟨gj2, 0, none⟩)] W fun e w' => e = .returned (.int .i64 (Jrn.usedL LZ : Int)) ∧ w' = W) := Lib.hid (fun W hbW => by
            have hq := jnused_any (HJJ.out.1.below hbW)
            exact hq)
          have hu9 : Jrn.usedL LZ ≤ size := HJJ.out.1.room
          clear HJJ
          generalize Jrn.usedL LZ = u9 at HLE HUS hu9
          have hw9 : IntKind.i64.wrap ((size : Int) - (u9 : Int)) = (size : Int) - (u9 : Int) := by rw [IntKind.wrap_i64]; omega
          have hz9 : ((size : Int) - (u9 : Int) == (size : Int) - (u9 : Int)) = true := by rw [beq_self_eq_true]
          go_wp2_with fail
          refine (HREC.out _ (Below.refl _ _)).mono ?_
          rintro r x1 ⟨A1, cap1, rfl, hx1⟩
          have HX1 := Lib.hid hx1
          clear hx1
          go_wp2_with fail
          refine (HREC.out _ HX1.out).mono ?_
          rintro r x2 ⟨A2, cap2, rfl, hx2⟩
          have HX2 := Lib.hid (HX1.out.trans (hx2.mono HX1.out.size))
          clear hx2
          go_wp2_with fail
          refine (HLE.out _ HX2.out).mono ?_
          rintro r x3 ⟨rfl, hx3⟩
          have HX3 := Lib.hid (HX2.out.trans (hx3.mono HX2.out.size))
          clear hx3
          go_wp2_with fail
          refine (HUS.out _ HX3.out).mono ?_
          rintro r x4 ⟨rfl, rfl⟩
          have HBX := Lib.hid (HBV.out.trans (HX3.out.mono HBV.out.size))
          go_wp2_with fail
          refine (HAW.out _).mono ?_
          rintro r v9 ⟨rfl, hb9⟩
          have HB9 := Lib.hid (HBX.out.trans (hb9.mono HBX.out.size))
          clear hb9
          go_wp2_with fail
          go_ret
          exact ⟨rfl, HB9.out⟩
    · have HLG := Lib.hid (lopen_fresh (w0 := w) HG2.out.disk (by omega) HB2.out (by
        intro k hk
        simp only [List.mem_cons, List.not_mem_nil, or_false] at hk
        omega))
      go_wp2_with fail
      refine HLG.out.mono ?_
      rintro r w3 ⟨gx, gq, vs, vr, rfl, hx, hb3, lx1, lx2, lx3, lx4⟩
      have HXA := Lib.hid (xappend_any hx (by omega) s)
      unfold XAPost at HXA
      have HG3 := Lib.hid (HG2.out.below hb3)
      have HNOT : Hid (gg ∉ (⟨gx, gq, g, bd, mb, 3, 60, 7, 1⟩ : JK).all vs vr) := Lib.hid (fun hin => by
        have m1 := HG2.out.n1
        have m2 := HG2.out.n2
        have m3 := HG2.out.n3
        unfold JK.all at hin
        rcases List.mem_append.1 hin with hk | hk
        · have hk' : gg ∈ [gx, gq, g, bd, mb] := hk
          simp only [List.mem_cons, List.not_mem_nil, or_false] at hk'
          omega
        · rcases List.mem_append.1 hk with hk | hk
          · have := lx3 gg (by simpa using hk); omega
          · have := lx4 gg (by simpa using hk); omega)
      clear hx hb3 HLG HG2 HB1 HB2
      go_wp2_with fail
      refine HXA.out.mono ?_
      rintro r w4 ⟨cd, vs', vr', N, wn, D, rfl, hx4, hm4, hof, hln, hnl1, hnl2⟩
      have HGD : Hid (GuardAt w4 gg g bd mb 1 0 D) := Lib.hid ⟨hm4.has HG3.out.cells HNOT.out, hx4.jn.gd.disk, HG3.out.n1, HG3.out.n2, HG3.out.n3, HG3.out.lo, HG3.out.hi⟩
      have HX := Lib.hid hx4
      have HBW := Lib.hid hx4.bel
      have HOF := Lib.hid hof
      have HLN := Lib.hid hln
      have HNL := Lib.hid (And.intro hnl1 hnl2)
      clear hx4 hm4 hof hln hnl1 hnl2 HXA HG3 HNOT
      by_cases harg : b < 0 ∨ c < 1 ∨ e < 1 ∨ 4294967295 < e
      · have HARG := Lib.hid (jnopen_arg HGD.out b c e harg)
        go_wp2_with fail
        refine HARG.out.mono ?_
        rintro r v7 ⟨rfl, rfl⟩
        go_wp2_with fail
        refine (HNIL.out _).mono ?_
        rintro r v8 ⟨rfl, rfl⟩
        by_cases q1 : b < 0
        · go_wp2_with fail
          refine (HAW.out _).mono ?_
          rintro r v9 ⟨rfl, hb9⟩
          have HB9 := Lib.hid (HBW.out.trans (hb9.mono HBW.out.size))
          clear hb9
          go_wp2_with fail
          go_ret
          exact ⟨rfl, HB9.out⟩
        · by_cases q2 : c < 1
          · go_wp2_with fail
            refine (HAW.out _).mono ?_
            rintro r v9 ⟨rfl, hb9⟩
            have HB9 := Lib.hid (HBW.out.trans (hb9.mono HBW.out.size))
            clear hb9
            go_wp2_with fail
            go_ret
            exact ⟨rfl, HB9.out⟩
          · by_cases q3 : e < 1
            · go_wp2_with fail
              refine (HAW.out _).mono ?_
              rintro r v9 ⟨rfl, hb9⟩
              have HB9 := Lib.hid (HBW.out.trans (hb9.mono HBW.out.size))
              clear hb9
              go_wp2_with fail
              go_ret
              exact ⟨rfl, HB9.out⟩
            · have q4 : 4294967295 < e := by omega
              go_wp2_with fail
              refine (HAW.out _).mono ?_
              rintro r v9 ⟨rfl, hb9⟩
              have HB9 := Lib.hid (HBW.out.trans (hb9.mono HBW.out.size))
              clear hb9
              go_wp2_with fail
              go_ret
              exact ⟨rfl, HB9.out⟩
      · by_cases hrng : (n : Int) - c < b
        · have q1 : ¬ b < 0 := by omega
          have q2 : ¬ c < 1 := by omega
          have q3 : ¬ e < 1 := by omega
          have q4 : ¬ 4294967295 < e := by omega
          have HARG := Lib.hid (jnopen_range HGD.out b c e q1 q2 q3 q4 hc.2 (by rw [HLN.out]; exact hrng))
          clear harg
          go_wp2_with fail
          refine HARG.out.mono ?_
          rintro r v7 ⟨rfl, rfl⟩
          go_wp2_with fail
          refine (HNIL.out _).mono ?_
          rintro r v8 ⟨rfl, rfl⟩
          by_cases q5 : (n : Int) < b
          · go_wp2_with fail
            refine (HAW.out _).mono ?_
            rintro r v9 ⟨rfl, hb9⟩
            have HB9 := Lib.hid (HBW.out.trans (hb9.mono HBW.out.size))
            clear hb9
            go_wp2_with fail
            go_ret
            exact ⟨rfl, HB9.out⟩
          · have q6 : (n : Int) - b < c := by omega
            have q7 : IntKind.i64.wrap ((n : Int) - b) = (n : Int) - b := by rw [IntKind.wrap_i64]; omega
            go_wp2_with fail
            refine (HAW.out _).mono ?_
            rintro r v9 ⟨rfl, hb9⟩
            have HB9 := Lib.hid (HBW.out.trans (hb9.mono HBW.out.size))
            clear hb9
            go_wp2_with fail
            go_ret
            exact ⟨rfl, HB9.out⟩
        · obtain ⟨base, rfl⟩ : ∃ k : Nat, b = (k : Int) := ⟨b.toNat, by omega⟩
          obtain ⟨size, rfl⟩ : ∃ k : Nat, c = (k : Int) := ⟨c.toNat, by omega⟩
          obtain ⟨seed, rfl⟩ : ∃ k : Nat, e = (k : Int) := ⟨e.toNat, by omega⟩
          obtain ⟨LZ, hLZ, hopen⟩ := HOF.out base size seed (by omega) (by omega) (by omega) (by rw [HLN.out]; omega)
          have HOP := Lib.hid (hopen _ gg g bd mb 1 0 HGD.out)
          unfold OpenPost at HOP
          have q1 : ¬ (base : Int) < 0 := by omega
          have q2 : ¬ (size : Int) < 1 := by omega
          have q3 : ¬ (seed : Int) < 1 := by omega
          have q4 : ¬ (4294967295 : Int) < (seed : Int) := by omega
          have q5 : ¬ (n : Int) < (base : Int) := by omega
          have q6 : ¬ (n : Int) - (base : Int) < (size : Int) := by omega
          have q7 : IntKind.i64.wrap ((n : Int) - (base : Int)) = (n : Int) - (base : Int) := by rw [IntKind.wrap_i64]; omega
          have hsz8 : size ≤ 8192 := by omega
          clear harg hrng hopen
          go_wp2_with fail
          refine HOP.out.mono ?_
          rintro r v7 ⟨gj2, vs2, vr2, rfl, hj7, hb7, -, -, -⟩
          have HJJ := Lib.hid (And.intro hj7 hb7)
          clear hj7 hb7 HOP
          go_wp2_with fail
          refine (HNIL.out _).mono ?_
          rintro r v8 ⟨rfl, rfl⟩
          have HXU : Hid (∀ W, Below v8.heap.size v8 W → Calls Tryz.prog 20 #[.pointer (some ⟨gx, 0, none⟩)] W fun e w' => e = .returned (.int .i64 (Jrn.usedL N : Int)) ∧ w' = W) := Lib.hid (fun W hbW => by
            have hq := jnused_any ((HX.out.jn.below HJJ.out.2).below hbW)
            exact hq)
          have hUle : Jrn.usedL N ≤ 60 := HX.out.jn.room
          by_cases p1 : N = []
          · have p1u : Jrn.usedL N = 0 := by rw [p1]; rfl
            have HLZ : Hid (LZ.length = 0) := Lib.hid (by
              rcases hLZ with ⟨hh, _⟩ | ⟨_, h⟩
              · exact absurd hh (by rintro ⟨a1, a2, a3, a4⟩; exact a1 p1)
              · rw [h]; rfl)
            clear hLZ
            generalize hUU : Jrn.usedL N = uN at *
            clear hUU
            subst p1u
            clear p1
            have HBV := Lib.hid (HBW.out.trans (HJJ.out.2.mono HBW.out.size))
            have HREC : Hid (∀ W, Below v8.heap.size v8 W → Calls Tryz.prog 23 #[.pointer (some ⟨gj2, 0, none⟩)] W fun e w' => ∃ (A : Option Addr) (cap : Nat), e = .returned (.slice A 0 cap) ∧ Below W.heap.size W w') := Lib.hid (fun W hbW => by
              have hq0 := jnrecords_any (HJJ.out.1.below hbW)
              refine hq0.mono fun e w' hq => ?_
              obtain ⟨u, hu1, hu2, hu3⟩ := hq
              obtain ⟨A, cap, hu4, -, -, -⟩ := hu2.row.any
              subst hu4
              have hl0 : (LZ.map Prod.fst).length = 0 := by rw [List.length_map]; exact HLZ.out
              rw [hl0] at hu1
              exact ⟨A, cap, hu1, hu3⟩)
            have HLE : Hid (∀ W, Below v8.heap.size v8 W → Calls Tryz.prog 24 #[.pointer (some ⟨gj2, 0, none⟩)] W fun e w' => e = .returned (.int .i64 ((size : Int) - (Jrn.usedL LZ : Int))) ∧ Below W.heap.size W w') := Lib.hid (fun W hbW => by
              have hq := jnleft_any (HJJ.out.1.below hbW)
              exact hq)
            have HUS : Hid (∀ W, Below v8.heap.size v8 W → Calls Tryz.prog 20 #[.pointer (some ⟨gj2, 0, none⟩)] W fun e w' => e = .returned (.int .i64 (Jrn.usedL LZ : Int)) ∧ w' = W) := Lib.hid (fun W hbW => by
              have hq := jnused_any (HJJ.out.1.below hbW)
              exact hq)
            have hu9 : Jrn.usedL LZ ≤ size := HJJ.out.1.room
            clear HJJ
            generalize Jrn.usedL LZ = u9 at HLE HUS hu9
            have hw9 : IntKind.i64.wrap ((size : Int) - (u9 : Int)) = (size : Int) - (u9 : Int) := by rw [IntKind.wrap_i64]; omega
            have hz9 : ((size : Int) - (u9 : Int) == (size : Int) - (u9 : Int)) = true := by rw [beq_self_eq_true]
            go_wp2_with fail
            refine (HXU.out _ (Below.refl _ _)).mono ?_
            rintro r y1 ⟨rfl, rfl⟩
            go_wp2_with fail
            refine (HREC.out _ (Below.refl _ _)).mono ?_
            rintro r x1 ⟨A1, cap1, rfl, hx1⟩
            have HX1 := Lib.hid hx1
            clear hx1
            go_wp2_with fail
            refine (HREC.out _ HX1.out).mono ?_
            rintro r x2 ⟨A2, cap2, rfl, hx2⟩
            have HX2 := Lib.hid (HX1.out.trans (hx2.mono HX1.out.size))
            clear hx2
            go_wp2_with fail
            refine (HLE.out _ HX2.out).mono ?_
            rintro r x3 ⟨rfl, hx3⟩
            have HX3 := Lib.hid (HX2.out.trans (hx3.mono HX2.out.size))
            clear hx3
            go_wp2_with fail
            refine (HUS.out _ HX3.out).mono ?_
            rintro r x4 ⟨rfl, rfl⟩
            have HBX := Lib.hid (HBV.out.trans (HX3.out.mono HBV.out.size))
            go_wp2_with fail
            refine (HAW.out _).mono ?_
            rintro r v9 ⟨rfl, hb9⟩
            have HB9 := Lib.hid (HBX.out.trans (hb9.mono HBX.out.size))
            clear hb9
            go_wp2_with fail
            go_ret
            exact ⟨rfl, HB9.out⟩
          · have p1u : 0 < Jrn.usedL N := HNL.out.2 p1
            have p1i : (0 : Int) < (Jrn.usedL N : Int) := by omega
            by_cases p2 : base = 3
            · have p2i : ((base : Int) == 3) = true := by rw [p2]; rfl
              by_cases p3 : seed = 7
              · have p3i : ((seed : Int) == 7) = true := by rw [p3]; rfl
                by_cases p4 : Jrn.usedL N ≤ size
                · have p4i : (Jrn.usedL N : Int) ≤ (size : Int) := by omega
                  have HLZ : Hid (LZ.length = 1) := Lib.hid (by
                    rcases hLZ with ⟨_, h⟩ | ⟨hh, _⟩
                    · rw [h]
                      have := HNL.out.1
                      cases N with
                      | nil => exact absurd rfl p1
                      | cons x N => rw [List.length_cons] at this ⊢; omega
                    · exact absurd ⟨p1, p2, p3, p4⟩ hh)
                  clear hLZ
                  generalize hUU : Jrn.usedL N = uN at *
                  clear hUU
                  clear p1 p2 p3
                  have HBV := Lib.hid (HBW.out.trans (HJJ.out.2.mono HBW.out.size))
                  have HREC : Hid (∀ W, Below v8.heap.size v8 W → Calls Tryz.prog 23 #[.pointer (some ⟨gj2, 0, none⟩)] W fun e w' => ∃ (A : Option Addr) (cap : Nat), e = .returned (.slice A 1 cap) ∧ Below W.heap.size W w') := Lib.hid (fun W hbW => by
                    have hq0 := jnrecords_any (HJJ.out.1.below hbW)
                    refine hq0.mono fun e w' hq => ?_
                    obtain ⟨u, hu1, hu2, hu3⟩ := hq
                    obtain ⟨A, cap, hu4, -, -, -⟩ := hu2.row.any
                    subst hu4
                    have hl0 : (LZ.map Prod.fst).length = 1 := by rw [List.length_map]; exact HLZ.out
                    rw [hl0] at hu1
                    exact ⟨A, cap, hu1, hu3⟩)
                  have HLE : Hid (∀ W, Below v8.heap.size v8 W → Calls Tryz.prog 24 #[.pointer (some ⟨gj2, 0, none⟩)] W fun e w' => e = .returned (.int .i64 ((size : Int) - (Jrn.usedL LZ : Int))) ∧ Below W.heap.size W w') := Lib.hid (fun W hbW => by
                    have hq := jnleft_any (HJJ.out.1.below hbW)
                    exact hq)
                  have HUS : Hid (∀ W, Below v8.heap.size v8 W → Calls Tryz.prog 20 #[.pointer (some ⟨gj2, 0, none⟩)] W fun e w' => e = .returned (.int .i64 (Jrn.usedL LZ : Int)) ∧ w' = W) := Lib.hid (fun W hbW => by
                    have hq := jnused_any (HJJ.out.1.below hbW)
                    exact hq)
                  have hu9 : Jrn.usedL LZ ≤ size := HJJ.out.1.room
                  clear HJJ
                  generalize Jrn.usedL LZ = u9 at HLE HUS hu9
                  have hw9 : IntKind.i64.wrap ((size : Int) - (u9 : Int)) = (size : Int) - (u9 : Int) := by rw [IntKind.wrap_i64]; omega
                  have hz9 : ((size : Int) - (u9 : Int) == (size : Int) - (u9 : Int)) = true := by rw [beq_self_eq_true]
                  go_wp2_with fail
                  refine (HXU.out _ (Below.refl _ _)).mono ?_
                  rintro r y1 ⟨rfl, rfl⟩
                  go_wp2_with fail
                  refine (HXU.out _ (Below.refl _ _)).mono ?_
                  rintro r y1 ⟨rfl, rfl⟩
                  go_wp2_with fail
                  refine (HREC.out _ (Below.refl _ _)).mono ?_
                  rintro r x1 ⟨A1, cap1, rfl, hx1⟩
                  have HX1 := Lib.hid hx1
                  clear hx1
                  go_wp2_with fail
                  refine (HREC.out _ HX1.out).mono ?_
                  rintro r x2 ⟨A2, cap2, rfl, hx2⟩
                  have HX2 := Lib.hid (HX1.out.trans (hx2.mono HX1.out.size))
                  clear hx2
                  go_wp2_with fail
                  refine (HLE.out _ HX2.out).mono ?_
                  rintro r x3 ⟨rfl, hx3⟩
                  have HX3 := Lib.hid (HX2.out.trans (hx3.mono HX2.out.size))
                  clear hx3
                  go_wp2_with fail
                  refine (HUS.out _ HX3.out).mono ?_
                  rintro r x4 ⟨rfl, rfl⟩
                  have HBX := Lib.hid (HBV.out.trans (HX3.out.mono HBV.out.size))
                  go_wp2_with fail
                  refine (HAW.out _).mono ?_
                  rintro r v9 ⟨rfl, hb9⟩
                  have HB9 := Lib.hid (HBX.out.trans (hb9.mono HBX.out.size))
                  clear hb9
                  go_wp2_with fail
                  go_ret
                  exact ⟨rfl, HB9.out⟩
                · have p4i : ¬ (Jrn.usedL N : Int) ≤ (size : Int) := by omega
                  have HLZ : Hid (LZ.length = 0) := Lib.hid (by
                    rcases hLZ with ⟨hh, _⟩ | ⟨_, h⟩
                    · exact absurd hh (by rintro ⟨a1, a2, a3, a4⟩; exact p4 a4)
                    · rw [h]; rfl)
                  clear hLZ
                  generalize hUU : Jrn.usedL N = uN at *
                  clear hUU
                  clear p1 p2 p3
                  have HBV := Lib.hid (HBW.out.trans (HJJ.out.2.mono HBW.out.size))
                  have HREC : Hid (∀ W, Below v8.heap.size v8 W → Calls Tryz.prog 23 #[.pointer (some ⟨gj2, 0, none⟩)] W fun e w' => ∃ (A : Option Addr) (cap : Nat), e = .returned (.slice A 0 cap) ∧ Below W.heap.size W w') := Lib.hid (fun W hbW => by
                    have hq0 := jnrecords_any (HJJ.out.1.below hbW)
                    refine hq0.mono fun e w' hq => ?_
                    obtain ⟨u, hu1, hu2, hu3⟩ := hq
                    obtain ⟨A, cap, hu4, -, -, -⟩ := hu2.row.any
                    subst hu4
                    have hl0 : (LZ.map Prod.fst).length = 0 := by rw [List.length_map]; exact HLZ.out
                    rw [hl0] at hu1
                    exact ⟨A, cap, hu1, hu3⟩)
                  have HLE : Hid (∀ W, Below v8.heap.size v8 W → Calls Tryz.prog 24 #[.pointer (some ⟨gj2, 0, none⟩)] W fun e w' => e = .returned (.int .i64 ((size : Int) - (Jrn.usedL LZ : Int))) ∧ Below W.heap.size W w') := Lib.hid (fun W hbW => by
                    have hq := jnleft_any (HJJ.out.1.below hbW)
                    exact hq)
                  have HUS : Hid (∀ W, Below v8.heap.size v8 W → Calls Tryz.prog 20 #[.pointer (some ⟨gj2, 0, none⟩)] W fun e w' => e = .returned (.int .i64 (Jrn.usedL LZ : Int)) ∧ w' = W) := Lib.hid (fun W hbW => by
                    have hq := jnused_any (HJJ.out.1.below hbW)
                    exact hq)
                  have hu9 : Jrn.usedL LZ ≤ size := HJJ.out.1.room
                  clear HJJ
                  generalize Jrn.usedL LZ = u9 at HLE HUS hu9
                  have hw9 : IntKind.i64.wrap ((size : Int) - (u9 : Int)) = (size : Int) - (u9 : Int) := by rw [IntKind.wrap_i64]; omega
                  have hz9 : ((size : Int) - (u9 : Int) == (size : Int) - (u9 : Int)) = true := by rw [beq_self_eq_true]
                  go_wp2_with fail
                  refine (HXU.out _ (Below.refl _ _)).mono ?_
                  rintro r y1 ⟨rfl, rfl⟩
                  go_wp2_with fail
                  refine (HXU.out _ (Below.refl _ _)).mono ?_
                  rintro r y1 ⟨rfl, rfl⟩
                  go_wp2_with fail
                  refine (HREC.out _ (Below.refl _ _)).mono ?_
                  rintro r x1 ⟨A1, cap1, rfl, hx1⟩
                  have HX1 := Lib.hid hx1
                  clear hx1
                  go_wp2_with fail
                  refine (HREC.out _ HX1.out).mono ?_
                  rintro r x2 ⟨A2, cap2, rfl, hx2⟩
                  have HX2 := Lib.hid (HX1.out.trans (hx2.mono HX1.out.size))
                  clear hx2
                  go_wp2_with fail
                  refine (HLE.out _ HX2.out).mono ?_
                  rintro r x3 ⟨rfl, hx3⟩
                  have HX3 := Lib.hid (HX2.out.trans (hx3.mono HX2.out.size))
                  clear hx3
                  go_wp2_with fail
                  refine (HUS.out _ HX3.out).mono ?_
                  rintro r x4 ⟨rfl, rfl⟩
                  have HBX := Lib.hid (HBV.out.trans (HX3.out.mono HBV.out.size))
                  go_wp2_with fail
                  refine (HAW.out _).mono ?_
                  rintro r v9 ⟨rfl, hb9⟩
                  have HB9 := Lib.hid (HBX.out.trans (hb9.mono HBX.out.size))
                  clear hb9
                  go_wp2_with fail
                  go_ret
                  exact ⟨rfl, HB9.out⟩
              · have p3i : ((seed : Int) == 7) = false := by rw [beq_eq_false_iff_ne]; omega
                have HLZ : Hid (LZ.length = 0) := Lib.hid (by
                  rcases hLZ with ⟨hh, _⟩ | ⟨_, h⟩
                  · exact absurd hh (by rintro ⟨a1, a2, a3, a4⟩; exact p3 a3)
                  · rw [h]; rfl)
                clear hLZ
                generalize hUU : Jrn.usedL N = uN at *
                clear hUU
                clear p1 p2 p3
                have HBV := Lib.hid (HBW.out.trans (HJJ.out.2.mono HBW.out.size))
                have HREC : Hid (∀ W, Below v8.heap.size v8 W → Calls Tryz.prog 23 #[.pointer (some ⟨gj2, 0, none⟩)] W fun e w' => ∃ (A : Option Addr) (cap : Nat), e = .returned (.slice A 0 cap) ∧ Below W.heap.size W w') := Lib.hid (fun W hbW => by
                  have hq0 := jnrecords_any (HJJ.out.1.below hbW)
                  refine hq0.mono fun e w' hq => ?_
                  obtain ⟨u, hu1, hu2, hu3⟩ := hq
                  obtain ⟨A, cap, hu4, -, -, -⟩ := hu2.row.any
                  subst hu4
                  have hl0 : (LZ.map Prod.fst).length = 0 := by rw [List.length_map]; exact HLZ.out
                  rw [hl0] at hu1
                  exact ⟨A, cap, hu1, hu3⟩)
                have HLE : Hid (∀ W, Below v8.heap.size v8 W → Calls Tryz.prog 24 #[.pointer (some ⟨gj2, 0, none⟩)] W fun e w' => e = .returned (.int .i64 ((size : Int) - (Jrn.usedL LZ : Int))) ∧ Below W.heap.size W w') := Lib.hid (fun W hbW => by
                  have hq := jnleft_any (HJJ.out.1.below hbW)
                  exact hq)
                have HUS : Hid (∀ W, Below v8.heap.size v8 W → Calls Tryz.prog 20 #[.pointer (some ⟨gj2, 0, none⟩)] W fun e w' => e = .returned (.int .i64 (Jrn.usedL LZ : Int)) ∧ w' = W) := Lib.hid (fun W hbW => by
                  have hq := jnused_any (HJJ.out.1.below hbW)
                  exact hq)
                have hu9 : Jrn.usedL LZ ≤ size := HJJ.out.1.room
                clear HJJ
                generalize Jrn.usedL LZ = u9 at HLE HUS hu9
                have hw9 : IntKind.i64.wrap ((size : Int) - (u9 : Int)) = (size : Int) - (u9 : Int) := by rw [IntKind.wrap_i64]; omega
                have hz9 : ((size : Int) - (u9 : Int) == (size : Int) - (u9 : Int)) = true := by rw [beq_self_eq_true]
                go_wp2_with fail
                refine (HXU.out _ (Below.refl _ _)).mono ?_
                rintro r y1 ⟨rfl, rfl⟩
                go_wp2_with fail
                refine (HREC.out _ (Below.refl _ _)).mono ?_
                rintro r x1 ⟨A1, cap1, rfl, hx1⟩
                have HX1 := Lib.hid hx1
                clear hx1
                go_wp2_with fail
                refine (HREC.out _ HX1.out).mono ?_
                rintro r x2 ⟨A2, cap2, rfl, hx2⟩
                have HX2 := Lib.hid (HX1.out.trans (hx2.mono HX1.out.size))
                clear hx2
                go_wp2_with fail
                refine (HLE.out _ HX2.out).mono ?_
                rintro r x3 ⟨rfl, hx3⟩
                have HX3 := Lib.hid (HX2.out.trans (hx3.mono HX2.out.size))
                clear hx3
                go_wp2_with fail
                refine (HUS.out _ HX3.out).mono ?_
                rintro r x4 ⟨rfl, rfl⟩
                have HBX := Lib.hid (HBV.out.trans (HX3.out.mono HBV.out.size))
                go_wp2_with fail
                refine (HAW.out _).mono ?_
                rintro r v9 ⟨rfl, hb9⟩
                have HB9 := Lib.hid (HBX.out.trans (hb9.mono HBX.out.size))
                clear hb9
                go_wp2_with fail
                go_ret
                exact ⟨rfl, HB9.out⟩
            · have p2i : ((base : Int) == 3) = false := by rw [beq_eq_false_iff_ne]; omega
              have HLZ : Hid (LZ.length = 0) := Lib.hid (by
                rcases hLZ with ⟨hh, _⟩ | ⟨_, h⟩
                · exact absurd hh (by rintro ⟨a1, a2, a3, a4⟩; exact p2 a2)
                · rw [h]; rfl)
              clear hLZ
              generalize hUU : Jrn.usedL N = uN at *
              clear hUU
              clear p1 p2
              have HBV := Lib.hid (HBW.out.trans (HJJ.out.2.mono HBW.out.size))
              have HREC : Hid (∀ W, Below v8.heap.size v8 W → Calls Tryz.prog 23 #[.pointer (some ⟨gj2, 0, none⟩)] W fun e w' => ∃ (A : Option Addr) (cap : Nat), e = .returned (.slice A 0 cap) ∧ Below W.heap.size W w') := Lib.hid (fun W hbW => by
                have hq0 := jnrecords_any (HJJ.out.1.below hbW)
                refine hq0.mono fun e w' hq => ?_
                obtain ⟨u, hu1, hu2, hu3⟩ := hq
                obtain ⟨A, cap, hu4, -, -, -⟩ := hu2.row.any
                subst hu4
                have hl0 : (LZ.map Prod.fst).length = 0 := by rw [List.length_map]; exact HLZ.out
                rw [hl0] at hu1
                exact ⟨A, cap, hu1, hu3⟩)
              have HLE : Hid (∀ W, Below v8.heap.size v8 W → Calls Tryz.prog 24 #[.pointer (some ⟨gj2, 0, none⟩)] W fun e w' => e = .returned (.int .i64 ((size : Int) - (Jrn.usedL LZ : Int))) ∧ Below W.heap.size W w') := Lib.hid (fun W hbW => by
                have hq := jnleft_any (HJJ.out.1.below hbW)
                exact hq)
              have HUS : Hid (∀ W, Below v8.heap.size v8 W → Calls Tryz.prog 20 #[.pointer (some ⟨gj2, 0, none⟩)] W fun e w' => e = .returned (.int .i64 (Jrn.usedL LZ : Int)) ∧ w' = W) := Lib.hid (fun W hbW => by
                have hq := jnused_any (HJJ.out.1.below hbW)
                exact hq)
              have hu9 : Jrn.usedL LZ ≤ size := HJJ.out.1.room
              clear HJJ
              generalize Jrn.usedL LZ = u9 at HLE HUS hu9
              have hw9 : IntKind.i64.wrap ((size : Int) - (u9 : Int)) = (size : Int) - (u9 : Int) := by rw [IntKind.wrap_i64]; omega
              have hz9 : ((size : Int) - (u9 : Int) == (size : Int) - (u9 : Int)) = true := by rw [beq_self_eq_true]
              go_wp2_with fail
              refine (HXU.out _ (Below.refl _ _)).mono ?_
              rintro r y1 ⟨rfl, rfl⟩
              go_wp2_with fail
              refine (HREC.out _ (Below.refl _ _)).mono ?_
              rintro r x1 ⟨A1, cap1, rfl, hx1⟩
              have HX1 := Lib.hid hx1
              clear hx1
              go_wp2_with fail
              refine (HREC.out _ HX1.out).mono ?_
              rintro r x2 ⟨A2, cap2, rfl, hx2⟩
              have HX2 := Lib.hid (HX1.out.trans (hx2.mono HX1.out.size))
              clear hx2
              go_wp2_with fail
              refine (HLE.out _ HX2.out).mono ?_
              rintro r x3 ⟨rfl, hx3⟩
              have HX3 := Lib.hid (HX2.out.trans (hx3.mono HX2.out.size))
              clear hx3
              go_wp2_with fail
              refine (HUS.out _ HX3.out).mono ?_
              rintro r x4 ⟨rfl, rfl⟩
              have HBX := Lib.hid (HBV.out.trans (HX3.out.mono HBV.out.size))
              go_wp2_with fail
              refine (HAW.out _).mono ?_
              rintro r v9 ⟨rfl, hb9⟩
              have HB9 := Lib.hid (HBX.out.trans (hb9.mono HBX.out.size))
              clear hb9
              go_wp2_with fail
              go_ret
              exact ⟨rfl, HB9.out⟩
end Go.Proofs.YtjdklifkalnamaaGreatDoor
