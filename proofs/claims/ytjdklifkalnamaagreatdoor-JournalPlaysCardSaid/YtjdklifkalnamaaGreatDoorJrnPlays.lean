/-
  JournalPlays, walked. Made by wip/gen/mkjplays.py.
-/
import Derived.Test.YtjdklifkalnamaaGreatDoorJrnL
import Derived.Test.YtjdklifkalnamaaGreatDoorDskN
import Derived.Test.YtjdklifkalnamaaGreatDoorLaw
import Derived.Test.YtjdklifkalnamaaGreatDoorRows
import Derived.SizedLaws
namespace Go.Proofs.YtjdklifkalnamaaGreatDoor
open Go.ChangeShapes Go.WideShapes Go.ChangeAt Go.RowKit
set_option linter.unusedVariables false

theorem Jrn.parse_new0 : Jrn.parse (Jrn.rs (Dsk.fresh 64)) 61 3 60 7 = (([] : List Jrn.Rec).map Prod.fst, Jrn.usedL [], Jrn.lastL 7 []) := by
  have h : Jrn.one (Jrn.rs (Dsk.fresh 64)) 3 60 7 = none := Jrn.mid_new.fin
  show Jrn.parse (Jrn.rs (Dsk.fresh 64)) (60 + 1) 3 60 7 = _
  unfold Jrn.parse
  rw [h]
  rfl
/-- The document's journal, new. -/
theorem DW.start {w0 w : World} {g bd mb : Nat} {d : Dsk.St} (h : DiskAt w g bd mb d) (hb : Below w0.heap.size w0 w) (hlo : ∀ k ∈ [g, bd, mb], w0.heap.size ≤ k) :
    DW none w0 (w.alloc (.cells #[.slice none 0 0, .int .i64 0, .int .i64 1] 30)) g bd mb w.heap.size (.slice none 0 0) (Jrn.txts [] []) 0 1 d := by
  obtain ⟨l1, l2, l3⟩ := h.lt
  have hb1 := (Below.refl w.heap.size w).alloc (Nat.le_refl _) (.cells #[.slice none 0 0, .int .i64 0, .int .i64 1] 30)
  have hrow : JRow (w.alloc (.cells #[.slice none 0 0, .int .i64 0, .int .i64 1] 30)) (.slice none 0 0) (Jrn.txts [] []) := ⟨⟨rfl, Or.inl ⟨rfl, rfl⟩⟩⟩
  refine ⟨h.below hb1, ⟨⟨Has.made w _ _, hrow⟩, by simp [Value.ownBlock], ?_, ?_, hb.size, ?_, ?_⟩, hb.trans (hb1.mono hb.size), hlo⟩
  · simp only [List.mem_cons, List.not_mem_nil, or_false]
    omega
  · intro k hk
    simp [Value.ownBlock] at hk
  · intro k hk
    simp [Value.ownBlock] at hk
  · intro o t cs e
    cases e
/-- The state at a round. -/
def LSt (w0 W : World) (g bd mb gp i : Nat) (v6 : Value) : Prop := ∃ b gj, v6 = .pointer (some ⟨gj, 0, none⟩) ∧ b ≤ i + 1 ∧ LUp none w0 W g bd mb gp b gj (1000 * i) (2 * i)
/-- The state behind a call. -/
def LMid (K : Kp) (w0 W : World) (g bd mb gp i : Nat) (v6 v9 : Value) : Prop := ∃ b gj, v6 = .pointer (some ⟨gj, 0, none⟩) ∧ v9 = .bool true ∧ ((b ≤ i + 2 ∧ LUp K w0 W g bd mb gp b gj (1000 * i + 400) (2 * i + 1)) ∨ (1 ≤ b ∧ b ≤ i + 1 ∧ LDn K w0 W g bd mb gp b (1000 * i + 400) (2 * i + 1)))

set_option maxRecDepth 100000 in
set_option maxHeartbeats 16000000 in
theorem jplays_any (L : List JOp) (bs off cap : Nat) (A : Option Addr) (hlc : L.length ≤ cap) (hcm : cap ≤ 9223372036854775807) (w0 : World) (hW0 : JOpsAt w0 bs off A L) (hok : ∀ o ∈ L, Fok o.f ∧ o.long ≤ 9223372036854775807) :
    Calls Tryz.prog 3 #[.slice A L.length cap] w0 fun e w' => e = .returned (.bool true) ∧ Below w0.heap.size w0 w' := by
  have HAW : Hid _ := fun W => jawakeJ_any W
  have HNEW : Hid (Calls Tryz.prog 7 #[.int .i64 64] w0 (NewDPost w0 64)) := Lib.hid (newd_any 64 (by decide) (by decide) w0)
  unfold NewDPost at HNEW
  have HOP : Hid (∀ (W : World) (g bd mb gp : Nat), DW none w0 W g bd mb gp (.slice none 0 0) (Jrn.txts [] []) 0 1 (Dsk.fresh 64) → Calls Tryz.prog 8 #[.pointer (some ⟨g, 0, none⟩), .int .i64 1] W fun e w' => ∃ gj, e = .returned (.pointer (some ⟨gj, 0, none⟩)) ∧ LUp none w0 w' g bd mb gp 1 gj 0 0) :=
    Lib.hid (fun W g bd mb gp hW => (jopen_any (w0 := w0) (b := 1) hW.dsk hW.bel hW.lo Jrn.j_new (by decide) (by decide)).mono (fun e w' ⟨J, q1, q2, q3, q4, q5, q6, q7⟩ =>
      ⟨J.gj, q4, J, _, 0, [], [], _, rfl, q1, q2, q3, UW.opened hW q5 q6 q1 q2 q3 q7, Nat.zero_le _, Nat.zero_le _⟩))
  have HOPS : Hid (∀ W, Below w0.heap.size w0 W → JOpsAt W bs off A L) := Lib.hid (fun W hb => hW0.below hb (Nat.le_refl _))
  have HOK := Lib.hid hok
  obtain ⟨m, hm⟩ : ∃ m, min L.length 40 = m := ⟨_, rfl⟩
  have hm1 : m ≤ 40 := by omega
  have hm2 : m ≤ L.length := by omega
  have hm3 : m = L.length ∨ m = 40 := by omega
  have HDS : Hid (∀ (w : World) (g bd mb : Nat), DiskAt w g bd mb (Dsk.fresh 64) → Below w0.heap.size w0 w → w0.heap.size ≤ g → w0.heap.size ≤ bd → w0.heap.size ≤ mb → DW none w0 (w.alloc (.cells #[.slice none 0 0, .int .i64 0, .int .i64 1] 30)) g bd mb w.heap.size (.slice none 0 0) (Jrn.txts [] []) 0 1 (Dsk.fresh 64)) := Lib.hid (fun w g bd mb h1 h2 h3 h4 h5 => DW.start h1 h2 (by
    intro k hk
    simp only [List.mem_cons, List.not_mem_nil, or_false] at hk
    rcases hk with rfl | rfl | rfl <;> assumption))
  generalize Dsk.fresh 64 = d0 at HNEW HOP HDS
  clear hW0 hok hm
  go_enter Tryz.func3, Tryz.ntmps3
  go_wp2_with fail
  refine HNEW.out.mono ?_
  rintro r w1 ⟨g, bd, mb, rfl, hd, hb, l1, l2, l3⟩
  have HD := Lib.hid (HDS.out w1 g bd mb hd hb l1 l2 l3)
  clear hd hb l1 l2 l3 HNEW HDS
  go_upto_region 5 with fail
  generalize w1.alloc (.cells #[.slice none 0 0, .int .i64 0, .int .i64 1] 30) = W1 at HD ⊢
  generalize w1.heap.size = gp at HD ⊢
  go_wp2_with fail
  refine (HOP.out _ _ _ _ _ HD.out).mono ?_
  rintro r w2 ⟨gj, rfl, h⟩
  have H := Lib.hid h
  clear h HD HOP
  go_wp2_with fail
  go_loopw [6, 7] (fun v6 v7 wr => ∃ i : Nat, i ≤ m ∧ v7 = .int .i64 (i : Int) ∧ LSt w0 wr g bd mb gp i v6) (fun _ v7 _ => m - (vInt v7).toNat)
  case atStart => exact ⟨0, Nat.zero_le _, rfl, 1, gj, rfl, by decide, H.out⟩
  case round =>
    obtain ⟨i, hi, rfl, b, gj, rfl, hb, hU⟩ := hrel
    have hi0 : (0 : Int) ≤ (i : Int) := by omega
    have HU := Lib.hid hU
    clear hU H
    by_cases hlt : i < m
    · have il : i < L.length := by omega
      have ili : (i : Int) < (L.length : Int) := by omega
      have ici : (i : Int) < (cap : Int) := by omega
      have i40 : (i : Int) < 40 := by omega
      have hne : L ≠ [] := fun e => by rw [e] at il; exact absurd il (Nat.not_lt_zero _)
      obtain ⟨hA, _, hcells⟩ := HOPS.out wr HU.out.bel hne
      have hc := hcells i il
      have hfk := HOK.out (L[i]'il) (List.getElem_mem il)
      clear hcells HOPS HOK hne
      generalize (L[i]'il) = x at hc hfk
      obtain ⟨kind, long, c, f⟩ := x
      obtain ⟨x0, x1, x2, x3, x4⟩ := hc
      dsimp only at x0 x1 x2 x3 x4 hfk
      obtain ⟨hf, hlong⟩ := hfk
      subst hA
      go_upto_block 2 with fail
      have HK := Lib.hid (HU.out.keep 37 #[.int .i64 kind, .int .i64 long, .int .u8 (c.toNat : Int), .int .u64 (f.keep : Int), .int .i64 f.tear])
      clear HU x0 x1 x2 x3 x4
      generalize wr.alloc (.cells #[.int .i64 kind, .int .i64 long, .int .u8 (c.toNat : Int), .int .u64 (f.keep : Int), .int .i64 f.tear] 37) = W8 at HK ⊢
      generalize wr.heap.size = o8 at HK ⊢
      have hA1 : 1000 * i < 900000000000 := by omega
      have hF1 : 2 * i < 900000000000 := by omega
      go_cut [6, 9] (fun v6 v9 wr => LMid (some (o8, 37, #[.int .i64 kind, .int .i64 long, .int .u8 (c.toNat : Int), .int .u64 (f.keep : Int), .int .i64 f.tear])) w0 wr g bd mb gp i v6 v9)
      case first =>
        have hk := HK.out.kept
        have y0 : W8.cell? ⟨o8, 0, none⟩ = some (.int .i64 kind) := hk.cell 0
        have y1 : W8.cell? ⟨o8, 1, none⟩ = some (.int .i64 long) := hk.cell 1
        have y2 : W8.cell? ⟨o8, 2, none⟩ = some (.int .u8 (c.toNat : Int)) := hk.cell 2
        have y3 : W8.cell? ⟨o8, 3, none⟩ = some (.int .u64 (f.keep : Int)) := hk.cell 3
        have y4 : W8.cell? ⟨o8, 4, none⟩ = some (.int .i64 f.tear) := hk.cell 4
        clear hk
        have HADD := Lib.hid (ladd_any HK.out hA1 hF1 ⟨kind, long, c, f⟩)
        have HFL := Lib.hid (lflush_any HK.out hA1 hF1)
        have HAG := Lib.hid (lagain_any (Or.inl HK.out) HK.out.b1 (by omega) hF1 f hf)
        have HAR := Lib.hid (fun (h0 : 0 ≤ long) => larm_any HK.out long h0 hlong f hf)
        have HB1 := Lib.hid HK.out.b1
        dsimp only at HADD
        by_cases k0 : kind = 0
        · subst k0
          skip
          go_wp2_with fail
          refine HADD.out.mono ?_
          rintro r v1 ⟨rfl, h⟩
          have HL := Lib.hid h
          clear h
          go_wp2_with fail
          go_meet
          rcases HL.out with hL | hL
          · exact ⟨b, gj, rfl, rfl, Or.inl ⟨by omega, hL⟩⟩
          · exact ⟨b, gj, rfl, rfl, Or.inr ⟨HB1.out, hb, hL⟩⟩
        have k0' : (kind == 0) = false := by rw [beq_eq_false_iff_ne]; exact k0
        by_cases k1 : kind = 1
        · subst k1
          clear k0 k0'
          go_wp2_with fail
          refine HADD.out.mono ?_
          rintro r v1 ⟨rfl, h⟩
          have HL := Lib.hid h
          clear h
          go_wp2_with fail
          go_meet
          rcases HL.out with hL | hL
          · exact ⟨b, gj, rfl, rfl, Or.inl ⟨by omega, hL⟩⟩
          · exact ⟨b, gj, rfl, rfl, Or.inr ⟨HB1.out, hb, hL⟩⟩
        have k1' : (kind == 1) = false := by rw [beq_eq_false_iff_ne]; exact k1
        by_cases k2 : kind = 2
        · subst k2
          clear k0 k0' k1 k1'
          go_wp2_with fail
          refine HADD.out.mono ?_
          rintro r v1 ⟨rfl, h⟩
          have HL := Lib.hid h
          clear h
          go_wp2_with fail
          go_meet
          rcases HL.out with hL | hL
          · exact ⟨b, gj, rfl, rfl, Or.inl ⟨by omega, hL⟩⟩
          · exact ⟨b, gj, rfl, rfl, Or.inr ⟨HB1.out, hb, hL⟩⟩
        have k2' : (kind == 2) = false := by rw [beq_eq_false_iff_ne]; exact k2
        by_cases k3 : kind = 3
        · subst k3
          clear k0 k0' k1 k1' k2 k2'
          go_wp2_with fail
          refine HFL.out.mono ?_
          rintro r v1 (⟨rfl, h⟩ | ⟨rfl, h⟩)
          · obtain ⟨a, n, cp, z0, ⟨z1, z2⟩, z3, hL⟩ := h.told
            have HL := Lib.hid hL
            clear hL h
            go_wp2_with fail
            go_meet
            exact ⟨b, gj, rfl, rfl, Or.inl ⟨by omega, HL.out.wide (by omega) (by omega)⟩⟩
          · have HL := Lib.hid h
            clear h
            go_wp2_with fail
            refine (ldn_any HL.out).mono ?_
            rintro r v2 ⟨rfl, rfl⟩
            go_wp2_with fail
            go_meet
            exact ⟨b, gj, rfl, rfl, Or.inr ⟨HB1.out, hb, HL.out.wide (by omega) (by omega)⟩⟩
        have k3' : (kind == 3) = false := by rw [beq_eq_false_iff_ne]; exact k3
        by_cases k4 : kind = 4
        · subst k4
          clear k0 k0' k1 k1' k2 k2' k3 k3'
          go_wp2_with fail
          refine HAG.out.mono ?_
          rintro r v1 ⟨gj', rfl, h⟩
          have HL := Lib.hid h
          clear h
          go_wp2_with fail
          go_meet
          exact ⟨b + 1, gj', rfl, rfl, Or.inl ⟨by omega, HL.out.wide (by omega) (by omega)⟩⟩
        have k4' : (kind == 4) = false := by rw [beq_eq_false_iff_ne]; exact k4
        clear k0 k1 k2 k3 k4
        by_cases hl0 : 0 ≤ long
        · go_wp2_with fail
          refine (HAR.out hl0).mono ?_
          rintro r v1 ⟨⟨cc, rfl⟩, h⟩
          have HL := Lib.hid h
          clear h
          go_wp2_with fail
          go_meet
          exact ⟨b, gj, rfl, rfl, Or.inl ⟨by omega, HL.out.wide (by omega) (by omega)⟩⟩
        · go_wp2_with fail
          go_meet
          exact ⟨b, gj, rfl, rfl, Or.inl ⟨by omega, HK.out.wide (by omega) (by omega)⟩⟩
      case rest =>
        obtain ⟨b', gj', rfl, rfl, hM⟩ := hcut
        clear HK
        rcases hM with ⟨hb2, hL⟩ | ⟨hb1, hb2, hD⟩
        · have HL := Lib.hid hL
          clear hL
          go_wp2_with fail
          refine (lup_any HL.out).mono ?_
          rintro r v1 ⟨rfl, rfl⟩
          go_wp2_with fail
          refine (lholds_any HL.out).mono ?_
          rintro r v2 ⟨rfl, hbl⟩
          have HL2 := Lib.hid (HL.out.below hbl).drop
          clear hbl
          go_wp2_with fail
          go_roundw
          · exact ⟨i + 1, by omega, by go_num, b', gj', rfl, by omega, HL2.out.wide (by omega) (by omega)⟩
          · simp only [vInt]; omega
        · have HL := Lib.hid hD
          clear hD
          go_wp2_with fail
          refine (ldn_any HL.out).mono ?_
          rintro r v1 ⟨rfl, rfl⟩
          have hk := HL.out.kept
          have y3 := hk.cell 3
          have y4 := hk.cell 4
          simp only [List.getElem?_toArray, List.getElem?_cons_zero, List.getElem?_cons_succ] at y3 y4
          clear hk
          go_wp2_with fail
          refine (lagain_any (gj := gj') (Or.inr HL.out) hb1 (by omega) (by omega) f hf).mono ?_
          rintro r v2 ⟨gj2, rfl, h⟩
          have HL1 := Lib.hid h
          clear h y3 y4
          go_wp2_with fail
          refine (lholds_any HL1.out).mono ?_
          rintro r v3 ⟨rfl, hbl⟩
          have HL2 := Lib.hid (HL1.out.below hbl).drop
          clear hbl
          go_wp2_with fail
          go_roundw
          · exact ⟨i + 1, by omega, by go_num, b' + 1, gj2, rfl, by omega, HL2.out.wide (by omega) (by omega)⟩
          · simp only [vInt]; omega
    · have hi2 : i = m := by omega
      subst hi2
      by_cases q0 : (i : Int) < (L.length : Int)
      · have q1 : ¬ (i : Int) < 40 := by omega
        clear hm3
        go_wp2_with fail
        refine (HAW.out _).mono ?_
        rintro r v1 ⟨rfl, hb1⟩
        go_wp2_with fail
        go_ret
        exact ⟨rfl, HU.out.bel.trans (hb1.mono HU.out.bel.size)⟩
      · clear hm3
        go_wp2_with fail
        refine (HAW.out _).mono ?_
        rintro r v1 ⟨rfl, hb1⟩
        go_wp2_with fail
        go_ret
        exact ⟨rfl, HU.out.bel.trans (hb1.mono HU.out.bel.size)⟩
set_option maxRecDepth 100000 in
theorem journalPlays_contract {H : Type} (enc : TypeId × Value → H) (W : World) (base : Nat) (args : Array Value) (ds gs : List (DataW H)) (before : List MemPlace)
    (hval : ∀ (j : Nat) t v, Tryz.f3.params[j]? = some t → args[j]? = some v → Value.okWide Tryz.prog W .any base t v)
    (hW : DataW.Whole enc Tryz.prog Tryz.f3.params.toList Rows.journalPlaysSpec.vars false W args.toList ds gs before)
    (hsz : (DataW.weightsEach Tryz.prog (Tryz.f3.params.toList ++ Rows.journalPlaysSpec.plain.varTypes Tryz.prog) (ds ++ gs)).all (· ≤ reachBytes) = true) :
    Calls Tryz.prog 3 args W fun e W' =>
      ((Rows.journalPlaysSpec.fn H (ds ++ gs)).results = [.lit (.bool true)] ∧ (Rows.journalPlaysSpec.fn H (ds ++ gs)).args = ds ∧ (Rows.journalPlaysSpec.fn H (ds ++ gs)).vars = []) ∧ e = .returned (.bool true) ∧ Below W.heap.size W W' := by
  obtain ⟨p, q, hA0, hV, rfl, hfz, hnd⟩ := hW
  have hA : DataW.TrodAll enc Tryz.prog W 0 (fun _ => true) true Tryz.f3.params.toList args.toList ds p := hA0
  rw [Tryz.params3] at hA hval hsz
  obtain ⟨v0, d0, rfl, rfl, h0⟩ := trodAll_one hA
  obtain ⟨rfl, rfl⟩ := trodVars_none hV
  obtain ⟨A_s, len_s, cap_s, rfl⟩ := okWide_slice Tryz.underlying22 (hval 0 22 v0 rfl rfl)
  obtain ⟨fuel_s, hf_s⟩ := h0
  obtain ⟨l_s, b_s, off_s, rfl, lc_s, cm_s, hR_s, ok_s⟩ := jops_open hf_s
  exact (jplays_any l_s b_s off_s cap_s A_s lc_s cm_s W hR_s ok_s).mono fun e W' h => ⟨⟨rfl, rfl, rfl⟩, h⟩
end Go.Proofs.YtjdklifkalnamaaGreatDoor
