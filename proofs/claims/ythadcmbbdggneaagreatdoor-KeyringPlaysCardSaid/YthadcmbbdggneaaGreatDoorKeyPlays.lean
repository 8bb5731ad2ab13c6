/-
  KeyringPlays, walked.
-/
import Derived.Test.YthadcmbbdggneaaGreatDoorKeyL
import Derived.Test.YthadcmbbdggneaaGreatDoorKeyAw
import Derived.Test.YthadcmbbdggneaaGreatDoorKeyArg
import Derived.Deep.RegionHeld3
import Derived.Deep.DeepCutAuto
import Derived.Deep.CutBlock
import Derived.Test.YthadcmbbdggneaaGreatDoorLaw
import Derived.Test.YthadcmbbdggneaaGreatDoorRows
import Derived.SizedLaws
namespace Go.Proofs.YthadcmbbdggneaaGreatDoor
open Go.ChangeShapes Go.WideShapes Go.ChangeAt Go.RowKit
set_option linter.unusedVariables false

theorem KW.start {w0 w : World} {g bd mb : Nat} {d : Dsk.St} (h : DiskAt w g bd mb d) (hb : Below w0.heap.size w0 w) (hlo : ∀ k ∈ [g, bd, mb], w0.heap.size ≤ k) :
    KW none w0 (w.alloc (.cells (kcells (fun _ => 0) 1 0) 30)) g bd mb w.heap.size 1 0 (fun _ => 0) d := by
  obtain ⟨l1, l2, l3⟩ := h.lt
  have hb1 := (Below.refl w.heap.size w).alloc (Nat.le_refl _) (.cells (kcells (fun _ => 0) 1 0) 30)
  refine ⟨h.below hb1, hb.trans (hb1.mono hb.size), hlo, ⟨Has.made w _ _, fun o t cs e => (by cases e)⟩, fun hx => ?_, fun o t cs e => (by cases e), hb.size, fun i _ => Nat.zero_le _⟩
  simp only [List.mem_cons, List.not_mem_nil, or_false] at hx
  omega
/-- The state at a round. -/
def LSt (w0 W : World) (g bd mb gp i : Nat) (v6 : Value) : Prop := ∃ b r, v6 = .pointer (some ⟨r, 0, none⟩) ∧ b ≤ i + 1 ∧ LUp none w0 W g bd mb gp b r (40 * i) (20 * i) i (10 * i)
/-- The state behind a call. -/
def LMid (P : Kp) (w0 W : World) (g bd mb gp i : Nat) (xi : Int) (v6 v9 v10 v11 : Value) : Prop := ∃ (b r : Nat) (x y : Int), v6 = .pointer (some ⟨r, 0, none⟩) ∧ v10 = .int .i64 x ∧ v11 = .int .i64 y ∧
  ((x = y ∧ b ≤ i + 2 ∧ LUp P w0 W g bd mb gp b r (40 * i + 20) (20 * i + 10) (i + 1) (10 * i + 9)) ∨
   (x = 8 ∧ y = 0 ∧ 1 ≤ b ∧ b ≤ i + 1 ∧ ∃ c : Nat, v9 = .int .i64 (c : Int) ∧ LDn P w0 W g bd mb gp b xi c (40 * i + 20) (20 * i + 10)))
theorem LMid.up {P : Kp} {w0 W : World} {g bd mb gp i b r A F N T : Nat} {xi x : Int} {v9 : Value} (h : LUp P w0 W g bd mb gp b r A F N T) (hb : b ≤ i + 2) (h1 : A ≤ 40 * i + 20) (h2 : F ≤ 20 * i + 10) (h3 : N ≤ i + 1) (h4 : T ≤ 10 * i + 9) :
    LMid P w0 W g bd mb gp i xi (.pointer (some ⟨r, 0, none⟩)) v9 (.int .i64 x) (.int .i64 x) := ⟨b, r, x, x, rfl, rfl, rfl, Or.inl ⟨rfl, hb, h.wide h1 h2 h3 h4⟩⟩
theorem LMid.out {P : Kp} {w0 W : World} {g bd mb gp i b r A F N T : Nat} {xi x y : Int} {c : Nat} (h : LOut P w0 W g bd mb gp b r A F N T xi c x y) (hb0 : 1 ≤ b) (hb : b ≤ i + 1) (h1 : A ≤ 40 * i + 20) (h2 : F ≤ 20 * i + 10) (h3 : N ≤ i + 1) (h4 : T ≤ 10 * i + 9) :
    LMid P w0 W g bd mb gp i xi (.pointer (some ⟨r, 0, none⟩)) (.int .i64 (c : Int)) (.int .i64 x) (.int .i64 y) := by
  rcases h with ⟨rfl, h⟩ | ⟨rfl, rfl, h⟩
  · exact .up h (by omega) h1 h2 h3 h4
  · exact ⟨b, r, 8, 0, rfl, rfl, rfl, Or.inr ⟨rfl, rfl, hb0, hb, c, rfl, h.wide h1 h2⟩⟩
set_option maxRecDepth 100000 in
set_option maxHeartbeats 16000000 in
theorem kplays_any (L : List KOp) (bs off cap : Nat) (A : Option Addr) (hlc : L.length ≤ cap) (hcm : cap ≤ 9223372036854775807) (w0 : World) (hW0 : KOpsAt w0 bs off A L) (hok : ∀ o ∈ L, KOk w0 o) :
    Calls Tryz.prog 3 #[.slice A L.length cap] w0 fun e w' => e = .returned (.bool true) ∧ Below w0.heap.size w0 w' := by
  have HAW : Hid _ := fun W => kawake_any W
  have HNEW : Hid (Calls Tryz.prog 7 #[.int .i64 20] w0 (NewDPost w0 20)) := Lib.hid (newd_any 20 (by decide) (by decide) w0)
  unfold NewDPost at HNEW
  have HOP : Hid (∀ (W : World) (g bd mb gp : Nat), KW none w0 W g bd mb gp 1 0 (fun _ => 0) (Dsk.fresh 20) → Calls Tryz.prog 8 #[.pointer (some ⟨g, 0, none⟩), .int .i64 1] W fun e w' => ∃ r, e = .returned (.pointer (some ⟨r, 0, none⟩)) ∧ LUp none w0 w' g bd mb gp 1 r 0 0 0 0) :=
    Lib.hid (fun W g bd mb gp hW => (ymade_any (w0 := w0) (b := 1) hW.dk hW.bel hW.los rfl Key.kon_fresh.len (by decide) (by decide)).mono (fun e w' ⟨R, q1, q2, q3, q4, q5, q6, q7⟩ =>
      ⟨R.rb, q4, R, 0, 0, _, _, rfl, q1, q2, q3, (hW.ring q5 q6 q1 q2 q3 q7).up Key.kon_fresh (fun _ _ => rfl), Nat.le_refl _, Nat.le_refl _, Nat.le_refl _, Nat.le_refl _⟩))
  have HOPS : Hid (∀ W, Below w0.heap.size w0 W → KOpsAt W bs off A L) := Lib.hid (fun W hb => hW0.below hb (Nat.le_refl _))
  have HOK := Lib.hid hok
  obtain ⟨m, hm⟩ : ∃ m, min L.length 40 = m := ⟨_, rfl⟩
  have hm1 : m ≤ 40 := by omega
  have hm2 : m ≤ L.length := by omega
  have hm3 : m = L.length ∨ m = 40 := by omega
  have HDS : Hid (∀ (w : World) (g bd mb : Nat), DiskAt w g bd mb (Dsk.fresh 20) → Below w0.heap.size w0 w → w0.heap.size ≤ g → w0.heap.size ≤ bd → w0.heap.size ≤ mb → KW none w0 (w.alloc (.cells #[.int .i64 0, .int .i64 0, .int .i64 0, .int .i64 0, .int .i64 0, .int .i64 0, .int .i64 0, .int .i64 0, .int .i64 1, .int .i64 0] 30)) g bd mb w.heap.size 1 0 (fun _ => 0) (Dsk.fresh 20)) := Lib.hid (fun w g bd mb h1 h2 h3 h4 h5 => KW.start h1 h2 (by
    intro k hk
    simp only [List.mem_cons, List.not_mem_nil, or_false] at hk
    rcases hk with rfl | rfl | rfl <;> assumption))
  generalize Dsk.fresh 20 = d0 at HNEW HOP HDS
  clear hW0 hok hm
  go_enter Tryz.func3, Tryz.ntmps3
  go_wp2_with fail
  refine HNEW.out.mono ?_
  rintro r w1 ⟨g, bd, mb, rfl, hd, hb, l1, l2, l3⟩
  have HD := Lib.hid (HDS.out w1 g bd mb hd hb l1 l2 l3)
  clear hd hb l1 l2 l3 HNEW HDS
  go_upto_region 5 with fail
  generalize w1.alloc (.cells #[.int .i64 0, .int .i64 0, .int .i64 0, .int .i64 0, .int .i64 0, .int .i64 0, .int .i64 0, .int .i64 0, .int .i64 1, .int .i64 0] 30) = W1 at HD ⊢
  generalize w1.heap.size = gp at HD ⊢
  go_wp2_with fail
  refine (HOP.out _ _ _ _ _ HD.out).mono ?_
  rintro r w2 ⟨r0, rfl, h⟩
  have H := Lib.hid h
  clear h HD HOP
  go_wp2_with fail
  go_loopw [6, 7] (fun v6 v7 wr => ∃ i : Nat, i ≤ m ∧ v7 = .int .i64 (i : Int) ∧ LSt w0 wr g bd mb gp i v6) (fun _ v7 _ => m - (vInt v7).toNat)
  case atStart => exact ⟨0, Nat.zero_le _, rfl, 1, r0, rfl, by decide, H.out⟩
  case round =>
    obtain ⟨i, hi, rfl, b, r, rfl, hb, hU⟩ := hrel
    have hi0 : (0 : Int) ≤ (i : Int) := by omega
    have HU := Lib.hid hU
    clear hU H
    by_cases hlt : i < m
    · have il : i < L.length := by omega
      have ili : (i : Int) < (L.length : Int) := by omega
      have ici : (i : Int) < (cap : Int) := by omega
      have i40 : (i : Int) < 40 := by omega
      have hne : L ≠ [] := fun e => by rw [e] at il; exact absurd il (Nat.not_lt_zero _)
      obtain ⟨hA, _, hcells⟩ := HOPS.out wr HU.out.bel hne
      have hc := hcells i il
      have hfk := HOK.out (L[i]'il) (List.getElem_mem il)
      clear hcells HOPS HOK hne
      generalize (L[i]'il) = x at hc hfk
      obtain ⟨kind, xi, c, Ax, Lx, capx, f⟩ := x
      obtain ⟨x0, x1, x2, x3, x4, x5⟩ := hc
      obtain ⟨hf, hi1, hi2, hil, hlx, hcx⟩ := hfk
      dsimp only at x0 x1 x2 x3 x4 x5 hf hi1 hi2 hil hlx hcx
      subst hA
      have hc8 : c.toNat < 256 := c.toNat_lt
      generalize c.toNat = n8 at x2 hc8
      obtain ⟨q, hq⟩ : ∃ q : Nat, q = n8 % 200 := ⟨_, rfl⟩
      have hq2 : q < 200 := by omega
      have hk1 : IntKind.i64.wrap (n8 : Int) = (n8 : Int) := by rw [IntKind.wrap_i64]; omega
      have hk2 : (n8 : Int) % 200 = (q : Int) := by omega
      have hk3 : (n8 : Int).tmod 200 = (q : Int) := by rw [Int.tmod_eq_emod_of_nonneg (by omega)]; exact hk2
      obtain ⟨cc, hcc⟩ : ∃ cc : Nat, cc = 1 + q := ⟨_, rfl⟩
      have hk4 : IntKind.i64.wrap (1 + (q : Int)) = (cc : Int) := by rw [IntKind.wrap_i64]; omega
      have hcc0 : cc ≠ 0 := by omega
      have hcc1 : cc ≤ 200 := by omega
      clear hq hq2 hcc hc8
      go_upto_block 2 with fail
      have HK := Lib.hid (HU.out.keep 38 #[.int .i64 kind, .int .i64 xi, .int .u8 (n8 : Int), .slice Ax Lx.length capx, .int .u64 (f.keep : Int), .int .i64 f.tear])
      clear HU x0 x1 x2 x3 x4 x5 hk1 hk2 hk3 hk4
      generalize wr.alloc (.cells #[.int .i64 kind, .int .i64 xi, .int .u8 (n8 : Int), .slice Ax Lx.length capx, .int .u64 (f.keep : Int), .int .i64 f.tear] 38) = W8 at HK ⊢
      generalize wr.heap.size = o8 at HK ⊢
      have hA1 : 40 * i < 900000000000 := by omega
      have hF1 : 20 * i < 900000000000 := by omega
      have hN1 : i < 1000000 := by omega
      have hT1 : 10 * i ≤ 1000000 := by omega
      go_cut [6, 9, 10, 11] (fun v6 v9 v10 v11 wr => LMid (some (o8, 38, #[.int .i64 kind, .int .i64 xi, .int .u8 (n8 : Int), .slice Ax Lx.length capx, .int .u64 (f.keep : Int), .int .i64 f.tear])) w0 wr g bd mb gp i xi v6 v9 v10 v11)
      case first =>
        have hk := HK.out.kept
        have y0 : W8.cell? ⟨o8, 0, none⟩ = some (.int .i64 kind) := hk.cell 0
        have y1 : W8.cell? ⟨o8, 1, none⟩ = some (.int .i64 xi) := hk.cell 1
        have y3 : W8.cell? ⟨o8, 3, none⟩ = some (.slice Ax Lx.length capx) := hk.cell 3
        have y4 : W8.cell? ⟨o8, 4, none⟩ = some (.int .u64 (f.keep : Int)) := hk.cell 4
        have y5 : W8.cell? ⟨o8, 5, none⟩ = some (.int .i64 f.tear) := hk.cell 5
        have HB1 := Lib.hid HK.out.b1
        have HPUT : Hid (∀ W, LUp (some (o8, 38, #[.int .i64 kind, .int .i64 xi, .int .u8 (n8 : Int), .slice Ax Lx.length capx, .int .u64 (f.keep : Int), .int .i64 f.tear])) w0 W g bd mb gp b r (40 * i) (20 * i) i (10 * i) → Calls Tryz.prog 9 #[.pointer (some ⟨r, 0, none⟩), .pointer (some ⟨gp, 0, none⟩), .int .i64 xi, .string (S (Key.keyT cc)), .int .i64 (cc : Int)] W fun e w' =>
            ∃ x y : Int, e = .returned (.tuple #[.int .i64 x, .int .i64 y]) ∧ LOut (some (o8, 38, #[.int .i64 kind, .int .i64 xi, .int .u8 (n8 : Int), .slice Ax Lx.length capx, .int .u64 (f.keep : Int), .int .i64 f.tear])) w0 w' g bd mb gp b r (40 * i + 2) (20 * i + 1) (i + 1) (10 * i) xi cc x y) := Lib.hid (fun W h => lput_any h hA1 hF1 hN1 xi hcc0 hcc1)
        have HKT := Lib.hid (fun W => key_any cc (by omega) W)
        unfold KeyPost at HKT
        have hcu : IntKind.u8.wrap (cc : Int) = (cc : Int) := by
          show (cc : Int) % 256 = _
          omega
        generalize Key.keyT cc = kt at HPUT HKT
        have HNO := Lib.hid (lputNo_any HK.out hA1 hF1 hN1 xi [110, 111, 32, 107, 101, 121] (by decide) (by decide) (cc : Int))
        have HSD := Lib.hid (lshred_any HK.out hA1 hF1 hT1 xi)
        have HCM := Lib.hid (lcalm_any HK.out)
        have HKP : Hid (∀ W, LUn (some (o8, 38, #[.int .i64 kind, .int .i64 xi, .int .u8 (n8 : Int), .slice Ax Lx.length capx, .int .u64 (f.keep : Int), .int .i64 f.tear])) w0 W g bd mb gp b r (40 * i) (20 * i) i (10 * i) → Calls Tryz.prog 13 #[.pointer (some ⟨r, 0, none⟩), .pointer (some ⟨gp, 0, none⟩), .slice Ax Lx.length capx] W fun e w' => e = .returned (.bool true) ∧ LUp (some (o8, 38, #[.int .i64 kind, .int .i64 xi, .int .u8 (n8 : Int), .slice Ax Lx.length capx, .int .u64 (f.keep : Int), .int .i64 f.tear])) w0 w' g bd mb gp b r (40 * i + 16) (20 * i + 8) (i + 1) (10 * i + 8)) := Lib.hid (fun W h => lkeep_any h hA1 hF1 hT1 Lx Ax capx hil hlx hcx)
        have HAG := Lib.hid (lagain_up HK.out (by omega) hF1 f hf)
        have HAR := Lib.hid (fun (h0 : 0 ≤ xi) => larm_any HK.out xi h0 hi2 f hf)
        by_cases k0 : kind = 0 ∨ kind = 1
        · have hb0 : Below W8.heap.size W8 W8.drew := (Below.refl _ W8).drew
          clear HNO HSD HCM HKP HAG HAR y0 y3 y4 y5 hk
          have HS := Lib.hid (HK.out.below hb0)
          have hy : W8.drew.cell? ⟨o8, 1, none⟩ = some (.int .i64 xi) := y1
          rcases k0 with rfl | rfl
          all_goals
            go_upto_region 17 with fail
            clear y1
            go_region_held3 (fun w' => w'.cell? ⟨o8, 1, none⟩ = some (.int .i64 xi)) (first | exact hy | go_keep) (first
              | (go_at_call 10; refine (HKT.out _).mono ?_; rintro r1 w1 ⟨rfl, hb1⟩; have HS1 := Lib.hid (HS.out.below hb1); have hy := HS1.out.kept.cell 1; clear hb1)
              | (go_at_call 9; refine (HPUT.out _ HS1.out).mono ?_; rintro r2 w2 ⟨x, y, rfl, ho⟩; have HO := Lib.hid ho; have hy := HO.out.kept.cell 1; clear ho))
            go_wp2_with fail
            go_meet
            exact .out HO.out HB1.out hb (by omega) (by omega) (by omega) (by omega)
        have k0' : (kind == 0) = false := by rw [beq_eq_false_iff_ne]; exact fun e => k0 (Or.inl e)
        have k1' : (kind == 1) = false := by rw [beq_eq_false_iff_ne]; exact fun e => k0 (Or.inr e)
        clear k0 HPUT HKT hk
        by_cases k3 : kind = 3
        · subst k3
          clear HNO HCM HKP HAG HAR k0' k1'
          go_wp2_with fail
          refine HSD.out.mono ?_
          rintro r1 v1 ⟨x, y, rfl, ho⟩
          have HO := Lib.hid ho
          clear ho HSD
          go_wp2_with fail
          go_meet
          exact LMid.out (c := 0) HO.out HB1.out hb (by omega) (by omega) (by omega) (by omega)
        have k3' : (kind == 3) = false := by rw [beq_eq_false_iff_ne]; exact k3
        by_cases k5 : kind = 5
        · subst k5
          clear HNO HSD HAG HAR k0' k1' k3 k3'
          go_wp2_with fail
          refine HCM.out.mono ?_
          rintro r1 v1 ⟨rfl, hn⟩
          have HN := Lib.hid hn
          have z3 := hn.up.kept.cell 3
          simp only [List.getElem?_toArray, List.getElem?_cons_zero, List.getElem?_cons_succ] at z3
          clear hn HCM y3
          go_wp2_with fail
          refine (HKP.out _ HN.out).mono ?_
          rintro r2 v2 ⟨rfl, h⟩
          have HL := Lib.hid h
          clear h HN HKP z3
          go_wp2_with fail
          go_meet
          exact LMid.up HL.out (by omega) (by omega) (by omega) (by omega) (by omega)
        have k5' : (kind == 5) = false := by rw [beq_eq_false_iff_ne]; exact k5
        by_cases k6 : kind = 6
        · subst k6
          clear HSD HCM HKP HAG HAR k0' k1' k3 k3' k5 k5'
          go_wp2_with fail
          refine HNO.out.mono ?_
          rintro r1 v1 ⟨x, rfl, h⟩
          have HL := Lib.hid h
          clear h HNO
          go_wp2_with fail
          go_meet
          exact LMid.up HL.out (by omega) (by omega) (by omega) (by omega) (by omega)
        have k6' : (kind == 6) = false := by rw [beq_eq_false_iff_ne]; exact k6
        by_cases k7 : kind = 7
        · subst k7
          clear HNO HSD HCM HKP HAR k0' k1' k3 k3' k5 k5' k6 k6'
          go_wp2_with fail
          refine HAG.out.mono ?_
          rintro r1 v1 ⟨r', rfl, h⟩
          have HL := Lib.hid h
          clear h HAG
          go_wp2_with fail
          go_meet
          exact LMid.up HL.out (by omega) (by omega) (by omega) (by omega) (by omega)
        have k7' : (kind == 7) = false := by rw [beq_eq_false_iff_ne]; exact k7
        by_cases k8 : kind = 8
        · subst k8
          clear HNO HSD HCM HKP HAG k0' k1' k3 k3' k5 k5' k6 k6' k7 k7'
          by_cases hl0 : 0 ≤ xi
          · go_wp2_with fail
            refine (HAR.out hl0).mono ?_
            rintro r1 v1 ⟨⟨cx, rfl⟩, h⟩
            have HL := Lib.hid h
            clear h HAR
            go_wp2_with fail
            go_meet
            exact LMid.up HL.out (by omega) (by omega) (by omega) (by omega) (by omega)
          · go_wp2_with fail
            go_meet
            exact LMid.up HK.out (by omega) (by omega) (by omega) (by omega) (by omega)
        have k8' : (kind == 8) = false := by rw [beq_eq_false_iff_ne]; exact k8
        clear HNO HSD HCM HKP HAG HAR k3 k5 k6 k7 k8
        go_wp2_with fail
        go_meet
        exact LMid.up HK.out (by omega) (by omega) (by omega) (by omega) (by omega)
      case rest =>
        obtain ⟨b', r', x, y, rfl, rfl, rfl, hM⟩ := hcut
        clear HK
        rcases hM with ⟨rfl, hb2, hL⟩ | ⟨rfl, rfl, hb1, hb2, c', rfl, hD⟩
        · have HL := Lib.hid hL
          have hxx : (x == x) = true := by rw [beq_self_eq_true]
          have hxn : (x != x) = false := by rw [bne_self_eq_false]
          clear hL
          go_wp2_with fail
          refine (lup_any HL.out).mono ?_
          rintro r1 v1 ⟨rfl, rfl⟩
          go_wp2_with fail
          refine (lstands_any HL.out).mono ?_
          rintro r2 v2 ⟨rfl, hbl⟩
          have HL2 := Lib.hid (HL.out.below hbl).drop
          clear hbl
          go_wp2_with fail
          go_roundw
          · exact ⟨i + 1, by omega, by go_num, b', r', rfl, by omega, HL2.out.wide (by omega) (by omega) (by omega) (by omega)⟩
          · simp only [vInt]; omega
        · have HL := Lib.hid hD
          clear hD
          go_wp2_with fail
          refine (ldn_any HL.out).mono ?_
          rintro r1 v1 ⟨rfl, rfl⟩
          have hk := HL.out.kept
          have y1 := hk.cell 1
          have y4 := hk.cell 4
          have y5 := hk.cell 5
          simp only [List.getElem?_toArray, List.getElem?_cons_zero, List.getElem?_cons_succ] at y1 y4 y5
          clear hk
          go_wp2_with fail
          refine (lagain_dn HL.out hb1 (by omega) (by omega) (by omega) f hf).mono ?_
          rintro r2 v2 ⟨r'', rfl, h⟩
          have HL1 := Lib.hid h
          clear h y1 y4 y5
          go_wp2_with fail
          refine (lstands_any HL1.out).mono ?_
          rintro r3 v3 ⟨rfl, hbl⟩
          have HL2 := Lib.hid (HL1.out.below hbl).drop
          clear hbl
          go_wp2_with fail
          go_roundw
          · exact ⟨i + 1, by omega, by go_num, b' + 1, r'', rfl, by omega, HL2.out.wide (by omega) (by omega) (by omega) (by omega)⟩
          · simp only [vInt]; omega
    · have hi2 : i = m := by omega
      subst hi2
      by_cases q0 : (i : Int) < (L.length : Int)
      · have q1 : ¬ (i : Int) < 40 := by omega
        clear hm3
        go_wp2_with fail
        refine (HAW.out _).mono ?_
        rintro r v1 ⟨rfl, hb1⟩
        go_wp2_with fail
        go_ret
        exact ⟨rfl, HU.out.bel.trans (hb1.mono HU.out.bel.size)⟩
      · clear hm3
        go_wp2_with fail
        refine (HAW.out _).mono ?_
        rintro r v1 ⟨rfl, hb1⟩
        go_wp2_with fail
        go_ret
        exact ⟨rfl, HU.out.bel.trans (hb1.mono HU.out.bel.size)⟩
set_option maxRecDepth 100000 in
theorem keyringPlays_contract {H : Type} (enc : TypeId × Value → H) (W : World) (base : Nat) (args : Array Value) (ds gs : List (DataW H)) (before : List MemPlace)
    (hval : ∀ (j : Nat) t v, Tryz.f3.params[j]? = some t → args[j]? = some v → Value.okWide Tryz.prog W .any base t v)
    (hW : DataW.Whole enc Tryz.prog Tryz.f3.params.toList Rows.keyringPlaysSpec.vars false W args.toList ds gs before)
    (hsz : (DataW.weightsEach Tryz.prog (Tryz.f3.params.toList ++ Rows.keyringPlaysSpec.plain.varTypes Tryz.prog) (ds ++ gs)).all (· ≤ reachBytes) = true) :
    Calls Tryz.prog 3 args W fun e W' =>
      ((Rows.keyringPlaysSpec.fn H (ds ++ gs)).results = [.lit (.bool true)] ∧ (Rows.keyringPlaysSpec.fn H (ds ++ gs)).args = ds ∧ (Rows.keyringPlaysSpec.fn H (ds ++ gs)).vars = []) ∧ e = .returned (.bool true) ∧ Below W.heap.size W W' := by
  obtain ⟨p, q, hA0, hV, rfl, hfz, hnd⟩ := hW
  have hA : DataW.TrodAll enc Tryz.prog W 0 (fun _ => true) true Tryz.f3.params.toList args.toList ds p := hA0
  rw [Tryz.params3] at hA hval hsz
  obtain ⟨v0, d0, rfl, rfl, h0⟩ := trodAll_one hA
  obtain ⟨rfl, rfl⟩ := trodVars_none hV
  obtain ⟨A_s, len_s, cap_s, rfl⟩ := okWide_slice Tryz.underlying22 (hval 0 22 v0 rfl rfl)
  obtain ⟨fuel_s, hf_s⟩ := h0
  obtain ⟨l_s, b_s, off_s, rfl, lc_s, cm_s, hR_s, ok_s⟩ := kops_open hf_s
  exact (kplays_any l_s b_s off_s cap_s A_s lc_s cm_s W hR_s ok_s).mono fun e W' h => ⟨⟨rfl, rfl, rfl⟩, h⟩
end Go.Proofs.YthadcmbbdggneaaGreatDoor
