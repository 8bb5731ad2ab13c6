/-
  A heap's children, sink.
-/
import Derived.Test.YtjmdpepghnhpkaaHeapUp
import Derived.Test.YtjmdpepghnhpkaaHeapLs
import Derived.ChangeKeysEq
import Derived.Laws.CopyOwn
namespace Go.Proofs.Ytjmdpepghnhpkaa
open Go.RowKit
set_option linter.unusedVariables false

theorem run_twoIndex {cs : Array Value} {k : Nat} {v : Value} (hk : k < 2) (hc : cs[k]? = some v) (W : World) : (Instr.index 75 (.agg cs) (.int .i64 (k : Int))).run Try.prog W = .ok v W := by
  have hi : (0 : Int) ≤ (k : Int) ∧ (k : Int) < ((2 : Nat) : Int) := by omega
  obtain ⟨ti, hti⟩ : ∃ ti, Try.prog.info? 3 = some ti := Option.isSome_iff_exists.1 (by kernel_rfl)
  have hC : Try.prog.cellsOf 3 = 1 := by kernel_rfl
  have hp := run_part_plain (w := W) (P := Try.prog) (e := 3) (by kernel_rfl) hc
  have hs := run_sizeOf (w := W) hti
  rw [hC] at hs
  have e1 : asIntOf (.int .i64 (k : Int)) = pure (.i64, (k : Int)) := rfl
  unfold Instr.index
  rw [e1]
  simp only [Sem.run_bind, Sem.run_pure, Result.andThen_ok, run_underlying Try.underlying75 W, if_pos hi, hs, Nat.mul_one, Int.toNat_natCast, hp]
/-- The places below one, as an array. -/
def kidsV (i : Nat) : Value := .agg #[.int .i64 ((2 * i + 1 : Nat) : Int), .int .i64 ((2 * i + 2 : Nat) : Int)]
theorem run_kids (i j : Nat) (hj : j < 2) (W : World) : (Instr.index 75 (kidsV i) (.int .i64 (j : Int))).run Try.prog W = .ok (.int .i64 ((2 * i + 1 + j : Nat) : Int)) W := by
  have h01 : j = 0 ∨ j = 1 := by omega
  rcases h01 with rfl | rfl
  · exact run_twoIndex (by decide) rfl W
  · exact run_twoIndex (by decide) rfl W
theorem twoSz : (Try.prog.info? 75).map (·.size) = some 2 := by kernel_rfl
set_option maxRecDepth 100000 in
theorem children_any {i : Nat} (hi : i ≤ 3000000) (w : World) : Calls Try.prog 46 #[.int .i64 (i : Int)] w fun r w' => r = .returned (kidsV i) ∧ Below w.heap.size w w' := by
  have hw1 : IntKind.i64.wrap (2 * (i : Int)) = ((2 * i : Nat) : Int) := by rw [IntKind.wrap_i64]; omega
  have hw2 : IntKind.i64.wrap (((2 * i : Nat) : Int) + 1) = ((2 * i + 1 : Nat) : Int) := by rw [IntKind.wrap_i64]; omega
  have hw3 : IntKind.i64.wrap (((2 * i : Nat) : Int) + 2) = ((2 * i + 2 : Nat) : Int) := by rw [IntKind.wrap_i64]; omega
  have HV : Hid (kidsV i = .agg #[.int .i64 ((2 * i + 1 : Nat) : Int), .int .i64 ((2 * i + 2 : Nat) : Int)]) := Lib.hid rfl
  generalize kidsV i = V at HV ⊢
  generalize ha : 2 * i + 1 = a at hw2 HV
  generalize hb : 2 * i + 2 = b at hw3 HV
  generalize hc : 2 * i = c at hw1 hw2 hw3
  clear ha hb hc hi
  have hB : Below w.heap.size w (w.alloc (.cells #[.int .i64 0, .int .i64 0] 75)) := (Below.refl _ w).alloc (Nat.le_refl _) _
  have hH := Has.made w 75 #[.int .i64 0, .int .i64 0]
  go_enter Try.func46, Try.ntmps46
  go_upto_region 1 with fail
  generalize w.alloc (.cells #[.int .i64 0, .int .i64 0] 75) = W0 at hB hH ⊢
  obtain ⟨b0, hb0⟩ : ∃ b0, w.heap.size = b0 := ⟨_, rfl⟩
  rw [hb0] at hH ⊢
  have HLE : Hid (w.heap.size ≤ b0) := Lib.hid (by omega)
  have c0 := hH.cell 0
  have c1 := hH.cell 1
  have f0 := hH.free 0
  have f1 := hH.free 1
  have HH := Lib.hid hH
  have HB := Lib.hid hB
  clear hH hB hb0
  go_wp2_with fail
  refine bodyPost_ret (v := V) ?_ rfl ⟨rfl, ?_⟩
  · rw [HV.out]
    exact results_cell_row (p := 2) rfl _ _ b0 75 #[.int .i64 (a : Int), .int .i64 (b : Int)] (0, 0) _ rfl ((HH.out.set 0 _).set 1 _) Try.underlying75 rfl twoSz
  · exact (HB.out.setCell (p := ⟨b0, 0, none⟩) HLE.out _).setCell (p := ⟨b0, 1, none⟩) HLE.out _
set_option maxRecDepth 100000 in
set_option maxHeartbeats 8000000 in
theorem sink_any {w : World} {q B cap : Nat} {h : List Du} {i : Nat} (H : HAt w q B h cap) (hi : i < h.length) (hl : h.length ≤ 1000000) :
    Calls Try.prog 37 #[.pointer (some ⟨q, 0, none⟩), .int .i64 (i : Int)] w fun r w' => r = .returned (.tuple #[]) ∧ ∃ h', h'.Perm h ∧ (Du.DownAt h i → Du.Heap h') ∧ HAt w' q B h' cap ∧ Mv w w' [B] := by
  have HH := Lib.hid H
  have HL := Lib.hid (And.intro hi hl)
  clear H hi hl
  go_enter Try.func37, Try.ntmps37
  go_wp2_with fail
  go_loopg [1] (h.length - i) (fun n v1 wr => ∃ (k : Nat) (g : List Du), v1 = .int .i64 (k : Int) ∧ Hid (n = h.length - k ∧ k < g.length ∧ g.length = h.length) ∧ Hid (g.Perm h ∧ (Du.DownAt h i → Du.DownAt g k) ∧ HAt wr q B g cap ∧ Mv w wr [B]))
  case atStart => exact ⟨i, h, rfl, Lib.hid ⟨rfl, HL.out.1, rfl⟩, Lib.hid ⟨List.Perm.refl _, id, HH.out, Mv.refl _ _⟩⟩
  case round =>
    obtain ⟨k, g, rfl, HK, HR⟩ := hrel
    have HCH := Lib.hid (children_any (i := k) (by have := HK.out; have := HL.out; omega))
    have HIX := Lib.hid (run_kids k)
    have HAT := Lib.hid HR.out.2.2.1
    have HMV := Lib.hid HR.out.2.2.2
    generalize kidsV k = V at HCH HIX
    go_wp2_with fail
    refine (HCH.out _).mono ?_
    rintro r w1 ⟨rfl, hb1⟩
    have HAT1 := Lib.hid (HAT.out.below hb1)
    have HMV1 := Lib.hid (HMV.out.trans (Mv.of_below hb1 [B]))
    clear hb1 HCH HAT HMV
    go_upto_block 2 with fail
    go_cut [4] (fun v4 wc => v4 = .int .i64 (Du.ls g k 2 : Nat) ∧ Hid (HAt wc q B g cap ∧ Mv w wc [B]))
    case first =>
      go_wp2_with fail
      go_loopg [4, 10] 2 (fun n v4 v10 wi => ∃ j : Nat, j + n = 2 ∧ v10 = .int .i64 (j : Int) ∧ v4 = .int .i64 (Du.ls g k j : Nat) ∧ Hid (HAt wi q B g cap ∧ Mv w wi [B]))
      case atStart => exact ⟨0, rfl, rfl, rfl, Lib.hid ⟨HAT1.out, HMV1.out⟩⟩
      case round =>
        obtain ⟨j, hjn, rfl, rfl, HI⟩ := hrel
        cases gk with
        | zero =>
          have hj2 : ¬ (j : Int) < 2 := by omega
          obtain rfl : j = 2 := by omega
          go_wp2_with fail
          go_meet
          case rel => exact ⟨rfl, HI⟩
        | succ n =>
          have hj2 : (j : Int) < 2 := by omega
          have hjn2 : j < 2 := by omega
          have hix := fun W => HIX.out j hjn2 W
          have hincj : IntKind.i64.wrap ((j : Int) + 1) = (j : Int) + 1 := by rw [IntKind.wrap_i64]; omega
          have HLY := Lib.hid (fun (h1 : 2 * k + 1 + j < g.length) (h2 : Du.lt (Du.g g (2 * k + 1 + j)) (Du.g g (Du.ls g k j)) = true) => (Du.ls_yes h1 h2 : Du.ls g k (j + 1) = _))
          have HLN := Lib.hid (fun (h1 : ¬ (2 * k + 1 + j < g.length) ∨ Du.lt (Du.g g (2 * k + 1 + j)) (Du.g g (Du.ls g k j)) = false) => (Du.ls_no h1 : Du.ls g k (j + 1) = _))
          have HML := Lib.hid (Du.ls_lt HK.out.2.1 j)
          obtain ⟨m', hm'⟩ : ∃ m', Du.ls g k (j + 1) = m' := ⟨_, rfl⟩
          rw [hm'] at HLY HLN
          have HMM := Lib.hid hm'
          clear hm'
          generalize Du.ls g k j = m at *
          generalize 2 * k + 1 + j = c at *
          have hsl := HI.out.1.slice
          by_cases hc : c < g.length
          · have HBF := Lib.hid (before_any HI.out.1 hc HML.out)
            have hci : (c : Int) < (g.length : Int) := by omega
            obtain ⟨lt, hlt⟩ : ∃ lt, Du.lt (Du.g g c) (Du.g g m) = lt := ⟨_, rfl⟩
            rw [hlt] at HBF HLY HLN
            have HLY2 := Lib.hid (HLY.out hc)
            clear hlt hc HLY
            go_wp2_with fail
            refine HBF.out.mono ?_
            rintro r w2 ⟨rfl, hb2⟩
            have HI2 := Lib.hid (And.intro (HI.out.1.below hb2) (HI.out.2.trans (Mv.of_below hb2 [B])))
            clear hb2 hsl HBF HI
            cases lt with
            | false =>
              have HM : Hid (m' = m) := Lib.hid (HLN.out (by right; trivial))
              go_wp2_with fail
              go_roundg n
              case measure => omega
              case rel => exact ⟨j + 1, by omega, by go_num, by rw [HMM.out, HM.out], HI2⟩
            | true =>
              have HM : Hid (m' = c) := Lib.hid (HLY2.out (by trivial))
              go_wp2_with fail
              go_roundg n
              case measure => omega
              case rel => exact ⟨j + 1, by omega, by go_num, by rw [HMM.out, HM.out], HI2⟩
          · have hci : ¬ (c : Int) < (g.length : Int) := by omega
            have HM : Hid (m' = m) := Lib.hid (HLN.out (Or.inl hc))
            clear hc
            go_wp2_with fail
            go_roundg n
            case measure => omega
            case rel => exact ⟨j + 1, by omega, by go_num, by rw [HMM.out, HM.out], HI⟩
    case rest =>
      obtain ⟨rfl, HW⟩ := hcut
      have HOR := Lib.hid (Du.ls_or (l := g) (i := k) 2 (Nat.le_refl _))
      have HST := Lib.hid (fun (h : Du.DownAt g k) (e : Du.ls g k 2 = k) => Du.down_stop h e)
      have HGO := Lib.hid (fun (h : Du.DownAt g k) (e : Du.ls g k 2 ≠ k) => Du.down_go h HK.out.2.1 e)
      have hml := Du.ls_lt HK.out.2.1 2
      generalize Du.ls g k 2 = m at *
      by_cases hmk : m = k
      · subst hmk
        clear hml
        go_wp2_with fail
        go_returns
        obtain ⟨r1, r2, r3, r4⟩ := HR.out
        exact ⟨rfl, g, r1, fun h => HST.out (r2 h) (by trivial), HW.out.1, HW.out.2⟩
      · have hne : ((m : Int) == (k : Int)) = false := by rw [beq_eq_false_iff_ne]; omega
        have HKM : Hid (k < m ∧ m < g.length) := Lib.hid (by
          rcases HOR.out with e | ⟨e1, e2⟩
          · exact absurd e hmk
          · unfold Du.par at e2; omega)
        have HPERM := Lib.hid ((Du.sw_perm HK.out.2.1 hml).trans HR.out.1)
        have HDG := Lib.hid (fun (h : Du.DownAt h i) => HGO.out (HR.out.2.1 h) hmk)
        have HSW := Lib.hid (swap_any HW.out.1 HK.out.2.1 hml)
        have hswl := Du.sw_len g k m
        generalize Du.sw g k m = g2 at HPERM HDG HSW hswl
        have HL2 : Hid (h.length - m < h.length - k ∧ m < g2.length ∧ g2.length = h.length) := Lib.hid (by have := HKM.out; have := HK.out; omega)
        clear hml hmk hswl HST HGO HOR
        go_wp2_with fail
        refine HSW.out.mono ?_
        rintro r w2 ⟨rfl, hat2, hm2⟩
        have HAT2 := Lib.hid hat2
        have HM2 := Lib.hid (HW.out.2.trans hm2)
        clear hat2 hm2 HSW
        go_wp2_with fail
        go_roundg (h.length - m)
        case measure => have h1 := HK.out.1; have h2 := HL2.out.1; omega
        case rel => exact ⟨m, g2, rfl, Lib.hid ⟨rfl, HL2.out.2.1, HL2.out.2.2⟩, Lib.hid ⟨HPERM.out, HDG.out, HAT2.out, HM2.out⟩⟩
end Go.Proofs.Ytjmdpepghnhpkaa
