/-
  The contract of PolicyDeadlines.
-/
import Derived.Test.YtjmdpepghnhpkaaPolA
import Derived.Test.YtjmdpepghnhpkaaDueAw
import Derived.Laws.CopyOwn
namespace Go.Proofs.Ytjmdpepghnhpkaa
open Go.RowKit
set_option linter.unusedVariables false

set_option maxRecDepth 100000 in
set_option maxHeartbeats 16000000 in
theorem policyDead_any {l : List Int} (hl : l.length = 8) (cls born : Int) (w : World) :
    Calls Try.prog 3 #[.agg (polv l), .int .i64 cls, .int .i64 born] w fun r w' => r = .returned (.bool true) ∧ Below w.heap.size w w' := by
  have HRI := Lib.hid (fun W => polright_any hl W)
  have HDE := Lib.hid (fun hr W => poldead_any hl hr cls born W)
  have HAW := Lib.hid dawake_any
  have HL := Lib.hid hl
  have hh := Has.made w 22 (polv l)
  have hb0 : Below w.heap.size w (w.alloc (.cells (polv l) 22)) := (Below.refl _ w).alloc (Nat.le_refl _) _
  have HC := Lib.hid (fun W (h : Has W w.heap.size 22 (polv l)) k (hk : k < l.length) => polv_cell h hk)
  obtain ⟨CS, hcs⟩ : ∃ CS, polv l = CS := ⟨_, rfl⟩
  have HSZ := Lib.hid (show CS.size = 8 by rw [← hcs, polv_size, hl])
  have HON := Lib.hid (show CS.all (·.oneCell') = true by rw [← hcs]; exact polv_one l)
  rw [hcs] at HRI HDE HC hh hb0 ⊢
  clear hcs
  go_enter Try.func3, Try.ntmps3
  go_upto_region 1 with fail
  generalize w.alloc (.cells CS 22) = W0 at hh hb0 ⊢
  obtain ⟨b0, hq0⟩ : ∃ b0, w.heap.size = b0 := ⟨_, rfl⟩
  rw [hq0] at hh HC ⊢
  have HQ := Lib.hid hq0
  have HH := Lib.hid hh
  have HB := Lib.hid hb0
  have HCE := Lib.hid (HC.out W0 hh)
  clear hh hb0 hq0
  go_upto_block 0 with fail
  go_cut [7] (fun v7 wc => v7 = .bool (Pol.right l) ∧ wc = W0)
  case first =>
    go_wp2_with fail
    go_loopg [7, 8] 8 (fun n v7 v8 wr => ∃ k : Nat, k + n = 8 ∧ v8 = .int .i64 (k : Int) ∧ v7 = .bool ((l.take k).all Pol.one) ∧ wr = W0)
    case atStart => exact ⟨0, rfl, rfl, rfl, rfl⟩
    case round =>
      obtain ⟨k, hkn, rfl, rfl, rfl⟩ := hrel
      cases gk with
      | zero =>
        have hk : ¬ (k : Int) < 8 := by omega
        go_wp2_with fail
        go_meet
        case rel => exact ⟨by rw [List.take_of_length_le (by omega)]; rfl, rfl⟩
      | succ n =>
        have hk : (k : Int) < 8 := by omega
        have hk0 : (0 : Int) ≤ (k : Int) := by omega
        have hkl : k < l.length := by omega
        have hinc : IntKind.i64.wrap ((k : Int) + 1) = (k : Int) + 1 := by rw [IntKind.wrap_i64]; omega
        have hst := Pol.take_step hkl
        have hc := HCE.out k hkl
        generalize l[k]'hkl = x at hst hc
        obtain ⟨acc, hacc⟩ : ∃ acc, (l.take k).all Pol.one = acc := ⟨_, rfl⟩
        rw [hacc] at hst ⊢
        have HST := Lib.hid hst
        clear hst hacc
        cases acc with
        | false =>
          go_wp2_with fail
          go_roundg n
          case measure => omega
          case rel => exact ⟨k + 1, by omega, by go_num, by rw [HST.out]; rfl, rfl⟩
        | true =>
          by_cases h0 : 0 ≤ x
          · by_cases h1 : x ≤ 1073741824
            · have HP : Hid (Pol.one x = true) := Lib.hid (by unfold Pol.one; simp [h0, h1])
              go_wp2_with fail
              go_roundg n
              case measure => omega
              case rel => exact ⟨k + 1, by omega, by go_num, by rw [HST.out, HP.out]; rfl, rfl⟩
            · have HP : Hid (Pol.one x = false) := Lib.hid (by unfold Pol.one; simp [h1])
              go_wp2_with fail
              go_roundg n
              case measure => omega
              case rel => exact ⟨k + 1, by omega, by go_num, by rw [HST.out, HP.out]; rfl, rfl⟩
          · have HP : Hid (Pol.one x = false) := Lib.hid (by unfold Pol.one; simp [h0])
            go_wp2_with fail
            go_roundg n
            case measure => omega
            case rel => exact ⟨k + 1, by omega, by go_num, by rw [HST.out, HP.out]; rfl, rfl⟩
  case rest =>
    obtain ⟨rfl, rfl⟩ := hcut
    clear HCE
    go_upto_region 7 with (first
      | (refine wpList_polLoadL (by rfl) (.tmp 3) rfl b0 CS ?e1 HH.out HSZ.out ?_; (case e1 => rfl))
      | (refine wpList_store_row rfl 23 (.tmp 9) (.tmp 29) rfl wc.heap.size CS ?e2 ?e3 _ _ (heap_alloc_new _ _) (by rw [HSZ.out]; exact polSize) (by rw [HSZ.out]; rfl) HON.out ?_; (case e2 => rfl); (case e3 => rfl)))
    try simp only [Act.put]
    have hba : Below wc.heap.size wc (wc.alloc (.cells #[.int .i64 0, .int .i64 0, .int .i64 0, .int .i64 0, .int .i64 0, .int .i64 0, .int .i64 0, .int .i64 0] 23)) := (Below.refl _ wc).alloc (Nat.le_refl _) _
    have hb1 : Below wc.heap.size wc ((wc.alloc (.cells #[.int .i64 0, .int .i64 0, .int .i64 0, .int .i64 0, .int .i64 0, .int .i64 0, .int .i64 0, .int .i64 0] 23)).setRow wc.heap.size CS) := below_setRow hba (Nat.le_refl _) _
    have hh1 : Has ((wc.alloc (.cells #[.int .i64 0, .int .i64 0, .int .i64 0, .int .i64 0, .int .i64 0, .int .i64 0, .int .i64 0, .int .i64 0] 23)).setRow wc.heap.size CS) wc.heap.size 23 CS := setRow_heap _ _ _ _ _ _ (heap_alloc_new _ _)
    clear hba
    generalize (wc.alloc (.cells #[.int .i64 0, .int .i64 0, .int .i64 0, .int .i64 0, .int .i64 0, .int .i64 0, .int .i64 0, .int .i64 0] 23)).setRow wc.heap.size CS = W1 at hb1 hh1 ⊢
    have hc1 := HC.out W1 (HH.out.below hb1 HH.out.lt)
    have HB1 := Lib.hid (HB.out.trans (hb1.mono HB.out.size))
    obtain ⟨b1, hb1e⟩ : ∃ b1, wc.heap.size = b1 := ⟨_, rfl⟩
    rw [hb1e] at hh1 ⊢
    have HH1 := Lib.hid hh1
    have HC1 := Lib.hid (fun W (hb : Below W1.heap.size W1 W) k (hk : k < l.length) (hlt : b0 < W1.heap.size) => (hb.cell (p := ⟨b0, k, none⟩) hlt).trans (hc1 k hk))
    have hlt0 : b0 < W1.heap.size := Nat.lt_of_lt_of_le HH.out.lt hb1.size
    have HLT0 := Lib.hid hlt0
    clear hb1 hh1 hc1 hb1e HC HB HH hlt0
    obtain ⟨rr, hrr⟩ : ∃ rr, Pol.right l = rr := ⟨_, rfl⟩
    rw [hrr] at HRI HDE ⊢
    have HRR := Lib.hid hrr
    clear hrr
    refine wp_region_lit ?_
    refine wpList_polLoad (by rfl) (.tmp 9) rfl b1 CS ?e1 HH1.out HSZ.out ?_
    case e1 => rfl
    cases rr with
    | false =>
      go_wp2_with fail
      refine (HRI.out _).mono ?_
      rintro r w2 ⟨rfl, hb2⟩
      have HB2 := Lib.hid (HB1.out.trans (hb2.mono HB1.out.size))
      clear hb2
      go_wp2_with fail
      refine (HAW.out _).mono ?_
      rintro r w3 ⟨rfl, hb3⟩
      go_wp2_with fail
      go_ret
      exact ⟨rfl, HB2.out.trans (hb3.mono HB2.out.size)⟩
    | true =>
      go_wp2_with fail
      refine (HRI.out _).mono ?_
      rintro r w2 ⟨rfl, hb2⟩
      have HB2 := Lib.hid (HB1.out.trans (hb2.mono HB1.out.size))
      have HH2 := Lib.hid (HH1.out.below hb2 HH1.out.lt)
      have HC2 := Lib.hid (fun W (hb : Below w2.heap.size w2 W) k hk => HC1.out W (hb2.trans (hb.mono hb2.size)) k hk HLT0.out)
      have HD := Lib.hid (HDE.out trivial w2)
      clear hb2 HDE HRI HC1 HLT0 HB1 HH1
      go_wp2_with (refine wpList_polLoad (by rfl) (.tmp 9) rfl b1 CS ?e1 HH2.out HSZ.out ?_; (case e1 => rfl))
      refine HD.out.mono ?_
      rintro r w3 ⟨rfl, hb3⟩
      have HB3 := Lib.hid (HB2.out.trans (hb3.mono HB2.out.size))
      have HC3 := Lib.hid (HC2.out w3 hb3)
      clear hb3 HB2 HH2 HC2 HD
      obtain ⟨o, ho⟩ : ∃ o, Pol.dead l cls born = o := ⟨_, rfl⟩
      rw [ho]
      by_cases hin : 0 ≤ cls ∧ cls ≤ 7 ∧ 0 ≤ born ∧ born ≤ 1099511627776
      · obtain ⟨g0, g1, g2, g3⟩ := hin
        obtain ⟨k, rfl⟩ : ∃ k : Nat, cls = (k : Int) := ⟨cls.toNat, by omega⟩
        have hkl : k < l.length := by omega
        have hgd : l.getD k 0 = l[k] := by simp [hkl]
        have hc := HC3.out k hkl
        have hx := Pol.right_get HRR.out hkl
        have ho2 : o = if l[k] ≠ 0 then some (born + l[k]) else none := by
          rw [← ho]
          unfold Pol.dead
          rw [Int.toNat_natCast, hgd]
          simp [g0, g1, g2, g3]
        generalize l[k]'hkl = x at hc hx ho2
        obtain ⟨hx0, hx1⟩ := hx
        have hn1 : ¬ (k : Int) < 0 := by omega
        have hn2 : ¬ (7 : Int) < (k : Int) := by omega
        have hn3 : ¬ born < 0 := by omega
        have hn4 : ¬ (1099511627776 : Int) < born := by omega
        have hk8 : (k : Int) < 8 := by omega
        have hwr : IntKind.i64.wrap (born + x) = born + x := by rw [IntKind.wrap_i64]; omega
        clear ho hgd HC3 HRR HL hl
        by_cases hxz : x = 0
        · subst hxz
          rw [if_neg (by simp)] at ho2
          subst ho2
          simp only [deadR]
          go_wp2_with fail
          refine (HAW.out _).mono ?_
          rintro r w4 ⟨rfl, hb4⟩
          go_wp2_with fail
          go_ret
          exact ⟨rfl, HB3.out.trans (hb4.mono HB3.out.size)⟩
        · rw [if_pos hxz] at ho2
          subst ho2
          simp only [deadR]
          go_wp2_with fail
          refine (HAW.out _).mono ?_
          rintro r w4 ⟨rfl, hb4⟩
          go_wp2_with fail
          go_ret
          exact ⟨rfl, HB3.out.trans (hb4.mono HB3.out.size)⟩
      · have ho2 : o = none := by
          rw [← ho]
          unfold Pol.dead
          rw [if_neg (fun h => hin ⟨h.1, h.2.1, h.2.2.1, h.2.2.2.1⟩)]
        subst ho2
        simp only [deadR]
        clear ho HC3 HRR
        have hcase : cls < 0 ∨ (¬ cls < 0 ∧ 7 < cls) ∨ (¬ cls < 0 ∧ ¬ 7 < cls ∧ born < 0) ∨ (¬ cls < 0 ∧ ¬ 7 < cls ∧ ¬ born < 0 ∧ 1099511627776 < born) := by omega
        clear hin
        rcases hcase with h | ⟨h, h1⟩ | ⟨h, h1, h2⟩ | ⟨h, h1, h2, h3⟩
        all_goals
          go_wp2_with fail
          refine (HAW.out _).mono ?_
          rintro r w4 ⟨rfl, hb4⟩
          go_wp2_with fail
          go_ret
          exact ⟨rfl, HB3.out.trans (hb4.mono HB3.out.size)⟩
end Go.Proofs.Ytjmdpepghnhpkaa
