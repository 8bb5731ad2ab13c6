/-
  Policy.Right and Policy.Deadline.
-/
import Derived.Test.YtjmdpepghnhpkaaPolSpec
import Derived.ChangeKeysEq
import Derived.Deep.LoopGhost
import Derived.Deep.QuietTactic
import Derived.Deep.DeepCutAuto
import Derived.Deep.CutBlock
namespace Go.Proofs.Ytjmdpepghnhpkaa
open Go.RowKit
set_option linter.unusedVariables false

theorem Pol.right_false {l : List Int} {k : Nat} (hk : k < l.length) (h : Pol.one l[k] = false) : Pol.right l = false := by
  cases hr : Pol.right l with
  | false => rfl
  | true =>
    have := List.all_eq_true.1 hr l[k] (List.getElem_mem hk)
    rw [h] at this; cases this
theorem polv_get {l : List Int} {k : Nat} (hk : k < l.length) : (polv l)[k]? = some (.int .i64 l[k]) := by simp [polv, hk]
theorem run_polIndex {cs : Array Value} {k : Nat} {x : Int} (hk : k < 8) (hc : cs[k]? = some (.int .i64 x)) (W : World) : (Instr.index 23 (.agg cs) (.int .i64 (k : Int))).run Try.prog W = .ok (.int .i64 x) W := by
  have hi : (0 : Int) ≤ (k : Int) ∧ (k : Int) < ((8 : Nat) : Int) := by omega
  obtain ⟨ti, hti⟩ : ∃ ti, Try.prog.info? 3 = some ti := Option.isSome_iff_exists.1 (by kernel_rfl)
  have hC : Try.prog.cellsOf 3 = 1 := by kernel_rfl
  have hp := run_part_plain (w := W) (P := Try.prog) (e := 3) (by kernel_rfl) hc
  have hs := run_sizeOf (w := W) hti
  rw [hC] at hs
  have e1 : asIntOf (.int .i64 (k : Int)) = pure (.i64, (k : Int)) := rfl
  unfold Instr.index
  rw [e1]
  simp only [Sem.run_bind, Sem.run_pure, Result.andThen_ok, run_underlying Try.underlying23 W, if_pos hi, hs, Nat.mul_one, Int.toNat_natCast, hp]
set_option maxRecDepth 100000 in
set_option maxHeartbeats 4000000 in
theorem polright_any {l : List Int} (hl : l.length = 8) (w : World) : Calls Try.prog 7 #[.agg (polv l)] w fun r w' => r = .returned (.bool (Pol.right l)) ∧ Below w.heap.size w w' := by
  have HL := Lib.hid hl
  have HG := Lib.hid (fun k (hk : k < l.length) => polv_get hk)
  have hh := Has.made w 23 (polv l)
  have hb0 : Below w.heap.size w (w.alloc (.cells (polv l) 23)) := (Below.refl _ w).alloc (Nat.le_refl _) _
  obtain ⟨CS, hcs⟩ : ∃ CS, polv l = CS := ⟨_, rfl⟩
  have HSZ := Lib.hid (show CS.size = 8 by rw [← hcs, polv_size, hl])
  rw [hcs] at HG hh hb0 ⊢
  clear hcs
  go_enter Try.func7, Try.ntmps7
  go_upto_region 1 with fail
  generalize w.alloc (.cells CS 23) = W0 at hh hb0 ⊢
  obtain ⟨b0, hq0⟩ : ∃ b0, w.heap.size = b0 := ⟨_, rfl⟩
  rw [hq0] at hh ⊢
  have HQ := Lib.hid hq0
  have HH := Lib.hid hh
  have HB := Lib.hid hb0
  clear hh hb0 hq0
  go_upto_block 0 with (refine wpList_polLoad (by rfl) (.tmp 1) rfl b0 CS ?e1 HH.out HSZ.out ?_; (case e1 => rfl))
  go_wp2_with fail
  go_loopg [6] 8 (fun n v6 wr => ∃ k : Nat, k + n = 8 ∧ v6 = .int .i64 (k : Int) ∧ Hid ((l.take k).all Pol.one = true) ∧ wr = W0)
  case atStart => exact ⟨0, rfl, rfl, Lib.hid rfl, rfl⟩
  case round =>
    obtain ⟨k, hkn, rfl, HA, rfl⟩ := hrel
    cases gk with
    | zero =>
      have hk : ¬ (k : Int) < 8 := by omega
      have hr : Pol.right l = true := by
        have := HA.out
        rwa [List.take_of_length_le (by have := HL.out; omega)] at this
      have HR := Lib.hid hr
      clear hr
      go_wp2_with fail
      go_ret
      exact ⟨by rw [HR.out]; rfl, HB.out⟩
    | succ n =>
      have hk : (k : Int) < 8 := by omega
      have hk0 : (0 : Int) ≤ (k : Int) := by omega
      have hkl : k < l.length := by have := HL.out; omega
      have hinc : IntKind.i64.wrap ((k : Int) + 1) = (k : Int) + 1 := by rw [IntKind.wrap_i64]; omega
      have hst := Pol.take_step hkl
      have hc := HG.out k hkl
      have HF := Lib.hid (fun h => Pol.right_false hkl h)
      generalize l[k]'hkl = x at hst hc HF
      have hix := run_polIndex (by omega) hc
      clear hc
      rw [HA.out] at hst
      have HST := Lib.hid hst
      clear hst
      by_cases h0 : x < 0
      · have hf := HF.out (by unfold Pol.one; simp; omega)
        have HR := Lib.hid hf
        clear hf
        go_wp2_with fail
        go_ret
        exact ⟨by rw [HR.out]; rfl, HB.out⟩
      · by_cases h1 : 1073741824 < x
        · have hf := HF.out (by unfold Pol.one; simp; omega)
          have HR := Lib.hid hf
          clear hf
          go_wp2_with fail
          go_ret
          exact ⟨by rw [HR.out]; rfl, HB.out⟩
        · have HP : Hid (Pol.one x = true) := Lib.hid (by unfold Pol.one; simp; omega)
          go_wp2_with fail
          go_roundg n
          case measure => omega
          case rel => exact ⟨k + 1, by omega, by go_num, Lib.hid (by rw [HST.out, HP.out]; rfl), rfl⟩
set_option maxRecDepth 100000 in
set_option maxHeartbeats 4000000 in
theorem poldead_any {l : List Int} (hl : l.length = 8) (hr : Pol.right l = true) (cls born : Int) (w : World) : Calls Try.prog 9 #[.agg (polv l), .int .i64 cls, .int .i64 born] w fun r w' => r = .returned (deadR (Pol.dead l cls born)) ∧ Below w.heap.size w w' := by
  have hh := Has.made w 23 (polv l)
  have hb0 : Below w.heap.size w (w.alloc (.cells (polv l) 23)) := (Below.refl _ w).alloc (Nat.le_refl _) _
  have HC := Lib.hid (fun k (hk : k < l.length) => polv_cell hh hk)
  obtain ⟨CS, hcs⟩ : ∃ CS, polv l = CS := ⟨_, rfl⟩
  rw [hcs] at HC hh hb0 ⊢
  clear hcs hh
  obtain ⟨o, ho⟩ : ∃ o, Pol.dead l cls born = o := ⟨_, rfl⟩
  rw [ho]
  by_cases hin : 0 ≤ cls ∧ cls ≤ 7 ∧ 0 ≤ born ∧ born ≤ 1099511627776
  · obtain ⟨g0, g1, g2, g3⟩ := hin
    obtain ⟨k, rfl⟩ : ∃ k : Nat, cls = (k : Int) := ⟨cls.toNat, by omega⟩
    have hkl : k < l.length := by omega
    have hgd : l.getD k 0 = l[k] := by simp [hkl]
    have hc := HC.out k hkl
    have hx := Pol.right_get hr hkl
    have ho2 : o = if l[k] ≠ 0 then some (born + l[k]) else none := by
      rw [← ho]
      unfold Pol.dead
      rw [Int.toNat_natCast, hgd]
      simp [g0, g1, g2, g3]
    generalize l[k]'hkl = x at hc hx ho2
    obtain ⟨hx0, hx1⟩ := hx
    have hn1 : ¬ (k : Int) < 0 := by omega
    have hn2 : (k : Int) < 8 := by omega
    have hn2' : ¬ (8 : Int) ≤ (k : Int) := by omega
    have hn3 : ¬ born < 0 := by omega
    have hn4 : ¬ (1099511627776 : Int) < born := by omega
    have hwr : IntKind.i64.wrap (born + x) = born + x := by rw [IntKind.wrap_i64]; omega
    clear ho hgd HC hr hl
    by_cases hxz : x = 0
    · subst hxz
      rw [if_neg (by simp)] at ho2
      subst ho2
      simp only [deadR]
      go_enter Try.func9, Try.ntmps9
      go_wp2_with fail
      go_ret2
      exact ⟨rfl, hb0⟩
    · rw [if_pos hxz] at ho2
      subst ho2
      have hx3 : ¬ x < 1 := by omega
      simp only [deadR]
      go_enter Try.func9, Try.ntmps9
      go_wp2_with fail
      go_ret2
      exact ⟨rfl, hb0⟩
  · have ho2 : o = none := by
      rw [← ho]
      unfold Pol.dead
      rw [if_neg (fun h => hin ⟨h.1, h.2.1, h.2.2.1, h.2.2.2.1⟩)]
    subst ho2
    simp only [deadR]
    by_cases h : cls < 0
    · go_enter Try.func9, Try.ntmps9
      go_wp2_with fail
      go_ret2
      exact ⟨rfl, hb0⟩
    · by_cases h7 : 8 ≤ cls
      · go_enter Try.func9, Try.ntmps9
        go_wp2_with fail
        go_ret2
        exact ⟨rfl, hb0⟩
      · obtain ⟨k, rfl⟩ : ∃ k : Nat, cls = (k : Int) := ⟨cls.toNat, by omega⟩
        have hkl : k < l.length := by omega
        have hc := HC.out k hkl
        generalize l[k]'hkl = x at hc
        have hn2 : (k : Int) < 8 := by omega
        clear ho HC hr hl
        by_cases hx : x < 1
        · go_enter Try.func9, Try.ntmps9
          go_wp2_with fail
          go_ret2
          exact ⟨rfl, hb0⟩
        · by_cases hb : born < 0
          · go_enter Try.func9, Try.ntmps9
            go_wp2_with fail
            go_ret2
            exact ⟨rfl, hb0⟩
          · have hb2 : (1099511627776 : Int) < born := by omega
            go_enter Try.func9, Try.ntmps9
            go_wp2_with fail
            go_ret2
            exact ⟨rfl, hb0⟩
end Go.Proofs.Ytjmdpepghnhpkaa
