/-
  What is read of a sector's bytes: guard's parts.
-/
import Derived.Test.YthadcmbbdggneaaGreatDoorGrdA
import Derived.Deep.RegionWith
import Derived.Deep.RegionHeld3
import Derived.Deep.Draws
import Derived.WalkSmall
import Derived.OwnWalk
import Derived.Deep.DeepCutAuto
import Derived.Deep.CutBlock
import Derived.Deep.QuietTactic
namespace Go.Proofs.YthadcmbbdggneaaGreatDoor
open Go.RowKit
set_option linter.unusedVariables false

namespace Grd
/-- What parts answers of 64 bytes. -/
def partsV (b : T) : T × Int × Bool := if isG b = true then ((b.drop 9).take (b.getD 8 0).toNat, (num8 (b.take 8) : Int), true) else ([], 0, false)
/-- How parts finds it out, step by step. -/
def partsW (b : T) : T × Int × Bool :=
  if b.take 8 ≠ b.drop 56 ∨ numI (b.take 8) < 4294967296 ∨ 47 < (b.getD 8 0).toNat then ([], 0, false)
  else if isZ ((b.take 56).drop (9 + (b.getD 8 0).toNat)) = false then ([], 0, false)
  else ((b.take (9 + (b.getD 8 0).toNat)).drop 9, numI (b.take 8), true)
theorem num8_lt (b : T) : num8 b < 256 ^ b.length := by
  induction b with
  | nil => simp [num8]
  | cons c r ih =>
    have h := fold_acc r c.toNat
    have e : num8 (c :: r) = c.toNat * 256 ^ r.length + num8 r := by
      unfold num8
      rw [List.foldl_cons, Nat.zero_mul, Nat.zero_add]
      exact h
    rw [e, List.length_cons, Nat.pow_succ]
    have hc := c.toNat_lt
    have h2 : (c.toNat + 1) * 256 ^ r.length ≤ 256 * 256 ^ r.length := Nat.mul_le_mul_right _ (by omega)
    rw [Nat.add_mul] at h2
    omega
theorem num8_take8 (b : T) : num8 (b.take 8) < 18446744073709551616 := by
  have h := num8_lt (b.take 8)
  have h2 : 256 ^ (b.take 8).length ≤ 256 ^ 8 := Nat.pow_le_pow_right (by decide) (by rw [List.length_take]; omega)
  omega
theorem parts_eq (b : T) (h : b.length = 64) : partsW b = partsV b := by
  have hn := num8_take8 b
  unfold partsW partsV
  generalize hc : (b.getD 8 0).toNat = c
  by_cases h1 : b.take 8 = b.drop 56
  · by_cases h2 : numI (b.take 8) < 4294967296
    · rw [if_pos (Or.inr (Or.inl h2)), if_neg]
      intro hg
      unfold isG at hg
      simp only [Bool.and_eq_true, decide_eq_true_eq] at hg
      have h3 := numI_nat (l := b.take 8) hg.2
      have := hg.1.2
      omega
    · by_cases h4 : 47 < c
      · rw [if_pos (Or.inr (Or.inr h4)), if_neg]
        intro hg
        unfold isG at hg
        simp only [Bool.and_eq_true, decide_eq_true_eq] at hg
        have := hg.1.1.1.2
        omega
      · rw [if_neg (by rintro (e | e | e); exact e h1; exact h2 e; exact h4 e)]
        have h5 : num8 (b.take 8) < 9223372036854775808 := by
          unfold numI W at h2
          rw [IntKind.wrap_i64] at h2
          omega
        have h6 := numI_nat h5
        have h7 : (b.take 56).drop (9 + c) = (b.drop (9 + c)).take (47 - c) := by
          rw [List.drop_take]
          congr 1
          omega
        have h8 : ((b.drop (9 + c)).take (47 - c)).length = 47 - c := by
          rw [List.length_take, List.length_drop]
          omega
        rw [h7]
        have h9 : isZ ((b.drop (9 + c)).take (47 - c)) = decide ((b.drop (9 + c)).take (47 - c) = zeros (47 - c)) := by
          unfold isZ zeros
          rw [h8]
        rw [h9]
        by_cases h10 : (b.drop (9 + c)).take (47 - c) = zeros (47 - c)
        · rw [decide_eq_true h10, if_neg (by decide), if_pos, h6]
          · rw [List.drop_take]
            congr 2
            omega
          · unfold isG
            rw [hc]
            simp only [Bool.and_eq_true, decide_eq_true_eq]
            refine ⟨⟨⟨⟨⟨h, h1⟩, by omega⟩, h10⟩, by omega⟩, h5⟩
        · rw [decide_eq_false h10, if_pos rfl, if_neg]
          intro hg
          unfold isG at hg
          rw [hc] at hg
          simp only [Bool.and_eq_true, decide_eq_true_eq] at hg
          exact h10 hg.1.1.2
  · rw [if_pos (Or.inl h1), if_neg]
    intro hg
    unfold isG at hg
    simp only [Bool.and_eq_true, decide_eq_true_eq] at hg
    exact h1 hg.1.1.1.1.2
end Grd
def PartsPost (w : World) (v : List UInt8 × Int × Bool) (e : Ending) (w' : World) : Prop := e = .returned (.tuple #[.string (S v.1), .int .i64 v.2.1, .bool v.2.2]) ∧ Below w.heap.size w w'
set_option maxRecDepth 100000 in
set_option maxHeartbeats 1000000 in
theorem parts_any (hzer : ∀ (l : List UInt8) (w : World), l.length ≤ 1000 → Calls Tryz.prog 72 #[.string (S l)] w fun e w' => e = .returned (.bool (isZ l)) ∧ Below w.heap.size w w')
    (b : List UInt8) (hb : b.length = 64) (w : World) : Calls Tryz.prog 73 #[.string (S b)] w (PartsPost w (Grd.partsV b)) := by
  rw [← Grd.parts_eq b hb]
  have HN := Lib.hid (fun W => number_any (b.take 8) (by rw [List.length_take]; omega) W)
  have HZ : Hid _ := hzer
  clear hzer
  have h8 : b.getD 8 0 = b[8]'(by omega) := by rw [List.getD_eq_getElem?_getD, List.getElem?_eq_getElem (by omega), Option.getD_some]
  unfold PartsPost
  have hW : Grd.partsW b = if b.take 8 ≠ b.drop 56 ∨ Grd.numI (b.take 8) < 4294967296 ∨ 47 < (b.getD 8 0).toNat then ([], 0, false)
    else if isZ ((b.take 56).drop (9 + (b.getD 8 0).toNat)) = false then ([], 0, false)
    else ((b.take (9 + (b.getD 8 0).toNat)).drop 9, Grd.numI (b.take 8), true) := rfl
  generalize Grd.partsW b = res at hW ⊢
  rw [h8] at hW
  have hix : ∀ W, (Instr.index 9 (.string (S b)) (.int .i64 8)).run Tryz.prog W = .ok (.int .u8 ((b[8]'(by omega)).toNat : Int)) W := fun W => run_index_S W b .i64 8 Tryz.underlying9 (by omega)
  generalize b[8]'(by omega) = c at hW hix
  generalize Grd.numI (b.take 8) = st at hW HN
  have HW := Lib.hid hW
  clear hW h8
  go_enter Tryz.func73, Tryz.ntmps73
  go_upto_region 1 with fail
  have hz1 : (64 : Int) ≤ (b.length : Int) := by omega
  have hz2 : (b.length : Int) ≤ 64 := by omega
  have hz3 : (8 : Int) ≤ (b.length : Int) := by omega
  have hz4 : (56 : Int) ≤ (b.length : Int) := by omega
  have HLEN := Lib.hid hb
  clear hb
  have hwr : IntKind.i64.wrap (c.toNat : Int) = (c.toNat : Int) := by have := c.toNat_lt; rw [IntKind.wrap_i64]; omega
  have hb0 : Below w.heap.size w w.drew := (Below.refl _ w).drew
  go_region_held3 (fun w' => True) (first | trivial | exact True.intro) ((go_at_call 92; refine (HN.out _).mono ?_; rintro r w1 ⟨rfl, hb1⟩; have hb0 := hb0.trans hb1; clear hb1))
  all_goals (
    clear hwr hix hz1 HN
    have HB := Lib.hid hb0
    clear hb0
    by_cases e1 : b.take 8 = b.drop 56
    · have q1 : (b.take 8 == b.drop 56) = true := by rw [beq_iff_eq]; exact e1
      by_cases e2 : st < 4294967296
      · have hR : res = ([], 0, false) := by rw [HW.out, if_pos (Or.inr (Or.inl e2))]
        subst hR
        clear e1 HW
        go_upto_region 2 with fail
        go_quiet (fail)
        go_wp2_with fail
        go_ret3
        exact ⟨rfl, below_drewN HB.out _⟩
      · by_cases e3 : 47 < c.toNat
        · have hR : res = ([], 0, false) := by rw [HW.out, if_pos (Or.inr (Or.inr e3))]
          subst hR
          have e3' : (47 : Int) < (c.toNat : Int) := by omega
          clear e1 e3 HW
          go_upto_region 2 with fail
          go_quiet (fail)
          go_wp2_with fail
          go_ret3
          exact ⟨rfl, below_drewN HB.out _⟩
        · have e3' : ¬ (47 : Int) < (c.toNat : Int) := by omega
          have hR : res = if isZ ((b.take 56).drop (9 + c.toNat)) = false then ([], 0, false) else ((b.take (9 + c.toNat)).drop 9, st, true) := by
            rw [HW.out, if_neg (by rintro (h | h | h); exact h e1; exact e2 h; exact e3 h)]
          clear e1 HW
          have HR := Lib.hid hR
          clear hR
          go_upto_region 2 with fail
          go_quiet (fail)
          have hlen : (((b.take 56).drop (9 + c.toNat)).length : Nat) ≤ 1000 := by rw [List.length_drop, List.length_take]; omega
          have HZ2 := Lib.hid (fun W => HZ.out ((b.take 56).drop (9 + c.toNat)) W hlen)
          clear hlen
          generalize isZ ((b.take 56).drop (9 + c.toNat)) = z at HR HZ2
          go_wp2_with fail
          refine (HZ2.out _).mono ?_
          rintro r w2 ⟨rfl, hb2⟩
          have HB2 := Lib.hid ((below_drewN HB.out nq).trans (hb2.mono (below_drewN HB.out nq).size))
          clear hb2
          cases z
          · have hR := HR.out
            rw [if_pos rfl] at hR
            subst hR
            go_wp2_with fail
            go_ret3
            exact ⟨rfl, HB2.out⟩
          · have hR := HR.out
            rw [if_neg (by decide)] at hR
            subst hR
            go_wp2_with fail
            go_ret3
            exact ⟨rfl, HB2.out⟩
    · have q1 : (b.take 8 == b.drop 56) = false := by rw [beq_eq_false_iff_ne]; exact e1
      have hR : res = ([], 0, false) := by rw [HW.out, if_pos (Or.inl e1)]
      subst hR
      clear e1 HW
      go_upto_region 2 with fail
      go_quiet (fail)
      go_wp2_with fail
      go_ret3
      exact ⟨rfl, below_drewN HB.out _⟩)
end Go.Proofs.YthadcmbbdggneaaGreatDoor
