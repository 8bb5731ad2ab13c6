/-
  The contracts of paper's isWord, IsID, IsName.
-/
import Derived.Test.YtfcmkbeilpclmaaPapWord
import Derived.Test.YtfcmkbeilpclmaaNum
namespace Go.Proofs.Ytfcmkbeilpclmaa
open Go.RowKit
set_option linter.unusedVariables false

set_option maxHeartbeats 1000000 in
theorem wch_any (c : UInt8) (w : World) :
    Calls Try.prog 70 #[.int .u8 (c.toNat : Int)] w fun r w' => r = .returned (.bool (Pap.wch c)) ∧ w = w' := by
  have hR : Pap.wch c = decide ((97 ≤ c.toNat ∧ c.toNat ≤ 122) ∨ (65 ≤ c.toNat ∧ c.toNat ≤ 90) ∨ (48 ≤ c.toNat ∧ c.toNat ≤ 57) ∨ c.toNat = 45 ∨ c.toNat = 95 ∨ c.toNat = 46) := rfl
  have hlt := c.toNat_lt
  generalize Pap.wch c = rr at hR
  generalize c.toNat = n at hR hlt
  have HR := Lib.hid hR; clear hR
  go_enter Try.func70, Try.ntmps70
  go_wp2_with fail
  all_goals go_ret
  all_goals refine ⟨ret_bool ?_, rfl⟩
  all_goals rw [HR.out]
  all_goals first
    | (symm; rw [decide_eq_true_iff]; omega)
    | (symm; rw [decide_eq_false_iff_not]; omega)
    | (rw [decide_eq_decide]; omega)
    | (rw [Bool.eq_iff_iff, decide_eq_true_iff]; simp only [Bool.or_eq_true, beq_iff_eq]; omega)

theorem all_take_succ (l : List UInt8) (k : Nat) (h : k < l.length) (ha : (l.take k).all Pap.wch = true) : (l.take (k + 1)).all Pap.wch = Pap.wch l[k] := by
  rw [List.take_succ_eq_append_getElem h, List.all_append, ha]
  simp
theorem word_no {most : Nat} {l : List UInt8} (k : Nat) (h : k < l.length) (hn : Pap.wch l[k] = false) : Pap.word most l = false := by
  unfold Pap.word
  have : l.all Pap.wch = false := by
    rw [Bool.eq_false_iff]
    intro hc
    rw [List.all_eq_true] at hc
    have := hc l[k] (List.getElem_mem h)
    rw [hn] at this
    cases this
  rw [this, Bool.and_false]

set_option maxHeartbeats 1000000 in
theorem isWord_any (l : List UInt8) (hb : l.length ≤ 1000000) (most : Nat) (w : World) :
    Calls Try.prog 56 #[.string (S l), .int .i64 (most : Int)] w fun r w' => r = .returned (.bool (Pap.word most l)) ∧ w = w' := by
  by_cases hl : 0 < l.length ∧ l.length ≤ most
  · have h0 : ((l.length : Int) == 0) = false := by simpa using (show l.length ≠ 0 by omega)
    have h1 : ¬ (most : Int) < (l.length : Int) := by omega
    have hW : Pap.word most l = l.all Pap.wch := by unfold Pap.word; rw [decide_eq_true hl, Bool.true_and]
    have hno := fun k h hn => word_no (most := most) (l := l) k h hn
    generalize Pap.word most l = rr at hW hno
    have HW := Lib.hid hW; clear hW
    have HNO := Lib.hid hno; clear hno
    go_enter Try.func56, Try.ntmps56
    go_wp2_with fail
    go_loopw [17] (fun v17 wr => ∃ k : Nat, k ≤ l.length ∧ v17 = .int .i64 (k : Int) ∧ (l.take k).all Pap.wch = true ∧ wr = w) (fun v17 _ => l.length - (intOf v17).toNat)
    case atStart => exact ⟨0, Nat.zero_le _, rfl, by simp, rfl⟩
    case round =>
      obtain ⟨k, hk, rfl, hall, rfl⟩ := hrel
      have HALL := Lib.hid hall; clear hall
      by_cases hlt : k < l.length
      · have hix := fun W => run_index_S (P := Try.prog) W l .i64 k Try.underlying9 hlt
        have hki : (k : Int) < (l.length : Int) := by omega
        have hst := all_take_succ l k hlt HALL.out
        have hX := fun W => wch_any l[k] W
        have hne := HNO.out k hlt
        generalize l[k] = c at hix hst hX hne
        have HX := Lib.hid hX; clear hX
        cases hw : Pap.wch c
        · have HF := Lib.hid (hne hw); clear hne hst
          rw [hw] at HX
          clear hw
          go_wp2_with fail
          refine (HX.out _).mono ?_
          rintro r w1 ⟨rfl, rfl⟩
          go_wp2_with fail
          go_ret
          exact ⟨ret_bool HF.out.symm, rfl⟩
        · rw [hw] at HX hst
          have HST := Lib.hid hst; clear hst hne hw
          go_wp2_with fail
          refine (HX.out _).mono ?_
          rintro r w1 ⟨rfl, rfl⟩
          go_wp2_with fail
          refine ⟨⟨k + 1, by omega, by go_num, HST.out, trivial⟩, ?_⟩
          simp only [intOf]
          omega
      · obtain rfl : k = l.length := by omega
        have hf := HALL.out
        rw [List.take_length] at hf
        have HF := Lib.hid (HW.out.trans hf); clear hf HALL
        go_wp2_with fail
        go_ret
        exact ⟨ret_bool HF.out.symm, rfl⟩
  · have hW : Pap.word most l = false := by unfold Pap.word; rw [decide_eq_false hl, Bool.false_and]
    rw [hW]
    clear hW
    by_cases h0 : l.length = 0
    · have h0' : ((l.length : Int) == 0) = true := by simpa using h0
      clear hl h0
      go_enter Try.func56, Try.ntmps56
      go_wp2_with fail
      go_ret
      exact ⟨rfl, rfl⟩
    · have h0' : ((l.length : Int) == 0) = false := by simpa using h0
      have h1 : (most : Int) < (l.length : Int) := by omega
      clear hl h0
      go_enter Try.func56, Try.ntmps56
      go_wp2_with fail
      go_ret
      exact ⟨rfl, rfl⟩

theorem isName_any (l : List UInt8) (hb : l.length ≤ 1000000) (w : World) :
    Calls Try.prog 30 #[.string (S l)] w fun r w' => r = .returned (.bool (Pap.word 16 l)) ∧ w = w' := by
  have hX := fun W => isWord_any l hb 16 W
  have HX := Lib.hid hX; clear hX
  generalize Pap.word 16 l = rr at HX ⊢
  go_enter Try.func30, Try.ntmps30
  go_wp2_with fail
  refine (HX.out _).mono ?_
  rintro r w1 ⟨rfl, rfl⟩
  go_wp2_with fail
  go_ret
  exact ⟨rfl, rfl⟩

end Go.Proofs.Ytfcmkbeilpclmaa
