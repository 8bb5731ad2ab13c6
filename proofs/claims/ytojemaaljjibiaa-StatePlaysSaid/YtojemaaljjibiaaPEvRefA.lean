/-
  The reference's num, text, truth, word of the fourteenth layer.
-/
import Derived.Test.YtojemaaljjibiaaPStaThree
import Derived.Test.YtojemaaljjibiaaPStaOne
import Derived.Deep.QuietTactic
import Derived.Deep.LoopGhost
import Derived.Deep.RegionHeld3
import Derived.Deep.DeepCutAuto
import Derived.Deep.CutBlock
namespace Go.Proofs.Ytojemaaljjibiaa
open Go.RowKit
set_option linter.unusedVariables false

namespace Ev
/-- The signs of words. -/
def signs : List UInt8 := [97, 98, 99, 100, 101, 102, 103, 104, 105, 106, 107, 108, 109, 110, 111, 112, 113, 114, 115, 116, 117, 118, 119, 120, 121, 122, 65, 66, 67, 68, 69, 70].append [71, 72, 73, 74, 75, 76, 77, 78, 79, 80, 81, 82, 83, 84, 85, 86, 87, 88, 89, 90, 48, 49, 50, 51, 52, 53, 54, 55, 56, 57, 45, 95, 46]
theorem signs_len : signs.length = 65 := by decide +kernel
theorem signs_all : ∀ n : Fin 256, (UInt8.ofNat n.val ∈ signs) = (Pap.wch (UInt8.ofNat n.val) = true) := by
  have h : ∀ n : Fin 256, decide (UInt8.ofNat n.val ∈ signs) = Pap.wch (UInt8.ofNat n.val) := by decide +kernel
  intro n
  rw [← h n, decide_eq_true_iff]
theorem signs_wch (c : UInt8) : decide (c ∈ signs) = Pap.wch c := by
  have h := signs_all ⟨c.toNat, c.toNat_lt⟩
  have e : UInt8.ofNat c.toNat = c := UInt8.ofNat_toNat
  dsimp only at h
  rw [e] at h
  cases hw : Pap.wch c
  · rw [decide_eq_false_iff_not, h, hw]; decide
  · rw [decide_eq_true_iff, h, hw]
end Ev
set_option maxHeartbeats 4000000 in
theorem eword_any (l : List UInt8) (hb : l.length ≤ 1000000) (most : Nat) (w : World) :
    Calls Try.prog 50 #[.string (S l), .int .i64 (most : Int)] w fun r w' => r = .returned (.bool (Pap.word most l)) ∧ ∃ m, w' = w.drewN m := by
  have hW : Pap.word most l = (decide (0 < l.length ∧ l.length ≤ most) && l.all Pap.wch) := rfl
  have hno := fun k h hn => word_no (most := most) (l := l) k h hn
  generalize Pap.word most l = rr at hW hno
  have HW := Lib.hid hW; clear hW
  have HNO := Lib.hid hno; clear hno
  have HSL := Lib.hid Ev.signs_len
  have HSW := Lib.hid Ev.signs_wch
  go_enter Try.func50, Try.ntmps50
  have hsg : (⟨([97, 98, 99, 100, 101, 102, 103, 104, 105, 106, 107, 108, 109, 110, 111, 112, 113, 114, 115, 116, 117, 118, 119, 120, 121, 122, 65, 66, 67, 68, 69, 70].append [71, 72, 73, 74, 75, 76, 77, 78, 79, 80, 81, 82, 83, 84, 85, 86, 87, 88, 89, 90, 48, 49, 50, 51, 52, 53, 54, 55, 56, 57, 45, 95, 46]).toArray⟩ : ByteArray) = S Ev.signs := rfl
  rw [hsg]
  clear hsg
  generalize Ev.signs = sg at HSL HSW ⊢
  go_wp2_with fail
  go_loopg [6] l.length (fun n v6 wr => ∃ k : Nat, k + n = l.length ∧ v6 = .int .i64 (k : Int) ∧ Hid ((l.take k).all Pap.wch = true ∧ ∃ m, wr = w.drewN m))
  case atStart => exact ⟨0, Nat.zero_add _, rfl, Lib.hid ⟨by simp, 0, rfl⟩⟩
  case round =>
    obtain ⟨k, hkn, rfl, HK⟩ := hrel
    cases gk with
    | zero =>
      have hlt : ¬ (k : Int) < (l.length : Int) := by omega
      have hall : l.all Pap.wch = true := by
        have := HK.out.1
        rw [List.take_of_length_le (by omega)] at this
        exact this
      have hrr : rr = decide (0 < l.length ∧ l.length ≤ most) := by rw [HW.out, hall, Bool.and_true]
      have HWD := Lib.hid HK.out.2
      clear HK hkn HNO HSL HSW hall HW
      by_cases q1 : 0 < l.length
      · have q2 : (0 : Int) < (l.length : Int) := by omega
        by_cases q3 : l.length ≤ most
        · have q4 : (l.length : Int) ≤ (most : Int) := by omega
          rw [decide_eq_true ⟨q1, q3⟩] at hrr
          subst hrr
          clear q1 q3
          go_wp2_with fail
          go_ret
          exact ⟨rfl, HWD.out⟩
        · have q4 : ¬ (l.length : Int) ≤ (most : Int) := by omega
          rw [decide_eq_false (fun x => q3 x.2)] at hrr
          subst hrr
          clear q1 q3
          go_wp2_with fail
          go_ret
          exact ⟨rfl, HWD.out⟩
      · have q2 : ¬ (0 : Int) < (l.length : Int) := by omega
        rw [decide_eq_false (fun x => q1 x.1)] at hrr
        subst hrr
        clear q1
        go_wp2_with fail
        go_ret
        exact ⟨rfl, HWD.out⟩
    | succ n =>
      have hlt : (k : Int) < (l.length : Int) := by omega
      have hkl : k < l.length := by omega
      have hst := Lib.hid (all_take_succ l k hkl HK.out.1)
      have hne := Lib.hid (HNO.out k hkl)
      have hix := fun W => run_index_S (P := Try.prog) W l .i64 k Try.underlying9 hkl
      generalize l[k] = c at hix hst hne
      have HC := Lib.hid (HSW.out c)
      have hinc : IntKind.i64.wrap ((k : Int) + 1) = (k : Int) + 1 := by rw [IntKind.wrap_i64]; omega
      have HN := Lib.hid hkn
      have hsl : (sg.length : Int) = 65 := by rw [HSL.out]; rfl
      have HKD := Lib.hid HK.out.2
      clear hkn HNO HSW HW HK
      generalize wr = wo at HKD ⊢
      go_wp2_with fail
      go_loopg [7, 8] 65 (fun n v7 v8 wx => ∃ j : Nat, j + n = 65 ∧ v8 = .int .i64 (j : Int) ∧ (∃ u : Bool, v7 = .bool u ∧ Hid (u = decide (c ∈ sg.take j))) ∧ Hid (∃ m, wx = w.drewN m))
      case atStart => exact ⟨0, rfl, rfl, ⟨false, rfl, Lib.hid (by simp)⟩, HKD⟩
      case round =>
        obtain ⟨j, hjn, rfl, ⟨u, rfl, HU⟩, HD⟩ := hrel
        cases gk with
        | zero =>
          obtain rfl : j = 65 := by omega
          have hjl : ¬ ((65 : Nat) : Int) < (sg.length : Int) := by omega
          have hu : u = Pap.wch c := by
            have := HU.out
            rw [List.take_of_length_le (by rw [HSL.out]; exact Nat.le_refl _), HC.out] at this
            exact this
          clear HU hjn
          generalize Pap.wch c = d at hu hst hne HC
          subst hu
          cases u with
          | true =>
            go_wp2_with fail
            go_roundg n
            case measure => omega
            case rel => exact ⟨k + 1, by have := HN.out; omega, by go_num, Lib.hid ⟨hst.out, HD.out⟩⟩
          | false =>
            have hrr : rr = false := hne.out (by trivial)
            subst hrr
            go_wp2_with fail
            go_ret
            exact ⟨rfl, HD.out⟩
        | succ m =>
          have hjl : (j : Int) < (sg.length : Int) := by omega
          have hjs : j < sg.length := by omega
          have hiy := fun W => run_index_S (P := Try.prog) W sg .i64 j Try.underlying9 hjs
          have HT : Hid (sg.take (j + 1) = sg.take j ++ [sg[j]'hjs]) := Lib.hid (List.take_succ_eq_append_getElem hjs)
          generalize sg[j]'hjs = x at hiy HT
          have hincj : IntKind.i64.wrap ((j : Int) + 1) = (j : Int) + 1 := by rw [IntKind.wrap_i64]; omega
          have HJN := Lib.hid hjn
          clear hjn hst hne HC
          obtain ⟨m0, rfl⟩ := HD.out
          cases u with
          | true =>
            go_upto_region 9 with fail
            go_quiet (fail)
            go_wp2_with fail
            go_roundg m
            case measure => omega
            case rel => exact ⟨j + 1, by have := HJN.out; omega, by go_num, ⟨true, rfl, Lib.hid (by
              rw [HT.out]
              exact (decide_eq_true (List.mem_append_left _ (of_decide_eq_true HU.out.symm))).symm)⟩, Lib.hid ⟨m0 + nq, rfl⟩⟩
          | false =>
            by_cases hx : x = c
            · subst hx
              have hxx : ((x.toNat : Int) == (x.toNat : Int)) = true := by rw [beq_self_eq_true]
              go_upto_region 9 with fail
              go_quiet (fail)
              go_wp2_with fail
              go_roundg m
              case measure => omega
              case rel => exact ⟨j + 1, by have := HJN.out; omega, by go_num, ⟨true, rfl, Lib.hid (by
                rw [HT.out]
                exact (decide_eq_true (List.mem_append_right _ (List.mem_singleton.2 rfl))).symm)⟩, Lib.hid ⟨m0 + nq, rfl⟩⟩
            · have hx1 : ((x.toNat : Int) == (c.toNat : Int)) = false := by
                rw [beq_eq_false_iff_ne]
                exact fun e => hx (UInt8.toNat_inj.1 (by omega))
              have HX := Lib.hid hx
              go_upto_region 9 with fail
              go_quiet (fail)
              go_wp2_with fail
              go_roundg m
              case measure => omega
              case rel => exact ⟨j + 1, by have := HJN.out; omega, by go_num, ⟨false, rfl, Lib.hid (by
                rw [HT.out]
                refine (decide_eq_false (fun hmm => ?_)).symm
                rcases List.mem_append.1 hmm with hmm | hmm
                · exact of_decide_eq_false HU.out.symm hmm
                · exact HX.out (List.mem_singleton.1 hmm).symm)⟩, Lib.hid ⟨m0 + nq, rfl⟩⟩
end Go.Proofs.Ytojemaaljjibiaa
