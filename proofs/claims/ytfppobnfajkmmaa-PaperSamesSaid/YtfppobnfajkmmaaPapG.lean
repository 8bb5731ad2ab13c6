/-
  The contract of the statements' own same.
-/
import Derived.Test.YtfppobnfajkmmaaPapC
import Derived.Deep.QuietTactic
import Derived.BigQuiet
namespace Go.Proofs.Ytfppobnfajkmmaa
open Go.RowKit Go.Lib
set_option linter.unusedVariables false

theorem ffields : Try.prog.underlying 40 = some (.struct (Try.prog.fieldsOf 40)) := by kernel_rfl
theorem fstood : Try.prog.stoodInHeld 40 = false := by kernel_rfl
theorem fguard : Try.prog.eqGuardType Try.prog.depth 40 = false := by kernel_rfl
/-- Two fields are one just where their names and values are. -/
theorem run_feq (x y : Fld) (W : World) : (binOp .eql 40 x.v y.v).run Try.prog W = .ok (.bool (decide (x = y))) W := by
  obtain ⟨n, k, f, i, b, t⟩ := x
  obtain ⟨n', k', f', i', b', t'⟩ := y
  rw [Fld.v_eq, Fld.v_eq, run_eql_struct, run_equalIn_agg W 9999 _ _ _ ffields fstood]
  dsimp only
  have h1 : ((b : Int) == (b' : Int)) = (b == b') := by
    rw [Bool.eq_iff_iff]; simp only [beq_iff_eq]; omega
  simp [go_sem, vfields, vstood, Try.underlying38, Try.underlying3, Try.underlying4, Try.underlying2, Try.underlying36, Try.underlying9, h1]
  by_cases e0 : n = n' <;> by_cases e1 : k = k' <;> by_cases e2 : f = f' <;> by_cases e3 : i = i' <;> by_cases e4 : b = b' <;> by_cases e5 : t = t' <;> simp [e0, e1, e2, e3, e4, e5]
theorem run_fneq (x y : Fld) (W : World) : (binOp .neq 40 x.v y.v).run Try.prog W = .ok (.bool (!decide (x = y))) W := by
  have h := run_feq x y W
  obtain ⟨n, x⟩ := x
  obtain ⟨n', y⟩ := y
  rw [Fld.v_eq, Fld.v_eq, run_eql_struct] at h
  rw [Fld.v_eq, Fld.v_eq, run_neq_struct]
  generalize (Op.equalIn 10000 _ _ _).run _ _ = R at h ⊢
  cases R with
  | ok a w => simp [Result.andThen] at h ⊢; obtain ⟨h1, h2⟩ := h; exact ⟨by rw [h1], h2⟩
  | _ => simp [Result.andThen] at h
theorem run_fguard (op : BinOp) (o1 o2 : Operand) (x y : Fld) (W : World) : (eqGuard op 40 o1 o2 x.v y.v).run Try.prog W = .ok () W := run_eqGuard_agg W op _ o1 o2 _ _ fguard

namespace Pap
def same (id1 : List UInt8) (c1 : Int) (L1 : List Fld) (id2 : List UInt8) (c2 : Int) (L2 : List Fld) : Bool := decide (id1 = id2 ∧ c1 = c2 ∧ L1 = L2)
end Pap

set_option maxHeartbeats 4000000 in
set_option maxRecDepth 100000 in
theorem lsame_any (id1 : List UInt8) (c1 : Int) (L1 : List Fld) (id2 : List UInt8) (c2 : Int) (L2 : List Fld) (b1 b2 cap1 cap2 : Nat) (A1 A2 : Option Addr) (w : World) (hF1 : FSl w b1 A1 L1) (hF2 : FSl w b2 A2 L2) (hL1 : L1.length ≤ 1000000) (hL2 : L2.length ≤ 1000000) :
    Calls Try.prog 7 #[.agg #[.string (S id1), .int .i64 c1, .slice A1 L1.length cap1], .agg #[.string (S id2), .int .i64 c2, .slice A2 L2.length cap2]] w fun r w' => r = .returned (.bool (Pap.same id1 c1 L1 id2 c2 L2)) ∧ Below w.heap.size w w' := by
  have hE : Pap.same id1 c1 L1 id2 c2 L2 = decide (id1 = id2 ∧ c1 = c2 ∧ L1 = L2) := rfl
  generalize Pap.same id1 c1 L1 id2 c2 L2 = res at hE ⊢
  have HE := Lib.hid hE; clear hE
  have hu := up2 (w := w) (.cells #[.string (S id1), .int .i64 c1, .slice A1 L1.length cap1] 24) (.cells #[.string (S id2), .int .i64 c2, .slice A2 L2.length cap2] 24)
  have HU := Lib.hid hu; clear hu
  cases h1 : id1 == id2
  · have hr : res = false := by rw [HE.out, decide_eq_false_iff_not]; rintro ⟨h, -⟩; rw [h] at h1; simp at h1
    subst hr
    clear HE hF1 hF2
    go_enter Try.func7, Try.ntmps7
    go_wp2_with fail
    go_ret
    exact ⟨rfl, HU.out⟩
  have HID := Lib.hid (beq_iff_eq.1 h1)
  by_cases h2 : c1 = c2
  rotate_left
  · have hr : res = false := by rw [HE.out, decide_eq_false_iff_not]; rintro ⟨-, h, -⟩; exact h2 h
    have h2b : (c1 == c2) = false := by simpa using h2
    have h2c : (c1 != c2) = true := by simpa using h2
    subst hr
    clear HE hF1 hF2 h2
    go_enter Try.func7, Try.ntmps7
    go_wp2_with fail
    go_ret
    exact ⟨rfl, HU.out⟩
  subst h2
  by_cases h3 : L1.length = L2.length
  rotate_left
  · have hr : res = false := by rw [HE.out, decide_eq_false_iff_not]; rintro ⟨-, -, h⟩; rw [h] at h3; exact h3 rfl
    have h3b : ((L1.length : Int) == (L2.length : Int)) = false := by rw [beq_eq_false_iff_ne]; omega
    have h3c : ((L1.length : Int) != (L2.length : Int)) = true := by rw [bne_iff_ne]; omega
    subst hr
    clear HE hF1 hF2 h3
    go_enter Try.func7, Try.ntmps7
    go_wp2_with fail
    go_ret
    exact ⟨rfl, HU.out⟩
  have HLL := Lib.hid h3
  have HF1 := Lib.hid hF1; clear hF1
  have HF2 := Lib.hid hF2; clear hF2
  have hH1 : Has ((w.alloc (.cells #[.string (S id1), .int .i64 c1, .slice A1 L1.length cap1] 24)).alloc (.cells #[.string (S id2), .int .i64 c1, .slice A2 L1.length cap2] 24)) w.heap.size 24 #[.string (S id1), .int .i64 c1, .slice A1 L1.length cap1] := (Has.made w _ _).of_alloc _
  have hH2 : Has ((w.alloc (.cells #[.string (S id1), .int .i64 c1, .slice A1 L1.length cap1] 24)).alloc (.cells #[.string (S id2), .int .i64 c1, .slice A2 L1.length cap2] 24)) (w.heap.size + 1) 24 #[.string (S id2), .int .i64 c1, .slice A2 L1.length cap2] := has_new _ _ _ _
  have hu2 := up2 (w := w) (.cells #[.string (S id1), .int .i64 c1, .slice A1 L1.length cap1] 24) (.cells #[.string (S id2), .int .i64 c1, .slice A2 L1.length cap2] 24)
  have hG1 := HF1.out.below hu2 (Nat.le_refl _)
  have hG2 := HF2.out.below hu2 (Nat.le_refl _)
  have HW := Lib.hid (And.intro hH1 (And.intro hH2 (And.intro hu2 (And.intro hG1 hG2)))); clear hH1 hH2 hu2 hG1 hG2 HU HF1 HF2
  rw [← h3]
  clear h3
  go_enter Try.func7, Try.ntmps7
  go_wp2_with fail
  generalize ((w.alloc (.cells #[.string (S id1), .int .i64 c1, .slice A1 L1.length cap1] 24)).alloc (.cells #[.string (S id2), .int .i64 c1, .slice A2 L1.length cap2] 24)) = W0 at HW ⊢
  have HC : Hid (∀ W : World, W.heap = W0.heap → (W.cell? ⟨w.heap.size, 2, none⟩ = some (.slice A1 L1.length cap1) ∧ W.cell? ⟨w.heap.size + 1, 2, none⟩ = some (.slice A2 L1.length cap2)) ∧ FSl W b1 A1 L1 ∧ FSl W b2 A2 L2) := fun W hW =>
    ⟨⟨(show Has W _ _ _ by unfold Has; rw [hW]; exact HW.out.1).cell 2, (show Has W _ _ _ by unfold Has; rw [hW]; exact HW.out.2.1).cell 2⟩, HW.out.2.2.2.1.keep (by rw [hW]; exact Nat.le_refl _) (by rw [hW]), HW.out.2.2.2.2.keep (by rw [hW]; exact Nat.le_refl _) (by rw [hW])⟩
  go_loopg [5] L1.length (fun g1 v5 wr => ∃ k n : Nat, k ≤ L1.length ∧ v5 = .int .i64 (k : Int) ∧ L1.length - k ≤ g1 ∧ Hid (L1.take k = L2.take k) ∧ wr = W0.drewN n)
  case atStart => exact ⟨0, 0, Nat.zero_le _, rfl, by omega, by show _ = _; simp, rfl⟩
  case round =>
    obtain ⟨k, m, hk, rfl, hg, HALL, rfl⟩ := hrel
    obtain ⟨⟨p1, p2⟩, hf1, hf2⟩ := HC.out W0 rfl
    by_cases hlt : k < L1.length
    · have hki : (k : Int) < (L1.length : Int) := by omega
      have hlt2 : k < L2.length := by rw [← HLL.out]; exact hlt
      obtain ⟨off1, hA1, hbl1, hfat1⟩ := hf1 (by intro hc; rw [hc] at hlt; cases hlt)
      obtain ⟨off2, hA2, hbl2, hfat2⟩ := hf2 (by intro hc; rw [hc] at hlt2; cases hlt2)
      subst hA1
      subst hA2
      obtain ⟨c0, c1', c2, c3, c4, c5⟩ := hfat1 k hlt
      obtain ⟨d0, d1, d2, d3, d4, d5⟩ := hfat2 k hlt2
      clear hfat1 hfat2
      have hst : L1[k] = L2[k] → L1.take (k + 1) = L2.take (k + 1) := fun h => by rw [List.take_succ_eq_append_getElem hlt, List.take_succ_eq_append_getElem hlt2, HALL.out, h]
      have hno : L1[k] ≠ L2[k] → L1 ≠ L2 := fun h hc => h (by simp only [hc])
      have hE := fun W => run_fneq L1[k] L2[k] W
      have hG := fun op o1 o2 W => run_fguard op o1 o2 L1[k] L2[k] W
      generalize L1[k] = x at c0 c1' c2 c3 c4 c5 hst hno hE hG
      generalize L2[k] = y at d0 d1 d2 d3 d4 d5 hst hno hE hG
      have HST := Lib.hid hst; clear hst
      have HNO := Lib.hid hno; clear hno
      by_cases he : x = y
      · have HQ := Lib.hid (HST.out he)
        rw [decide_eq_true he] at hE
        clear he
        obtain ⟨n1, x⟩ := x
        obtain ⟨n2, y⟩ := y
        rw [Fld.v_eq, Fld.v_eq] at hE hG
        dsimp only at c0 c1' c2 c3 c4 c5 d0 d1 d2 d3 d4 d5 hE hG
        go_wp2_with fail
        go_quiet (fail)
        clear c0 c1' c2 c3 c4 c5 d0 d1 d2 d3 d4 d5 hE hG p1 p2
        go_wp2_with fail
        go_roundg (L1.length - (k + 1))
        case measure => omega
        case rel => exact ⟨k + 1, _, by omega, by go_num, Nat.le_refl _, HQ.out, rfl⟩
      · have HQ := Lib.hid (HNO.out he)
        rw [decide_eq_false he] at hE
        clear he
        obtain ⟨n1, x⟩ := x
        obtain ⟨n2, y⟩ := y
        rw [Fld.v_eq, Fld.v_eq] at hE hG
        dsimp only at c0 c1' c2 c3 c4 c5 d0 d1 d2 d3 d4 d5 hE hG
        go_wp2_with fail
        go_quiet (fail)
        clear c0 c1' c2 c3 c4 c5 d0 d1 d2 d3 d4 d5 hE hG p1 p2
        go_wp2_with fail
        go_ret
        refine ⟨ret_bool ?_, below_drewN (below_drewN HW.out.2.2.1 _) _⟩
        rw [HE.out]
        symm
        rw [decide_eq_false_iff_not]
        rintro ⟨-, -, h⟩
        exact HQ.out h
    · obtain rfl : k = L1.length := by omega
      have hfin : L1 = L2 := by
        have := HALL.out
        rwa [List.take_length, HLL.out, List.take_length] at this
      have HQ := Lib.hid hfin; clear hfin
      go_wp2_with fail
      go_ret
      refine ⟨ret_bool ?_, below_drewN HW.out.2.2.1 _⟩
      rw [HE.out]
      symm
      rw [decide_eq_true_iff]
      exact ⟨HID.out, trivial, HQ.out⟩
end Go.Proofs.Ytfppobnfajkmmaa
