/-
  The contract of paper's Same.
-/
import Derived.Test.YtfppobnfajkmmaaPapG
import Derived.Test.YtfppobnfajkmmaaTidy
namespace Go.Proofs.Ytfppobnfajkmmaa
open Go.RowKit Go.Lib
set_option linter.unusedVariables false

set_option maxHeartbeats 4000000 in
set_option maxRecDepth 100000 in
theorem eqF_any (L1 L2 : List Fld) (b1 b2 cap1 cap2 : Nat) (A1 A2 : Option Addr) (w : World) (hF1 : FSl w b1 A1 L1) (hF2 : FSl w b2 A2 L2) (hL1 : L1.length ≤ 1000000) (hL2 : L2.length ≤ 1000000) :
    Calls Try.prog 39 #[.slice A1 L1.length cap1, .slice A2 L2.length cap2] w fun r w' => r = .returned (.bool (decide (L1 = L2))) ∧ Below w.heap.size w w' := by
  by_cases h3 : L1.length = L2.length
  rotate_left
  · have hr : decide (L1 = L2) = false := by rw [decide_eq_false_iff_not]; intro h; rw [h] at h3; exact h3 rfl
    have h3b : ((L1.length : Int) == (L2.length : Int)) = false := by rw [beq_eq_false_iff_ne]; omega
    have h3c : ((L1.length : Int) != (L2.length : Int)) = true := by rw [bne_iff_ne]; omega
    rw [hr]
    clear hF1 hF2 h3 hr
    go_enter Try.func39, Try.ntmps39
    go_wp2_with fail
    go_ret
    exact ⟨rfl, Below.refl _ _⟩
  have HLL := Lib.hid h3
  obtain ⟨res, hres⟩ : ∃ r, decide (L1 = L2) = r := ⟨_, rfl⟩
  rw [hres]
  have HE := Lib.hid hres; clear hres
  have HF1 := Lib.hid hF1; clear hF1
  have HF2 := Lib.hid hF2; clear hF2
  rw [← h3]
  clear h3
  have HC : Hid (∀ n : Nat, FSl (w.drewN n) b1 A1 L1 ∧ FSl (w.drewN n) b2 A2 L2) := fun n => ⟨HF1.out.keep (Nat.le_refl _) rfl, HF2.out.keep (Nat.le_refl _) rfl⟩
  go_enter Try.func39, Try.ntmps39
  go_wp2_with fail
  go_loopg [13] L1.length (fun g1 v5 wr => ∃ k n : Nat, k ≤ L1.length ∧ v5 = .int .i64 (k : Int) ∧ L1.length - k ≤ g1 ∧ Hid (L1.take k = L2.take k) ∧ wr = w.drewN n)
  case atStart => exact ⟨0, 0, Nat.zero_le _, rfl, by omega, by show _ = _; simp, rfl⟩
  case round =>
    obtain ⟨k, m, hk, rfl, hg, HALL, rfl⟩ := hrel
    obtain ⟨hf1, hf2⟩ := HC.out 0
    replace hf1 : FSl w b1 A1 L1 := hf1
    replace hf2 : FSl w b2 A2 L2 := hf2
    by_cases hlt : k < L1.length
    · have hki : (k : Int) < (L1.length : Int) := by omega
      have hlt2 : k < L2.length := by rw [← HLL.out]; exact hlt
      obtain ⟨off1, hA1, hbl1, hfat1⟩ := hf1 (by intro hc; rw [hc] at hlt; cases hlt)
      obtain ⟨off2, hA2, hbl2, hfat2⟩ := hf2 (by intro hc; rw [hc] at hlt2; cases hlt2)
      subst hA1
      subst hA2
      obtain ⟨c0, c1', c2, c3, c4, c5⟩ := hfat1 k hlt
      obtain ⟨d0, d1, d2, d3, d4, d5⟩ := hfat2 k hlt2
      clear hfat1 hfat2
      have hst : L1[k] = L2[k] → L1.take (k + 1) = L2.take (k + 1) := fun h => by rw [List.take_succ_eq_append_getElem hlt, List.take_succ_eq_append_getElem hlt2, HALL.out, h]
      have hno : L1[k] ≠ L2[k] → L1 ≠ L2 := fun h hc => h (by simp only [hc])
      have hE := fun W => run_fneq L1[k] L2[k] W
      have hG := fun op o1 o2 W => run_fguard op o1 o2 L1[k] L2[k] W
      generalize L1[k] = x at c0 c1' c2 c3 c4 c5 hst hno hE hG
      generalize L2[k] = y at d0 d1 d2 d3 d4 d5 hst hno hE hG
      have HST := Lib.hid hst; clear hst
      have HNO := Lib.hid hno; clear hno
      by_cases he : x = y
      · have HQ := Lib.hid (HST.out he)
        rw [decide_eq_true he] at hE
        clear he
        obtain ⟨n1, x⟩ := x
        obtain ⟨n2, y⟩ := y
        rw [Fld.v_eq, Fld.v_eq] at hE hG
        dsimp only at c0 c1' c2 c3 c4 c5 d0 d1 d2 d3 d4 d5 hE hG
        go_wp2_with fail
        go_quiet (fail)
        clear c0 c1' c2 c3 c4 c5 d0 d1 d2 d3 d4 d5 hE hG
        go_wp2_with fail
        go_roundg (L1.length - (k + 1))
        case measure => omega
        case rel => exact ⟨k + 1, _, by omega, by go_num, Nat.le_refl _, HQ.out, rfl⟩
      · have HQ := Lib.hid (HNO.out he)
        rw [decide_eq_false he] at hE
        clear he
        obtain ⟨n1, x⟩ := x
        obtain ⟨n2, y⟩ := y
        rw [Fld.v_eq, Fld.v_eq] at hE hG
        dsimp only at c0 c1' c2 c3 c4 c5 d0 d1 d2 d3 d4 d5 hE hG
        go_wp2_with fail
        go_quiet (fail)
        clear c0 c1' c2 c3 c4 c5 d0 d1 d2 d3 d4 d5 hE hG
        go_wp2_with fail
        go_ret
        refine ⟨ret_bool ?_, below_drewN (below_drewN (Below.refl _ _) _) _⟩
        rw [← HE.out]
        symm
        rw [decide_eq_false_iff_not]
        exact HQ.out
    · obtain rfl : k = L1.length := by omega
      have hfin : L1 = L2 := by
        have := HALL.out
        rwa [List.take_length, HLL.out, List.take_length] at this
      have HQ := Lib.hid hfin; clear hfin
      go_wp2_with fail
      go_ret
      refine ⟨ret_bool ?_, below_drewN (Below.refl _ _) _⟩
      rw [← HE.out]
      symm
      rw [decide_eq_true_iff]
      exact HQ.out
theorem run_pfield (s : ByteArray) (c : Int) (A : Option Addr) (n cap : Nat) (W : World) : (Instr.field 24 (.agg #[.string s, .int .i64 c, .slice A n cap]) 2).run Try.prog W = .ok (.slice A n cap) W := by
  kernel_rfl
abbrev PTwo (g1 g2 : Nat) (id1 : List UInt8) (c1 : Int) (A1 : Option Addr) (n1 cap1 : Nat) (id2 : List UInt8) (c2 : Int) (A2 : Option Addr) (n2 cap2 : Nat) (W : World) : Prop :=
  W.cell? ⟨g1, 0, none⟩ = some (.string (S id1)) ∧ W.cell? ⟨g1, 1, none⟩ = some (.int .i64 c1) ∧ W.cell? ⟨g1, 2, none⟩ = some (.slice A1 n1 cap1) ∧
  W.cell? ⟨g2, 0, none⟩ = some (.string (S id2)) ∧ W.cell? ⟨g2, 1, none⟩ = some (.int .i64 c2) ∧ W.cell? ⟨g2, 2, none⟩ = some (.slice A2 n2 cap2)
/-- Two papers' own blocks, one behind the other, and their fields' rows. -/
def TW (w0 W : World) (g1 g2 : Nat) (id1 : List UInt8) (c1 : Int) (A1 : Option Addr) (L1 : List Fld) (b1 cap1 : Nat) (id2 : List UInt8) (c2 : Int) (A2 : Option Addr) (L2 : List Fld) (b2 cap2 : Nat) : Prop :=
  Has W g1 24 #[.string (S id1), .int .i64 c1, .slice A1 L1.length cap1] ∧ Has W g2 24 #[.string (S id2), .int .i64 c2, .slice A2 L2.length cap2] ∧ FSl W b1 A1 L1 ∧ FSl W b2 A2 L2 ∧ Below w0.heap.size w0 W
theorem TW.below {w0 W W' : World} {g1 g2 : Nat} {id1 : List UInt8} {c1 : Int} {A1 : Option Addr} {L1 : List Fld} {b1 cap1 : Nat} {id2 : List UInt8} {c2 : Int} {A2 : Option Addr} {L2 : List Fld} {b2 cap2 : Nat} (h : TW w0 W g1 g2 id1 c1 A1 L1 b1 cap1 id2 c2 A2 L2 b2 cap2) (hb : Below W.heap.size W W') : TW w0 W' g1 g2 id1 c1 A1 L1 b1 cap1 id2 c2 A2 L2 b2 cap2 :=
  ⟨h.1.below hb h.1.lt, h.2.1.below hb h.2.1.lt, h.2.2.1.below hb (Nat.le_refl _), h.2.2.2.1.below hb (Nat.le_refl _), h.2.2.2.2.trans (hb.mono h.2.2.2.2.size)⟩
theorem TW.drew {w0 W : World} {g1 g2 : Nat} {id1 : List UInt8} {c1 : Int} {A1 : Option Addr} {L1 : List Fld} {b1 cap1 : Nat} {id2 : List UInt8} {c2 : Int} {A2 : Option Addr} {L2 : List Fld} {b2 cap2 : Nat} (h : TW w0 W g1 g2 id1 c1 A1 L1 b1 cap1 id2 c2 A2 L2 b2 cap2) : TW w0 W.drew g1 g2 id1 c1 A1 L1 b1 cap1 id2 c2 A2 L2 b2 cap2 := ⟨h.1, h.2.1, h.2.2.1, h.2.2.2.1, h.2.2.2.2.drew⟩
theorem TW.lies {w0 W : World} {g1 g2 : Nat} {id1 : List UInt8} {c1 : Int} {A1 : Option Addr} {L1 : List Fld} {b1 cap1 : Nat} {id2 : List UInt8} {c2 : Int} {A2 : Option Addr} {L2 : List Fld} {b2 cap2 : Nat} (h : TW w0 W g1 g2 id1 c1 A1 L1 b1 cap1 id2 c2 A2 L2 b2 cap2) : PTwo g1 g2 id1 c1 A1 L1.length cap1 id2 c2 A2 L2.length cap2 W :=
  ⟨h.1.cell 0, h.1.cell 1, h.1.cell 2, h.2.1.cell 0, h.2.1.cell 1, h.2.1.cell 2⟩

set_option maxHeartbeats 4000000 in
set_option maxRecDepth 100000 in
theorem psame_any (id1 : List UInt8) (c1 : Int) (L1 : List Fld) (id2 : List UInt8) (c2 : Int) (L2 : List Fld) (b1 b2 cap1 cap2 : Nat) (A1 A2 : Option Addr) (w : World) (hF1 : FSl w b1 A1 L1) (hF2 : FSl w b2 A2 L2)
    (hS1 : L1.length ≤ 20 ∨ (L1.length ≤ 39 ∧ SymOk)) (hS2 : L2.length ≤ 20 ∨ (L2.length ≤ 39 ∧ SymOk)) (hok1 : ∀ x ∈ L1, x.ok) (hok2 : ∀ x ∈ L2, x.ok) :
    Calls Try.prog 17 #[.agg #[.string (S id1), .int .i64 c1, .slice A1 L1.length cap1], .agg #[.string (S id2), .int .i64 c2, .slice A2 L2.length cap2]] w fun r w' => r = .returned (.bool (Pap.same id1 c1 (Pap.tidy L1) id2 c2 (Pap.tidy L2))) ∧ Below w.heap.size w w' := by
  have ht1 := Pap.tidy_len L1
  have ht2 := Pap.tidy_len L2
  have hl1 : L1.length ≤ 39 := by rcases hS1 with h | h <;> omega
  have hl2 : L2.length ≤ 39 := by rcases hS2 with h | h <;> omega
  have hE : Pap.same id1 c1 (Pap.tidy L1) id2 c2 (Pap.tidy L2) = decide (id1 = id2 ∧ c1 = c2 ∧ Pap.tidy L1 = Pap.tidy L2) := rfl
  have hT1 := fun W A b cap (hF : FSl W b A L1) => tidy_any id1 c1 L1 hS1 b cap A W hF hok1
  have hT2 := fun W A b cap (hF : FSl W b A L2) => tidy_any id2 c2 L2 hS2 b cap A W hF hok2
  unfold TidyPost at hT1 hT2
  rw [Pap.tidy_eq L1] at hT1
  rw [Pap.tidy_eq L2] at hT2
  have hQ := fun W A b cap A' b' cap' (hF : FSl W b A (Pap.tidy L1)) (hF' : FSl W b' A' (Pap.tidy L2)) => eqF_any (Pap.tidy L1) (Pap.tidy L2) b b' cap cap' A A' W hF hF' (by omega) (by omega)
  generalize Pap.same id1 c1 (Pap.tidy L1) id2 c2 (Pap.tidy L2) = res at hE ⊢
  generalize Pap.tidy L1 = T1 at ht1 hE hT1 hQ
  generalize Pap.tidy L2 = T2 at ht2 hE hT2 hQ
  rw [ht1, ht2] at hQ
  have HE := Lib.hid hE; clear hE
  have hH1 : Has ((w.alloc (.cells #[.string (S id1), .int .i64 c1, .slice A1 L1.length cap1] 24)).alloc (.cells #[.string (S id2), .int .i64 c2, .slice A2 L2.length cap2] 24)) w.heap.size 24 #[.string (S id1), .int .i64 c1, .slice A1 L1.length cap1] := (Has.made w _ _).of_alloc _
  have hH2 : Has ((w.alloc (.cells #[.string (S id1), .int .i64 c1, .slice A1 L1.length cap1] 24)).alloc (.cells #[.string (S id2), .int .i64 c2, .slice A2 L2.length cap2] 24)) (w.heap.size + 1) 24 #[.string (S id2), .int .i64 c2, .slice A2 L2.length cap2] := has_new _ _ _ _
  have hu := up2 (w := w) (.cells #[.string (S id1), .int .i64 c1, .slice A1 L1.length cap1] 24) (.cells #[.string (S id2), .int .i64 c2, .slice A2 L2.length cap2] 24)
  have hG1 := hF1.below hu (Nat.le_refl _)
  have hG2 := hF2.below hu (Nat.le_refl _)
  have HW := Lib.hid (And.intro hH1 (And.intro hH2 (And.intro hu (And.intro hG1 hG2)))); clear hH1 hH2 hG1 hG2 hF1 hF2
  have HU := Lib.hid hu; clear hu
  have HT1 := Lib.hid hT1; clear hT1
  have HT2 := Lib.hid hT2; clear hT2
  have HQ := Lib.hid hQ; clear hQ
  have HLEN := Lib.hid (And.intro ht1 ht2); clear ht1 ht2 hS1 hS2 hok1 hok2
  cases h1 : id1 == id2
  · have hr : res = false := by rw [HE.out, decide_eq_false_iff_not]; rintro ⟨h, -⟩; rw [h] at h1; simp at h1
    subst hr
    clear HE HW HT1 HT2 HQ
    go_enter Try.func17, Try.ntmps17
    go_wp2_with fail
    go_ret
    exact ⟨rfl, HU.out⟩
  have HID := Lib.hid (beq_iff_eq.1 h1)
  by_cases h2 : c1 = c2
  rotate_left
  · have hr : res = false := by rw [HE.out, decide_eq_false_iff_not]; rintro ⟨-, h, -⟩; exact h2 h
    have h2b : (c1 == c2) = false := by simpa using h2
    have h2c : (c1 != c2) = true := by simpa using h2
    subst hr
    clear HE HW HT1 HT2 HQ h2
    go_enter Try.func17, Try.ntmps17
    go_wp2_with fail
    go_ret
    exact ⟨rfl, HU.out⟩
  subst h2
  by_cases h3 : L1.length = L2.length
  rotate_left
  · have hr : res = false := by rw [HE.out, decide_eq_false_iff_not]; rintro ⟨-, -, h⟩; have e1 := HLEN.out.1; have e2 := HLEN.out.2; rw [h] at e1; omega
    have h3b : ((L1.length : Int) == (L2.length : Int)) = false := by rw [beq_eq_false_iff_ne]; omega
    have h3c : ((L1.length : Int) != (L2.length : Int)) = true := by rw [bne_iff_ne]; omega
    subst hr
    clear HE HW HT1 HT2 HQ h3
    go_enter Try.func17, Try.ntmps17
    go_wp2_with fail
    go_ret
    exact ⟨rfl, HU.out⟩
  have h3b : ((L1.length : Int) == (L2.length : Int)) = true := by rw [beq_iff_eq]; omega
  have h3c : ((L1.length : Int) != (L2.length : Int)) = false := by rw [h3]; simp
  have h2c : (c1 != c1) = false := by simp
  have hres : res = decide (T1 = T2) := by
    rw [HE.out]
    have := HID.out
    simp [this]
  clear HE HU h3
  have HRES := Lib.hid hres; clear hres
  have hfd := fun A n cap W => run_pfield (S id1) c1 A n cap W
  have hfd2 := fun A n cap W => run_pfield (S id2) c1 A n cap W
  replace HW := Lib.hid (show TW w _ w.heap.size (w.heap.size + 1) id1 c1 A1 L1 b1 cap1 id2 c1 A2 L2 b2 cap2 from ⟨HW.out.1, HW.out.2.1, HW.out.2.2.2.1, HW.out.2.2.2.2, HW.out.2.2.1⟩)
  go_enter Try.func17, Try.ntmps17
  go_upto_region 3 with (fail)
  generalize (w.alloc (.cells #[.string (S id1), .int .i64 c1, .slice A1 L1.length cap1] 24)).alloc (.cells #[.string (S id2), .int .i64 c1, .slice A2 L2.length cap2] 24) = W0 at HW ⊢
  replace HW := Lib.hid HW.out.drew
  have hx := HW.out.lies
  refine wp_region_held_drew (S := PTwo w.heap.size (w.heap.size + 1) id1 c1 A1 L1.length cap1 id2 c1 A2 L2.length cap2) (by kernel_rfl) hx (fun hHeld => ?_)
  first
  | (refine take_wanted (i := 0) (v := ?_) rfl rfl (by kernel_rfl) (by kernel_rfl) (by kernel_rfl) (fun _ _ _ h => h) (by rfl) (by assumption) ?_ ?_; rotate_left; (focus (intro w hSw; (try dsimp only at hSw); go_simp; first | done | with_reducible rfl)); (simp only [Act.at, List.setIfInBounds_toArray, List.set_cons_zero, List.set_cons_succ]))
  | (refine take_unwanted (i := 0) rfl rfl (by kernel_rfl) (by kernel_rfl) (by kernel_rfl) (fun _ _ _ h => h) (by rfl) (by assumption) ?_; (simp only [Act.at, List.setIfInBounds_toArray, List.set_cons_zero, List.set_cons_succ]))
  first
  | (refine take_wanted (i := 3) (v := ?_) rfl rfl (by kernel_rfl) (by kernel_rfl) (by kernel_rfl) (fun _ _ _ h => h) (by rfl) (by assumption) ?_ ?_; rotate_left; (focus (intro w hSw; (try dsimp only at hSw); go_simp; first | done | with_reducible rfl)); (simp only [Act.at, List.setIfInBounds_toArray, List.set_cons_zero, List.set_cons_succ]))
  | (refine take_unwanted (i := 3) rfl rfl (by kernel_rfl) (by kernel_rfl) (by kernel_rfl) (fun _ _ _ h => h) (by rfl) (by assumption) ?_; (simp only [Act.at, List.setIfInBounds_toArray, List.set_cons_zero, List.set_cons_succ]))
  refine take_call (i := 1) (by kernel_rfl) rfl rfl (by rfl) (fun K hK => ?_)
  go_simp
  refine (HT1.out _ _ _ _ HW.out.2.2.1).mono ?_
  rintro r w4 ⟨A4, b4, cap4, rfl, -, hF4, hb4⟩
  clear hx
  replace HW := Lib.hid (HW.out.below hb4); clear hb4
  have hx := HW.out.lies
  refine hK.out _ _ hx (fun hHeld => ?_)
  clear hK K
  try simp only [Act.put, List.setIfInBounds_toArray, List.set_cons_zero, List.set_cons_succ]
  first
  | (refine take_wanted (i := 2) (v := ?_) rfl rfl (by kernel_rfl) (by kernel_rfl) (by kernel_rfl) (fun _ _ _ h => h) (by rfl) (by assumption) ?_ ?_; rotate_left; (focus (intro w hSw; (try dsimp only at hSw); go_simp; first | done | with_reducible rfl)); (simp only [Act.at, List.setIfInBounds_toArray, List.set_cons_zero, List.set_cons_succ]))
  | (refine take_unwanted (i := 2) rfl rfl (by kernel_rfl) (by kernel_rfl) (by kernel_rfl) (fun _ _ _ h => h) (by rfl) (by assumption) ?_; (simp only [Act.at, List.setIfInBounds_toArray, List.set_cons_zero, List.set_cons_succ]))
  refine take_call (i := 4) (by kernel_rfl) rfl rfl (by rfl) (fun K hK => ?_)
  go_simp
  refine (HT2.out _ _ _ _ HW.out.2.2.2.1).mono ?_
  rintro r w5 ⟨A5, b5, cap5, rfl, -, hF5, hb5⟩
  clear hx
  have hF4' := hF4.below hb5 (Nat.le_refl _)
  replace HW := Lib.hid (HW.out.below hb5); clear hb5 hF4
  have hx := HW.out.lies
  refine hK.out _ _ hx (fun hHeld => ?_)
  clear hK K
  try simp only [Act.put, List.setIfInBounds_toArray, List.set_cons_zero, List.set_cons_succ]
  first
  | (refine take_wanted (i := 5) (v := ?_) rfl rfl (by kernel_rfl) (by kernel_rfl) (by kernel_rfl) (fun _ _ _ h => h) (by rfl) (by assumption) ?_ ?_; rotate_left; (focus (intro w hSw; (try dsimp only at hSw); go_simp; first | done | with_reducible rfl)); (simp only [Act.at, List.setIfInBounds_toArray, List.set_cons_zero, List.set_cons_succ]))
  | (refine take_unwanted (i := 5) rfl rfl (by kernel_rfl) (by kernel_rfl) (by kernel_rfl) (fun _ _ _ h => h) (by rfl) (by assumption) ?_; (simp only [Act.at, List.setIfInBounds_toArray, List.set_cons_zero, List.set_cons_succ]))
  refine take_call (i := 6) (by kernel_rfl) rfl rfl (by rfl) (fun K hK => ?_)
  go_simp
  refine (HQ.out _ _ _ _ _ _ _ hF4' hF5).mono ?_
  rintro r w6 ⟨rfl, hb6⟩
  clear hx hF4' hF5
  replace HW := Lib.hid (HW.out.below hb6); clear hb6
  have hx := HW.out.lies
  refine hK.out _ _ hx (fun hHeld => ?_)
  clear hK K
  try simp only [Act.put, List.setIfInBounds_toArray, List.set_cons_zero, List.set_cons_succ]
  first
  | (refine take_wanted (i := 7) (v := ?_) rfl rfl (by kernel_rfl) (by kernel_rfl) (by kernel_rfl) (fun _ _ _ h => h) (by rfl) (by assumption) ?_ ?_; rotate_left; (focus (intro w hSw; (try dsimp only at hSw); go_simp; first | done | with_reducible rfl)); (simp only [Act.at, List.setIfInBounds_toArray, List.set_cons_zero, List.set_cons_succ]))
  | (refine take_unwanted (i := 7) rfl rfl (by kernel_rfl) (by kernel_rfl) (by kernel_rfl) (fun _ _ _ h => h) (by rfl) (by assumption) ?_; (simp only [Act.at, List.setIfInBounds_toArray, List.set_cons_zero, List.set_cons_succ]))
  refine wpAnyH_done (by kernel_rfl) ?_ _
  go_wp2_with fail
  go_ret
  exact ⟨ret_bool HRES.out.symm, HW.out.2.2.2.2⟩
end Go.Proofs.Ytfppobnfajkmmaa
