/-
  The contract of PaperSames.
-/
import Derived.Test.YtfppobnfajkmmaaPapArgs
import Derived.Test.YtfppobnfajkmmaaPapS
import Derived.Test.YtfppobnfajkmmaaPapInj
import Derived.Test.YtfppobnfajkmmaaPapT
import Derived.Test.YtfppobnfajkmmaaPapAwake
import Derived.Test.YtfppobnfajkmmaaTake
import Derived.Test.YtfppobnfajkmmaaSymTwo
import Derived.Test.YtfppobnfajkmmaaLaw
import Derived.Test.YtfppobnfajkmmaaRows
namespace Go.Proofs.Ytfppobnfajkmmaa
open Go.ChangeShapes Go.WideShapes Go.ChangeAt Go.RowKit
open Go.ChangeMaps (open_string shut_string)
set_option linter.unusedVariables false

/-- Where the first of a name is, from k on. -/
def Pap.from (name : List UInt8) (L : List Fld) (k : Nat) : Int := match (L.drop k).findIdx? (fun f => f.name == name) with | some i => ((k + i : Nat) : Int) | none => -1
theorem Pap.from_all (name : List UInt8) (L : List Fld) : Pap.from name L L.length = -1 := by
  unfold Pap.from
  rw [List.drop_length]
  rfl
theorem Pap.from_zero (name : List UInt8) (L : List Fld) : Pap.from name L 0 = Pap.find name L := by
  unfold Pap.from Pap.find
  rw [List.drop_zero]
  cases L.findIdx? (fun f => f.name == name) with
  | none => rfl
  | some i => simp
theorem Pap.from_step (name : List UInt8) (L : List Fld) (k : Nat) (h : k < L.length) : Pap.from name L k = if (L[k].name == name) = true then (k : Int) else Pap.from name L (k + 1) := by
  unfold Pap.from
  rw [List.drop_eq_getElem_cons h, List.findIdx?_cons]
  cases hq : (L[k].name == name)
  · simp only [Bool.false_eq_true, if_false]
    cases (L.drop (k + 1)).findIdx? (fun f => f.name == name) with
    | none => rfl
    | some i =>
      simp only [Option.map_some]
      congr 1
      omega
  · simp

set_option maxHeartbeats 4000000 in
set_option maxRecDepth 100000 in
theorem paperSames_any (hSym : SymOk) (p0 : List UInt8) (c1 : Int) (L10 : List Fld) (b10 cap10 : Nat) (A10 : Option Addr) (q0 : List UInt8) (c2 : Int) (L20 : List Fld) (b20 cap20 : Nat) (A20 : Option Addr) (name : List UInt8) (w : World)
    (hF1 : FSl w b10 A10 L10) (hF2 : FSl w b20 A20 L20) (hl1 : L10.length ≤ 4611686018427387904) (hl2 : L20.length ≤ 4611686018427387904) (hp : p0.length ≤ 4611686018427387904) (hq : q0.length ≤ 4611686018427387904)
    (hN1 : ∀ x ∈ L10, x.ok ∧ x.name.length ≤ 1000000000000000 ∧ x.val.text.length ≤ 1000000000000000) (hN2 : ∀ x ∈ L20, x.ok ∧ x.name.length ≤ 1000000000000000 ∧ x.val.text.length ≤ 1000000000000000) :
    Calls Try.prog 5 #[.agg #[.string (S p0), .int .i64 c1, .slice A10 L10.length cap10], .agg #[.string (S q0), .int .i64 c2, .slice A20 L20.length cap20], .string (S name)] w fun e w' => e = .returned (.bool true) ∧ Below w.heap.size w w' := by
  have hf1 := fun W (hb : Below w.heap.size w W) => few_any p0 c1 L10 b10 cap10 A10 W (hF1.below hb (Nat.le_refl _)) hl1 hp (fun x hx => ⟨by have := (hN1 x hx).2.1; omega, by have := (hN1 x hx).2.2; omega⟩)
  have hf2 := fun W (hb : Below w.heap.size w W) => few_any q0 c2 L20 b20 cap20 A20 W (hF2.below hb (Nat.le_refl _)) hl2 hq (fun x hx => ⟨by have := (hN2 x hx).2.1; omega, by have := (hN2 x hx).2.2; omega⟩)
  unfold FewPost at hf1 hf2
  have k1 := Pap.few_len L10
  have k2 := Pap.few_len L20
  have n1 := Pap.few_name L10
  have n2 := Pap.few_name L20
  have o1 := Pap.few_ok L10 (fun x hx => (hN1 x hx).1)
  have o2 := Pap.few_ok L20 (fun x hx => (hN2 x hx).1)
  have i1 : (p0.take 300).length ≤ 300 := by rw [List.length_take]; omega
  have i2 : (q0.take 300).length ≤ 300 := by rw [List.length_take]; omega
  generalize Pap.few L10 = L1 at hf1 k1 n1 o1
  generalize Pap.few L20 = L2 at hf2 k2 n2 o2
  generalize p0.take 300 = id1 at hf1 i1
  generalize q0.take 300 = id2 at hf2 i2
  clear hF1 hF2 hl1 hl2 hp hq hN1 hN2
  have t1 := Pap.tidy_len L1
  have t2 := Pap.tidy_len L2
  have hT1 := fun W A b cap (hF : FSl W b A L1) => ltidy_any id1 c1 L1 (by omega) b cap A W hF o1
  have hT2 := fun W A b cap (hF : FSl W b A L2) => ltidy_any id2 c2 L2 (by omega) b cap A W hF o2
  unfold TidyPost at hT1 hT2
  rw [Pap.tidy_eq L1] at hT1
  rw [Pap.tidy_eq L2] at hT2
  have hS := fun W A b cap A' b' cap' (hF : FSl W b A (Pap.tidy L1)) (hF' : FSl W b' A' (Pap.tidy L2)) => lsame_any id1 c1 (Pap.tidy L1) id2 c2 (Pap.tidy L2) b b' cap cap' A A' W hF hF' (by omega) (by omega)
  rw [t1, t2] at hS
  have hFd := fun W A b cap (hF : FSl W b A L1) => find_any id1 c1 L1 name b cap A W hF (by omega)
  have hSm := fun W A b cap A' b' cap' (hF : FSl W b A L1) (hF' : FSl W b' A' L2) => psame_any id1 c1 L1 id2 c2 L2 b b' cap cap' A A' W hF hF' (Or.inr ⟨by omega, hSym⟩) (Or.inr ⟨by omega, hSym⟩) o1 o2
  have hB1 := fun W A b cap (hF : FSl W b A L1) => pbytes_any id1 c1 L1 b cap A W hF (by omega) (by omega) (fun x hx => by have := n1 x hx; omega) o1
  have hB2 := fun W A b cap (hF : FSl W b A L2) => pbytes_any id2 c2 L2 b cap A W hF (by omega) (by omega) (fun x hx => by have := n2 x hx; omega) o2
  have hkk : (∃ e, Pap.bytes id1 c1 L1 = ([], e) ∧ (e != 0) = true) ∨ (∃ e, Pap.bytes id2 c2 L2 = ([], e) ∧ (e != 0) = true) ∨ ((Pap.bytes id1 c1 L1).2 = 0 ∧ (Pap.bytes id2 c2 L2).2 = 0 ∧ ((Pap.bytes id1 c1 L1).1 == (Pap.bytes id2 c2 L2).1) = Pap.same id1 c1 (Pap.tidy L1) id2 c2 (Pap.tidy L2)) := by
    rw [Pap.bytes_eq, Pap.bytes_eq]
    by_cases h1 : Pap.check id1 c1 L1 = 0
    · by_cases h2 : Pap.check id2 c2 L2 = 0
      · refine Or.inr (Or.inr ?_)
        rw [if_pos h1, if_pos h2, ← Pap.enc_one h1 h2 o1 o2]
        refine ⟨rfl, rfl, ?_⟩
        rw [Bool.eq_iff_iff, decide_eq_true_iff, beq_iff_eq]
      · refine Or.inr (Or.inl ⟨_, if_neg h2, by simpa using h2⟩)
    · exact Or.inl ⟨_, if_neg h1, by simpa using h1⟩
  generalize Pap.same id1 c1 (Pap.tidy L1) id2 c2 (Pap.tidy L2) = sm at hS hSm hkk
  generalize Pap.tidy L1 = T1 at hT1 hS t1
  generalize Pap.tidy L2 = T2 at hT2 hS t2
  generalize Pap.bytes id1 c1 L1 = by1 at hB1 hkk
  generalize Pap.bytes id2 c2 L2 = by2 at hB2 hkk
  have hfs := Pap.from_step name L1
  have hfa := Pap.from_all name L1
  have hfz := Pap.from_zero name L1
  generalize Pap.find name L1 = fd at hFd hfz
  generalize Pap.from name L1 = fr at hfs hfa hfz
  have HT1 := Lib.hid hT1; clear hT1
  have HT2 := Lib.hid hT2; clear hT2
  have HS := Lib.hid hS; clear hS
  have HFD := Lib.hid hFd; clear hFd
  have HSM := Lib.hid hSm; clear hSm
  have HB1 := Lib.hid hB1; clear hB1
  have HB2 := Lib.hid hB2; clear hB2
  have HKK := Lib.hid hkk; clear hkk
  have HFR := Lib.hid (And.intro hfs (And.intro hfa hfz)); clear hfs hfa hfz
  have HA := Lib.hid fun W => awake_any W
  clear t1 t2 n1 n2 o1 o2 i1 i2
  have HF1 := Lib.hid hf1; clear hf1
  have HF2 := Lib.hid hf2; clear hf2
  have hH1 : Has ((w.alloc (.cells #[.string (S p0), .int .i64 c1, .slice A10 L10.length cap10] 24)).alloc (.cells #[.string (S q0), .int .i64 c2, .slice A20 L20.length cap20] 24)) w.heap.size 24 #[.string (S p0), .int .i64 c1, .slice A10 L10.length cap10] := (Has.made w _ _).of_alloc _
  have hH2 : Has ((w.alloc (.cells #[.string (S p0), .int .i64 c1, .slice A10 L10.length cap10] 24)).alloc (.cells #[.string (S q0), .int .i64 c2, .slice A20 L20.length cap20] 24)) (w.heap.size + 1) 24 #[.string (S q0), .int .i64 c2, .slice A20 L20.length cap20] := has_new _ _ _ _
  have hu := up2 (w := w) (.cells #[.string (S p0), .int .i64 c1, .slice A10 L10.length cap10] 24) (.cells #[.string (S q0), .int .i64 c2, .slice A20 L20.length cap20] 24)
  have hs0 : ((w.alloc (.cells #[.string (S p0), .int .i64 c1, .slice A10 L10.length cap10] 24)).alloc (.cells #[.string (S q0), .int .i64 c2, .slice A20 L20.length cap20] 24)).heap.size = w.heap.size + 2 := by simp
  have HW := Lib.hid (And.intro hH1 (And.intro hH2 (And.intro hu hs0))); clear hH1 hH2 hu hs0
  go_enter Try.func5, Try.ntmps5
  go_wp2_with fail
  generalize (w.alloc (.cells #[.string (S p0), .int .i64 c1, .slice A10 L10.length cap10] 24)).alloc (.cells #[.string (S q0), .int .i64 c2, .slice A20 L20.length cap20] 24) = W0 at HW ⊢
  refine (HF1.out W0 HW.out.2.2.1).mono ?_
  rintro r w1 ⟨A1, b1, cap1, rfl, hb1n, hR1, hb1⟩
  have hs := HW.out.2.2.2
  replace HW := Lib.hid (And.intro (HW.out.1.below hb1 (by omega)) (And.intro (HW.out.2.1.below hb1 (by omega)) (And.intro (HW.out.2.2.1.trans (hb1.mono (by omega))) hR1)))
  have hs1 : w.heap.size + 2 ≤ w1.heap.size := by have := hb1.size; omega
  have hb1n' : w.heap.size + 2 ≤ b1 := by omega
  clear hb1 hR1 hs hb1n
  have c0 := HW.out.1.cell 0; have c1' := HW.out.1.cell 1; have c2' := HW.out.1.cell 2
  have f0 := HW.out.1.free 0; have f1 := HW.out.1.free 1; have f2 := HW.out.1.free 2
  have ho := paper_only w1 w.heap.size (.string (S id1)) (.int .i64 c1) (.slice A1 L1.length cap1)
  replace HW := Lib.hid (And.intro (paper_set HW.out.1 (.string (S id1)) (.int .i64 c1) (.slice A1 L1.length cap1)) (And.intro (ho.has HW.out.2.1 (by omega)) (And.intro (ho.below HW.out.2.2.1 (by omega) (Nat.le_refl _)) (HW.out.2.2.2.only ho (by omega)))))
  have hs2 : w.heap.size + 2 ≤ (((w1.setCell ⟨w.heap.size, 0, none⟩ (.string (S id1))).setCell ⟨w.heap.size, 1, none⟩ (.int .i64 c1)).setCell ⟨w.heap.size, 2, none⟩ (.slice A1 L1.length cap1)).heap.size := Nat.le_trans hs1 ho.size
  clear ho hs1
  go_upto_region 2 with (fail)
  generalize (((w1.setCell ⟨w.heap.size, 0, none⟩ (.string (S id1))).setCell ⟨w.heap.size, 1, none⟩ (.int .i64 c1)).setCell ⟨w.heap.size, 2, none⟩ (.slice A1 L1.length cap1)) = W1 at HW hs2 ⊢
  clear c0 c1' c2' f0 f1 f2
  have c0 := HW.out.2.1.cell 0; have c1' := HW.out.2.1.cell 1; have c2' := HW.out.2.1.cell 2
  go_wp2_with fail
  refine (HF2.out W1 HW.out.2.2.1).mono ?_
  rintro r w2 ⟨A2, b2, cap2, rfl, hb2n, hR2, hb2⟩
  replace HW := Lib.hid (And.intro (HW.out.1.below hb2 (by omega)) (And.intro (HW.out.2.1.below hb2 (by omega)) (And.intro (HW.out.2.2.1.trans (hb2.mono (by omega))) (And.intro (HW.out.2.2.2.below hb2 (Nat.le_refl _)) hR2))))
  have hs3 : w.heap.size + 2 ≤ w2.heap.size := by have := hb2.size; omega
  have hb2n' : w.heap.size + 2 ≤ b2 := by omega
  clear hb2 hR2 hb2n c0 c1' c2'
  have c0 := HW.out.2.1.cell 0; have c1' := HW.out.2.1.cell 1; have c2' := HW.out.2.1.cell 2
  have f0 := HW.out.2.1.free 0; have f1 := HW.out.2.1.free 1; have f2 := HW.out.2.1.free 2
  have ho := paper_only w2 (w.heap.size + 1) (.string (S id2)) (.int .i64 c2) (.slice A2 L2.length cap2)
  replace HW := Lib.hid (show TW w _ w.heap.size (w.heap.size + 1) id1 c1 A1 L1 b1 cap1 id2 c2 A2 L2 b2 cap2 from
    ⟨ho.has HW.out.1 (by omega), paper_set HW.out.2.1 (.string (S id2)) (.int .i64 c2) (.slice A2 L2.length cap2), HW.out.2.2.2.1.only ho (by omega), HW.out.2.2.2.2.only ho (by omega), ho.below HW.out.2.2.1 (by omega) (by omega)⟩)
  clear ho hs3 hs2
  go_upto_region 3 with (fail)
  generalize (((w2.setCell ⟨w.heap.size + 1, 0, none⟩ (.string (S id2))).setCell ⟨w.heap.size + 1, 1, none⟩ (.int .i64 c2)).setCell ⟨w.heap.size + 1, 2, none⟩ (.slice A2 L2.length cap2)) = W2 at HW ⊢
  clear c0 c1' c2' f0 f1 f2
  obtain ⟨d0, d1, d2, e0, e1, e2⟩ := HW.out.lies
  have hl30 : (L1.length : Int) ≤ 30 := by omega
  go_wp2_with fail
  go_loopg [7, 8] L1.length (fun g1 v7 v8 wr => ∃ k : Nat, k ≤ L1.length ∧ v7 = .int .i64 (fr k) ∧ v8 = .int .i64 ((k : Int) - 1) ∧ k ≤ g1 ∧ wr = W2)
  case atStart => exact ⟨L1.length, Nat.le_refl _, by rw [HFR.out.2.1], rfl, Nat.le_refl _, rfl⟩
  case round =>
    obtain ⟨k, hk, rfl, rfl, hg1, rfl⟩ := hrel
    rcases Nat.eq_zero_or_pos k with h0 | h0
    · subst h0
      rw [HFR.out.2.2]
      have hm1 : ((0 : Nat) : Int) - 1 = -1 := rfl
      rw [hm1]
      clear hm1
      go_upto_region 9 with (fail)
      clear d0 d1 d2 e0 e1 e2
      replace HW := Lib.hid HW.out.drew
      have hx := HW.out.lies
      refine wp_region_held_drew (S := PTwo w.heap.size (w.heap.size + 1) id1 c1 A1 L1.length cap1 id2 c2 A2 L2.length cap2) (by kernel_rfl) hx (fun hHeld => ?_)
      first
      | (refine take_wanted (i := 0) (v := ?_) rfl rfl (by kernel_rfl) (by kernel_rfl) (by kernel_rfl) (fun _ _ _ h => h) (by rfl) (by assumption) ?_ ?_; rotate_left; (focus (intro w hSw; (try dsimp only at hSw); go_simp; first | done | with_reducible rfl)); (simp only [Act.at, List.setIfInBounds_toArray, List.set_cons_zero, List.set_cons_succ]))
      | (refine take_unwanted (i := 0) rfl rfl (by kernel_rfl) (by kernel_rfl) (by kernel_rfl) (fun _ _ _ h => h) (by rfl) (by assumption) ?_; (simp only [Act.at, List.setIfInBounds_toArray, List.set_cons_zero, List.set_cons_succ]))
      first
      | (refine take_wanted (i := 2) (v := ?_) rfl rfl (by kernel_rfl) (by kernel_rfl) (by kernel_rfl) (fun _ _ _ h => h) (by rfl) (by assumption) ?_ ?_; rotate_left; (focus (intro w hSw; (try dsimp only at hSw); go_simp; first | done | with_reducible rfl)); (simp only [Act.at, List.setIfInBounds_toArray, List.set_cons_zero, List.set_cons_succ]))
      | (refine take_unwanted (i := 2) rfl rfl (by kernel_rfl) (by kernel_rfl) (by kernel_rfl) (fun _ _ _ h => h) (by rfl) (by assumption) ?_; (simp only [Act.at, List.setIfInBounds_toArray, List.set_cons_zero, List.set_cons_succ]))
      refine take_call (i := 1) (by kernel_rfl) rfl rfl (by rfl) (fun K hK => ?_)
      go_simp
      refine (HT1.out _ _ _ _ HW.out.2.2.1).mono ?_
      rintro r w4 ⟨A4, b4, cap4, rfl, -, hF4, hb4⟩
      clear hx
      replace HW := Lib.hid (HW.out.below hb4); clear hb4
      have hx := HW.out.lies
      refine hK.out _ _ hx (fun hHeld => ?_)
      clear hK K
      try simp only [Act.put, List.setIfInBounds_toArray, List.set_cons_zero, List.set_cons_succ]
      refine take_call (i := 3) (by kernel_rfl) rfl rfl (by rfl) (fun K hK => ?_)
      go_simp
      refine (HT2.out _ _ _ _ HW.out.2.2.2.1).mono ?_
      rintro r w5 ⟨A5, b5, cap5, rfl, -, hF5, hb5⟩
      clear hx
      have hF4' := hF4.below hb5 (Nat.le_refl _)
      replace HW := Lib.hid (HW.out.below hb5); clear hb5 hF4
      have hx := HW.out.lies
      refine hK.out _ _ hx (fun hHeld => ?_)
      clear hK K
      try simp only [Act.put, List.setIfInBounds_toArray, List.set_cons_zero, List.set_cons_succ]
      refine take_call (i := 4) (by kernel_rfl) rfl rfl (by rfl) (fun K hK => ?_)
      go_simp
      refine (HS.out _ _ _ _ _ _ _ hF4' hF5).mono ?_
      rintro r w6 ⟨rfl, hb6⟩
      clear hx hF4' hF5
      replace HW := Lib.hid (HW.out.below hb6); clear hb6
      have hx := HW.out.lies
      refine hK.out _ _ hx (fun hHeld => ?_)
      clear hK K
      try simp only [Act.put, List.setIfInBounds_toArray, List.set_cons_zero, List.set_cons_succ]
      first
      | (refine take_wanted (i := 5) (v := ?_) rfl rfl (by kernel_rfl) (by kernel_rfl) (by kernel_rfl) (fun _ _ _ h => h) (by rfl) (by assumption) ?_ ?_; rotate_left; (focus (intro w hSw; (try dsimp only at hSw); go_simp; first | done | with_reducible rfl)); (simp only [Act.at, List.setIfInBounds_toArray, List.set_cons_zero, List.set_cons_succ]))
      | (refine take_unwanted (i := 5) rfl rfl (by kernel_rfl) (by kernel_rfl) (by kernel_rfl) (fun _ _ _ h => h) (by rfl) (by assumption) ?_; (simp only [Act.at, List.setIfInBounds_toArray, List.set_cons_zero, List.set_cons_succ]))
      refine wpAnyH_done (by kernel_rfl) ?_ _
      clear hx
      obtain ⟨d0, d1, d2, e0, e1, e2⟩ := HW.out.lies
      have hfe : (fd != fd) = false := by simp
      have hse : (sm != sm) = false := by simp
      have hsq : (sm == sm) = true := by simp
      go_wp2_with fail
      refine (HFD.out _ _ _ _ HW.out.2.2.1).mono ?_
      rintro r w7 ⟨rfl, hb7⟩
      replace HW := Lib.hid (HW.out.below hb7); clear hb7 d0 d1 d2 e0 e1 e2
      obtain ⟨d0, d1, d2, e0, e1, e2⟩ := HW.out.lies
      go_wp2_with fail
      refine (HSM.out _ _ _ _ _ _ _ HW.out.2.2.1 HW.out.2.2.2.1).mono ?_
      rintro r w8 ⟨rfl, hb8⟩
      replace HW := Lib.hid (HW.out.below hb8); clear hb8 d0 d1 d2 e0 e1 e2
      obtain ⟨d0, d1, d2, e0, e1, e2⟩ := HW.out.lies
      go_wp2_with fail
      refine (HB1.out _ _ _ _ HW.out.2.2.1).mono ?_
      rintro r w9 ⟨rfl, hb9⟩
      replace HW := Lib.hid (HW.out.below hb9); clear hb9 d0 d1 d2 e0 e1 e2
      obtain ⟨d0, d1, d2, e0, e1, e2⟩ := HW.out.lies
      go_wp2_with fail
      refine (HB2.out _ _ _ _ HW.out.2.2.2.1).mono ?_
      rintro r w10 ⟨rfl, hb10⟩
      replace HW := Lib.hid (HW.out.below hb10); clear hb10 d0 d1 d2 e0 e1 e2
      have hkk := HKK.out
      clear HKK
      obtain ⟨s1, x1⟩ := by1
      obtain ⟨s2, x2⟩ := by2
      dsimp only at hkk
      rcases hkk with ⟨x, hx1, hx2⟩ | ⟨x, hx1, hx2⟩ | ⟨hz1, hz2, hz3⟩
      · injection hx1 with hx3 hx4
        subst hx4
        go_wp2_with fail
        refine (HA.out _).mono ?_
        rintro r w11 ⟨rfl, hb11⟩
        replace HW := Lib.hid (HW.out.below hb11); clear hb11
        go_wp2_with fail
        go_ret
        exact ⟨rfl, HW.out.2.2.2.2⟩
      · injection hx1 with hx3 hx4
        subst hx4
        cases hx5 : x1 != 0
        all_goals
          go_wp2_with fail
          refine (HA.out _).mono ?_
          rintro r w11 ⟨rfl, hb11⟩
          replace HW := Lib.hid (HW.out.below hb11); clear hb11
          go_wp2_with fail
          go_ret
          exact ⟨rfl, HW.out.2.2.2.2⟩
      · subst hz1
        subst hz2
        go_wp2_with fail
        refine (HA.out _).mono ?_
        rintro r w11 ⟨rfl, hb11⟩
        replace HW := Lib.hid (HW.out.below hb11); clear hb11
        go_wp2_with fail
        go_ret
        exact ⟨rfl, HW.out.2.2.2.2⟩
    · obtain ⟨j, rfl⟩ : ∃ j, k = j + 1 := ⟨k - 1, by omega⟩
      have hjl : j < L1.length := by omega
      have hjz : (j : Int) < (L1.length : Int) := by omega
      rw [show ((j + 1 : Nat) : Int) - 1 = (j : Int) by omega]
      have hj0 : (0 : Int) ≤ (j : Int) := by omega
      have hst := HFR.out.1 j hjl
      obtain ⟨off1, hA1, hbl1, hfat1⟩ := HW.out.2.2.1 (by intro hc; rw [hc] at hjl; cases hjl)
      subst hA1
      obtain ⟨n0, -⟩ := hfat1 j hjl
      clear hfat1
      cases hq : L1[j].name == name
      all_goals
        rw [hq] at hst
        generalize L1[j].name = nj at n0 hq
        first
        | (rw [if_neg (show ¬ (false = true) by decide)] at hst)
        | (rw [if_pos rfl] at hst)
        have HST := Lib.hid hst; clear hst
        go_wp2_with fail
        go_roundg j
        case measure => omega
        case rel => exact ⟨j, by omega, by rw [HST.out], rfl, Nat.le_refl _, rfl⟩

set_option maxRecDepth 100000 in
theorem paperSames_contract {H : Type} (enc : TypeId × Value → H) (W : World) (base : Nat) (args : Array Value) (ds gs : List (DataW H)) (before : List MemPlace)
    (hval : ∀ (j : Nat) t v, Try.f5.params[j]? = some t → args[j]? = some v → Value.okWide Try.prog W .any base t v)
    (hW : DataW.Whole enc Try.prog Try.f5.params.toList Rows.paperSamesSpec.vars false W args.toList ds gs before)
    (hsz : (DataW.weightsEach Try.prog (Try.f5.params.toList ++ Rows.paperSamesSpec.plain.varTypes Try.prog) (ds ++ gs)).all (· ≤ reachBytes) = true) :
    Calls Try.prog 5 args W fun e W' =>
      ((Rows.paperSamesSpec.fn H (ds ++ gs)).results = [.lit (.bool true)] ∧ (Rows.paperSamesSpec.fn H (ds ++ gs)).args = ds ∧ (Rows.paperSamesSpec.fn H (ds ++ gs)).vars = []) ∧ e = .returned (.bool true) ∧ Below W.heap.size W W' := by
  obtain ⟨p, q, hA0, hV, rfl, hfz, hnd⟩ := hW
  have hA : DataW.TrodAll enc Try.prog W 0 (fun _ => true) true Try.f5.params.toList args.toList ds p := hA0
  rw [Try.params5] at hA hval hsz
  obtain ⟨v0, v1, v2, d0, d1, d2, p0, p1, p2, rfl, rfl, rfl, h0, h1, h2⟩ := trodAll_three hA
  obtain ⟨rfl, rfl⟩ := trodVars_none hV
  obtain ⟨id_p, cls_p, A_p, L_p, b_p, cap_p, rfl, hF_p, ok_p, lc_p, cm_p, il_p, kl_p, kh_p⟩ := paper_open (hval 0 24 v0 rfl rfl) h0 (fun n hn => by
    have h := List.all_eq_true.1 hsz n (DataW.weights_mem_each (j := 0) (t := 24) (d := d0) rfl rfl n hn)
    exact Nat.le_trans (by simpa using h) reach_le)
  obtain ⟨id_q, cls_q, A_q, L_q, b_q, cap_q, rfl, hF_q, ok_q, lc_q, cm_q, il_q, kl_q, kh_q⟩ := paper_open (hval 1 24 v1 rfl rfl) h1 (fun n hn => by
    have h := List.all_eq_true.1 hsz n (DataW.weights_mem_each (j := 1) (t := 24) (d := d1) rfl rfl n hn)
    exact Nat.le_trans (by simpa using h) reach_le)
  obtain ⟨name, rfl, rfl, rfl, max_name⟩ := open_string Try.underlying9 (hval 2 9 v2 rfl rfl) h2
  have len_name : name.data.toList.length ≤ reachBytes := sized_string hsz (j := 2) (t := 9) rfl rfl
  rw [← S_of name]
  exact (paperSames_any symOk id_p cls_p L_p b_p cap_p A_p id_q cls_q L_q b_q cap_q A_q name.data.toList W hF_p hF_q (Nat.le_trans cm_p (by decide)) (Nat.le_trans cm_q (by decide)) (Nat.le_trans il_p (by decide)) (Nat.le_trans il_q (by decide)) ok_p ok_q).mono fun e W' h => ⟨⟨rfl, rfl, rfl⟩, h⟩

end Go.Proofs.Ytfppobnfajkmmaa
