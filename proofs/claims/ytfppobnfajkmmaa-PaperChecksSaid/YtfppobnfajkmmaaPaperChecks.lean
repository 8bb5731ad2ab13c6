/-
  The contract of PaperChecks.
-/
import Derived.Test.YtfppobnfajkmmaaPapArgs
import Derived.Test.YtfppobnfajkmmaaPapT
import Derived.Test.YtfppobnfajkmmaaPapF
import Derived.Test.YtfppobnfajkmmaaPapG
import Derived.Test.YtfppobnfajkmmaaPapAwake
import Derived.Test.YtfppobnfajkmmaaSymTwo
import Derived.Test.YtfppobnfajkmmaaTake
namespace Go.Proofs.Ytfppobnfajkmmaa
open Go.ChangeShapes Go.WideShapes Go.ChangeAt Go.RowKit
open Go.ChangeMaps (open_string shut_string)
set_option linter.unusedVariables false

set_option maxHeartbeats 4000000 in
set_option maxRecDepth 100000 in
theorem paperChecks_few (hSym : SymOk) (id0 : List UInt8) (cls : Int) (n0 cap0 : Nat) (A0 : Option Addr) (w : World) (id : List UInt8) (L : List Fld) (hlen : L.length ≤ 30) (hN : ∀ x ∈ L, x.name.length ≤ 300) (hok : ∀ x ∈ L, x.ok)
    (hid : id.length ≤ 300) (hFew : FewAt w id0 cls A0 n0 cap0 id L) :
    Calls Try.prog 3 #[.agg #[.string (S id0), .int .i64 cls, .slice A0 n0 cap0]] w fun e w' => e = .returned (.bool true) ∧ Below w.heap.size w w' := by
  have htl := Pap.tidy_len L
  have hC := fun W A b cap (hF : FSl W b A L) => lcheck_any id cls L b cap A W hF (by omega) (by omega) (fun x hx => by have := hN x hx; omega) hok
  have hP := fun W A b cap (hF : FSl W b A L) => check_any id cls L b cap A W hF (by omega) (by omega) (fun x hx => by have := hN x hx; omega) hok
  have hT := fun W A b cap (hF : FSl W b A L) => ltidy_any id cls L (by omega) b cap A W hF hok
  have hU := fun W A b cap (hF : FSl W b A L) => tidy_any id cls L (Or.inr ⟨by omega, hSym⟩) b cap A W hF hok
  have hTE := Pap.tidy_eq L
  unfold TidyPost at hT hU
  rw [hTE] at hT hU
  have hS := fun W A b cap A' b' cap' (hF : FSl W b A (Pap.tidy L)) (hF' : FSl W b' A' (Pap.tidy L)) => lsame_any id cls (Pap.tidy L) id cls (Pap.tidy L) b b' cap cap' A A' W hF hF' (by omega) (by omega)
  rw [show Pap.same id cls (Pap.tidy L) id cls (Pap.tidy L) = true by simp [Pap.same]] at hS
  generalize Pap.tidy L = T at htl hT hU hS hTE
  rw [htl] at hS
  have hke2 : (Pap.check id cls L == Pap.check id cls L) = true := by simp
  generalize Pap.check id cls L = e at hC hP hke2
  have hA := fun W => awake_any W
  have HC := Lib.hid hC; clear hC
  have HP := Lib.hid hP; clear hP
  have HT := Lib.hid hT; clear hT hTE
  have HU := Lib.hid hU; clear hU
  have HS := Lib.hid hS; clear hS htl
  have HA := Lib.hid hA; clear hA hok hN
  unfold FewAt at hFew
  have HFEW := Lib.hid hFew; clear hFew hlen hid
  go_enter Try.func3, Try.ntmps3
  go_wp2_with fail
  refine (HFEW.out).mono ?_
  rintro r w1 ⟨A1, b1, cap1, rfl, hb1n, hF1, hH1, hb1⟩
  have c0 := hH1.cell 0; have c1 := hH1.cell 1; have c2 := hH1.cell 2
  have f0 := hH1.free 0; have f1 := hH1.free 1; have f2 := hH1.free 2
  have HW := Lib.hid (show PW w (((w1.setCell ⟨w.heap.size, 0, none⟩ (.string (S id))).setCell ⟨w.heap.size, 1, none⟩ (.int .i64 cls)).setCell ⟨w.heap.size, 2, none⟩ (.slice A1 L.length cap1)) id cls A1 L b1 cap1 from
    ⟨paper_set hH1 _ _ _, hF1.only (paper_only _ _ _ _ _) hb1n, (paper_only _ _ _ _ _).below hb1 hb1.size (Nat.le_refl _)⟩)
  clear hF1 hH1 hb1
  go_upto_region 2 with (fail)
  generalize (((w1.setCell ⟨w.heap.size, 0, none⟩ (.string (S id))).setCell ⟨w.heap.size, 1, none⟩ (.int .i64 cls)).setCell ⟨w.heap.size, 2, none⟩ (.slice A1 L.length cap1)) = W3 at HW ⊢
  clear c0 c1 c2 f0 f1 f2
  replace HW := Lib.hid HW.out.drew
  have hx := HW.out.lies
  refine wp_region_held_drew (S := PLie w.heap.size id cls A1 L.length cap1) (by kernel_rfl) hx (fun hHeld => ?_)
  first
  | (refine take_wanted (i := 0) (v := ?_) rfl rfl (by kernel_rfl) (by kernel_rfl) (by kernel_rfl) (fun _ _ _ h => h) (by rfl) (by assumption) ?_ ?_; rotate_left; (focus (intro w hSw; (try dsimp only at hSw); go_simp; first | done | with_reducible rfl)); (simp only [Act.at, List.setIfInBounds_toArray, List.set_cons_zero, List.set_cons_succ]))
  | (refine take_unwanted (i := 0) rfl rfl (by kernel_rfl) (by kernel_rfl) (by kernel_rfl) (fun _ _ _ h => h) (by rfl) (by assumption) ?_; (simp only [Act.at, List.setIfInBounds_toArray, List.set_cons_zero, List.set_cons_succ]))
  first
  | (refine take_wanted (i := 2) (v := ?_) rfl rfl (by kernel_rfl) (by kernel_rfl) (by kernel_rfl) (fun _ _ _ h => h) (by rfl) (by assumption) ?_ ?_; rotate_left; (focus (intro w hSw; (try dsimp only at hSw); go_simp; first | done | with_reducible rfl)); (simp only [Act.at, List.setIfInBounds_toArray, List.set_cons_zero, List.set_cons_succ]))
  | (refine take_unwanted (i := 2) rfl rfl (by kernel_rfl) (by kernel_rfl) (by kernel_rfl) (fun _ _ _ h => h) (by rfl) (by assumption) ?_; (simp only [Act.at, List.setIfInBounds_toArray, List.set_cons_zero, List.set_cons_succ]))
  refine take_call (i := 1) (by kernel_rfl) rfl rfl (by rfl) (fun K hK => ?_)
  go_simp
  refine (HU.out _ _ _ _ HW.out.2.1).mono ?_
  rintro r w4 ⟨A4, b4, cap4, rfl, -, hF4, hb4⟩
  clear hx
  replace HW := Lib.hid (HW.out.below hb4); clear hb4
  have hx := HW.out.lies
  refine hK.out _ _ hx (fun hHeld => ?_)
  clear hK K
  try simp only [Act.put, List.setIfInBounds_toArray, List.set_cons_zero, List.set_cons_succ]
  refine take_call (i := 3) (by kernel_rfl) rfl rfl (by rfl) (fun K hK => ?_)
  go_simp
  refine (HT.out _ _ _ _ HW.out.2.1).mono ?_
  rintro r w5 ⟨A5, b5, cap5, rfl, -, hF5, hb5⟩
  clear hx
  have hF4' := hF4.below hb5 (Nat.le_refl _)
  replace HW := Lib.hid (HW.out.below hb5); clear hb5 hF4
  have hx := HW.out.lies
  refine hK.out _ _ hx (fun hHeld => ?_)
  clear hK K
  try simp only [Act.put, List.setIfInBounds_toArray, List.set_cons_zero, List.set_cons_succ]
  refine take_call (i := 4) (by kernel_rfl) rfl rfl (by rfl) (fun K hK => ?_)
  go_simp
  refine (HS.out _ _ _ _ _ _ _ hF4' hF5).mono ?_
  rintro r w6 ⟨rfl, hb6⟩
  clear hx hF4' hF5
  replace HW := Lib.hid (HW.out.below hb6); clear hb6
  have hx := HW.out.lies
  refine hK.out _ _ hx (fun hHeld => ?_)
  clear hK K
  try simp only [Act.put, List.setIfInBounds_toArray, List.set_cons_zero, List.set_cons_succ]
  first
  | (refine take_wanted (i := 5) (v := ?_) rfl rfl (by kernel_rfl) (by kernel_rfl) (by kernel_rfl) (fun _ _ _ h => h) (by rfl) (by assumption) ?_ ?_; rotate_left; (focus (intro w hSw; (try dsimp only at hSw); go_simp; first | done | with_reducible rfl)); (simp only [Act.at, List.setIfInBounds_toArray, List.set_cons_zero, List.set_cons_succ]))
  | (refine take_unwanted (i := 5) rfl rfl (by kernel_rfl) (by kernel_rfl) (by kernel_rfl) (fun _ _ _ h => h) (by rfl) (by assumption) ?_; (simp only [Act.at, List.setIfInBounds_toArray, List.set_cons_zero, List.set_cons_succ]))
  first
  | (refine take_wanted (i := 6) (v := ?_) rfl rfl (by kernel_rfl) (by kernel_rfl) (by kernel_rfl) (fun _ _ _ h => h) (by rfl) (by assumption) ?_ ?_; rotate_left; (focus (intro w hSw; (try dsimp only at hSw); go_simp; first | done | with_reducible rfl)); (simp only [Act.at, List.setIfInBounds_toArray, List.set_cons_zero, List.set_cons_succ]))
  | (refine take_unwanted (i := 6) rfl rfl (by kernel_rfl) (by kernel_rfl) (by kernel_rfl) (fun _ _ _ h => h) (by rfl) (by assumption) ?_; (simp only [Act.at, List.setIfInBounds_toArray, List.set_cons_zero, List.set_cons_succ]))
  first
  | (refine take_wanted (i := 8) (v := ?_) rfl rfl (by kernel_rfl) (by kernel_rfl) (by kernel_rfl) (fun _ _ _ h => h) (by rfl) (by assumption) ?_ ?_; rotate_left; (focus (intro w hSw; (try dsimp only at hSw); go_simp; first | done | with_reducible rfl)); (simp only [Act.at, List.setIfInBounds_toArray, List.set_cons_zero, List.set_cons_succ]))
  | (refine take_unwanted (i := 8) rfl rfl (by kernel_rfl) (by kernel_rfl) (by kernel_rfl) (fun _ _ _ h => h) (by rfl) (by assumption) ?_; (simp only [Act.at, List.setIfInBounds_toArray, List.set_cons_zero, List.set_cons_succ]))
  refine take_call (i := 7) (by kernel_rfl) rfl rfl (by rfl) (fun K hK => ?_)
  go_simp
  refine (HP.out _ _ _ _ HW.out.2.1).mono ?_
  rintro r w7 ⟨rfl, hb7⟩
  clear hx
  replace HW := Lib.hid (HW.out.below hb7); clear hb7
  have hx := HW.out.lies
  refine hK.out _ _ hx (fun hHeld => ?_)
  clear hK K
  try simp only [Act.put, List.setIfInBounds_toArray, List.set_cons_zero, List.set_cons_succ]
  refine take_call (i := 9) (by kernel_rfl) rfl rfl (by rfl) (fun K hK => ?_)
  go_simp
  refine (HC.out _ _ _ _ HW.out.2.1).mono ?_
  rintro r w8 ⟨rfl, hb8⟩
  clear hx
  replace HW := Lib.hid (HW.out.below hb8); clear hb8
  have hx := HW.out.lies
  refine hK.out _ _ hx (fun hHeld => ?_)
  clear hK K
  try simp only [Act.put, List.setIfInBounds_toArray, List.set_cons_zero, List.set_cons_succ]
  first
  | (refine take_wanted (i := 10) (v := ?_) rfl rfl (by kernel_rfl) (by kernel_rfl) (by kernel_rfl) (fun _ _ _ h => h) (by rfl) (by assumption) ?_ ?_; rotate_left; (focus (intro w hSw; (try dsimp only at hSw); go_simp; first | done | with_reducible rfl)); (simp only [Act.at, List.setIfInBounds_toArray, List.set_cons_zero, List.set_cons_succ]))
  | (refine take_unwanted (i := 10) rfl rfl (by kernel_rfl) (by kernel_rfl) (by kernel_rfl) (fun _ _ _ h => h) (by rfl) (by assumption) ?_; (simp only [Act.at, List.setIfInBounds_toArray, List.set_cons_zero, List.set_cons_succ]))
  first
  | (refine take_wanted (i := 11) (v := ?_) rfl rfl (by kernel_rfl) (by kernel_rfl) (by kernel_rfl) (fun _ _ _ h => h) (by rfl) (by assumption) ?_ ?_; rotate_left; (focus (intro w hSw; (try dsimp only at hSw); go_simp; first | done | with_reducible rfl)); (simp only [Act.at, List.setIfInBounds_toArray, List.set_cons_zero, List.set_cons_succ]))
  | (refine take_unwanted (i := 11) rfl rfl (by kernel_rfl) (by kernel_rfl) (by kernel_rfl) (fun _ _ _ h => h) (by rfl) (by assumption) ?_; (simp only [Act.at, List.setIfInBounds_toArray, List.set_cons_zero, List.set_cons_succ]))
  first
  | (refine take_wanted (i := 12) (v := ?_) rfl rfl (by kernel_rfl) (by kernel_rfl) (by kernel_rfl) (fun _ _ _ h => h) (by rfl) (by assumption) ?_ ?_; rotate_left; (focus (intro w hSw; (try dsimp only at hSw); go_simp; first | done | with_reducible rfl)); (simp only [Act.at, List.setIfInBounds_toArray, List.set_cons_zero, List.set_cons_succ]))
  | (refine take_unwanted (i := 12) rfl rfl (by kernel_rfl) (by kernel_rfl) (by kernel_rfl) (fun _ _ _ h => h) (by rfl) (by assumption) ?_; (simp only [Act.at, List.setIfInBounds_toArray, List.set_cons_zero, List.set_cons_succ]))
  refine take_call (i := 13) (by kernel_rfl) rfl rfl (by rfl) (fun K hK => ?_)
  go_simp
  refine (HA.out _).mono ?_
  rintro r w9 ⟨rfl, hb9⟩
  clear hx
  replace HW := Lib.hid (HW.out.below hb9); clear hb9
  have hx := HW.out.lies
  refine hK.out _ _ hx (fun hHeld => ?_)
  clear hK K
  try simp only [Act.put, List.setIfInBounds_toArray, List.set_cons_zero, List.set_cons_succ]
  first
  | (refine take_wanted (i := 14) (v := ?_) rfl rfl (by kernel_rfl) (by kernel_rfl) (by kernel_rfl) (fun _ _ _ h => h) (by rfl) (by assumption) ?_ ?_; rotate_left; (focus (intro w hSw; (try dsimp only at hSw); go_simp; first | done | with_reducible rfl)); (simp only [Act.at, List.setIfInBounds_toArray, List.set_cons_zero, List.set_cons_succ]))
  | (refine take_unwanted (i := 14) rfl rfl (by kernel_rfl) (by kernel_rfl) (by kernel_rfl) (fun _ _ _ h => h) (by rfl) (by assumption) ?_; (simp only [Act.at, List.setIfInBounds_toArray, List.set_cons_zero, List.set_cons_succ]))
  first
  | (refine take_wanted (i := 15) (v := ?_) rfl rfl (by kernel_rfl) (by kernel_rfl) (by kernel_rfl) (fun _ _ _ h => h) (by rfl) (by assumption) ?_ ?_; rotate_left; (focus (intro w hSw; (try dsimp only at hSw); go_simp; first | done | with_reducible rfl)); (simp only [Act.at, List.setIfInBounds_toArray, List.set_cons_zero, List.set_cons_succ]))
  | (refine take_unwanted (i := 15) rfl rfl (by kernel_rfl) (by kernel_rfl) (by kernel_rfl) (fun _ _ _ h => h) (by rfl) (by assumption) ?_; (simp only [Act.at, List.setIfInBounds_toArray, List.set_cons_zero, List.set_cons_succ]))
  refine wpAnyH_done (by kernel_rfl) ?_ _
  go_wp2_with fail
  go_ret
  exact ⟨rfl, HW.out.2.2⟩
theorem paperChecks_any (hSym : SymOk) (id0 : List UInt8) (cls : Int) (L0 : List Fld) (b0 cap0 : Nat) (A0 : Option Addr) (w : World) (hF : FSl w b0 A0 L0) (hL : L0.length ≤ 4611686018427387904) (hid : id0.length ≤ 4611686018427387904)
    (hN : ∀ x ∈ L0, x.ok ∧ x.name.length ≤ 1000000000000000 ∧ x.val.text.length ≤ 1000000000000000) :
    Calls Try.prog 3 #[.agg #[.string (S id0), .int .i64 cls, .slice A0 L0.length cap0]] w fun e w' => e = .returned (.bool true) ∧ Below w.heap.size w w' := by
  have hFew := few_at id0 cls L0 b0 cap0 A0 w hF hL hid (fun x hx => ⟨by have := (hN x hx).2.1; omega, by have := (hN x hx).2.2; omega⟩)
  have h1 := Pap.few_len L0
  have h2 := Pap.few_name L0
  have h3 := Pap.few_ok L0 (fun x hx => (hN x hx).1)
  have h4 : (id0.take 300).length ≤ 300 := by rw [List.length_take]; omega
  exact paperChecks_few hSym id0 cls _ cap0 A0 w _ _ h1 h2 h3 h4 hFew

set_option maxRecDepth 100000 in
theorem paperChecks_contract {H : Type} (enc : TypeId × Value → H) (W : World) (base : Nat) (args : Array Value) (ds gs : List (DataW H)) (before : List MemPlace)
    (hval : ∀ (j : Nat) t v, Try.f3.params[j]? = some t → args[j]? = some v → Value.okWide Try.prog W .any base t v)
    (hW : DataW.Whole enc Try.prog Try.f3.params.toList Rows.paperChecksSpec.vars false W args.toList ds gs before)
    (hsz : (DataW.weightsEach Try.prog (Try.f3.params.toList ++ Rows.paperChecksSpec.plain.varTypes Try.prog) (ds ++ gs)).all (· ≤ reachBytes) = true) :
    Calls Try.prog 3 args W fun e W' =>
      ((Rows.paperChecksSpec.fn H (ds ++ gs)).results = [.lit (.bool true)] ∧ (Rows.paperChecksSpec.fn H (ds ++ gs)).args = ds ∧ (Rows.paperChecksSpec.fn H (ds ++ gs)).vars = []) ∧ e = .returned (.bool true) ∧ Below W.heap.size W W' := by
  obtain ⟨p, q, hA0, hV, rfl, hfz, hnd⟩ := hW
  have hA : DataW.TrodAll enc Try.prog W 0 (fun _ => true) true Try.f3.params.toList args.toList ds p := hA0
  rw [Try.params3] at hA hval hsz
  obtain ⟨v0, d0, rfl, rfl, h0⟩ := trodAll_one hA
  obtain ⟨rfl, rfl⟩ := trodVars_none hV
  obtain ⟨id_p, cls_p, A_p, L_p, b_p, cap_p, rfl, hF_p, ok_p, lc_p, cm_p, il_p, kl_p, kh_p⟩ := paper_open (hval 0 24 v0 rfl rfl) h0 (fun n hn => by
    have h := List.all_eq_true.1 hsz n (DataW.weights_mem_each (j := 0) (t := 24) (d := d0) rfl rfl n hn)
    exact Nat.le_trans (by simpa using h) reach_le)
  exact (paperChecks_any symOk id_p cls_p L_p b_p cap_p A_p W hF_p (Nat.le_trans cm_p (by decide)) (Nat.le_trans il_p (by decide)) ok_p).mono fun e W' h => ⟨⟨rfl, rfl, rfl⟩, h⟩

end Go.Proofs.Ytfppobnfajkmmaa
