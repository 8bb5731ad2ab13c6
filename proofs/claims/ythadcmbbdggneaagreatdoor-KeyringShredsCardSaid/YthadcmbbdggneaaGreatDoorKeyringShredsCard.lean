/-
  KeyringShreds: for every input the law returns true, and every argument reads afterwards as it read before. Condition: the listed package variables hold what the program's text lays (the card ties them).
-/
import Derived.Test.YthadcmbbdggneaaGreatDoorKeyringShreds
import Derived.Test.YthadcmbbdggneaaGreatDoorGrdTabs
import Derived.SevenTiedAt
namespace Go.Proofs.YthadcmbbdggneaaGreatDoor.keyringShreds
open Go.ChangeShapes Go.WideShapes Go.ChangeAt Go.RowKit
set_option linter.unusedVariables false

theorem params_ok : ∀ t ∈ Tryz.f5.params.toList, Tryz.prog.readableRec t = true ∧ t < Tryz.prog.types.size := by
  rw [Tryz.params5]
  intro t ht
  revert t
  simp only [List.forall_mem_cons, List.not_mem_nil, false_implies, implies_true, and_true]
  repeat' apply And.intro
  all_goals first | (kernel_rfl) | (exact of_decide_eq_true (by kernel_rfl))
theorem laid_met (os : Os) : laidMet Tryz.prog Rows.keyringShredsRow.laid ((laidWorldG os).forCall (fun _ _ => 0) ⟨#[], #[.int .i64 0, .int .u8 0, .int .u8 0, .agg #[.int .u64 0, .int .i64 0]], []⟩).memory :=
  laidMet_of_run' 8 (by kernel_rfl) (by kernel_rfl)
theorem reads (os : Os) {H : Type} (enc : TypeId × Value → H) : ∃ places, DataW.whole enc Tryz.prog ((laidWorldG os).forCall (fun _ _ => 0) ⟨#[], #[.int .i64 0, .int .u8 0, .int .u8 0, .agg #[.int .u64 0, .int .i64 0]], []⟩).memory Tryz.f5.params.toList Rows.keyringShredsSpec.vars false #[.int .i64 0, .int .u8 0, .int .u8 0, .agg #[.int .u64 0, .int .i64 0]].toList 8 = some ([.lit (.int .i64 0), .lit (.int .u8 0), .lit (.int .u8 0), .agg [.lit (.int .u64 0), .lit (.int .i64 0)]], [], places) :=
  ⟨[], by kernel_rfl⟩

set_option maxRecDepth 100000 in
theorem lifted (os : Os) (started : os.Started) (H : Type) (enc : TypeId × Value → H) (F : Stop.Interp) :
    ReturnsInHanded {} Tryz.checked os 5 .any ((OpenSpec.ofChange Rows.keyringShredsSpec).preRow enc Tryz.prog Tryz.f5 Rows.keyringShredsRow.domain false Rows.keyringShredsRow.laid) (((OpenSpec.ofChange Rows.keyringShredsSpec).at F).post enc Tryz.prog Tryz.f5 false true false false) := by
  obtain ⟨places, hx⟩ := reads os enc
  refine returnsInHanded_of_row (C := Tryz.checked) (s := (OpenSpec.ofChange Rows.keyringShredsSpec)) own started (by kernel_rfl) Tryz.func5
    (witness_row_at (enc := enc) (C := Tryz.checked) false (laidWorldG os) #[.int .i64 0, .int .u8 0, .int .u8 0, .agg #[.int .u64 0, .int .i64 0]] rfl (by kernel_rfl) (by kernel_rfl) (by kernel_rfl)
      (OpenSpec.preRow_of_cond 8 hx (by kernel_rfl) (fun k hk => by cases hk) (by kernel_rfl) (laid_met os))) ?_
  intro W base args ds gs before hval hW hp hcond hsz hL hx1 hx2
  refine (keyringShreds_contract enc W base args ds gs before hval hW hsz).mono fun e W' ⟨hds, he, hb⟩ => ?_
  subst he
  exact ⟨_, rfl, law_post (t := 4) hW hb laidOut params_ok rfl (by kernel_rfl) Tryz.underlying4 hds⟩

theorem said : Rows.KeyringShredsSaid :=
  OpenClaim.holds_of_cond 5 Tryz.f5 rfl rfl rfl rfl rfl rfl rfl ⟨rfl, rfl, rfl, rfl, rfl⟩ rfl rfl rfl rfl rfl (by kernel_rfl) Tryz.func5 (by kernel_rfl)
    (of_decide_eq_true (by kernel_rfl)) (by unfold Func.isWrapper; first | (rw [if_pos (by decide +kernel)]; kernel_rfl) | (rw [if_neg (by decide +kernel)]; exact ⟨rfl, rfl⟩))
    (fun os started H enc _ F => by rw [OpenClaim.pre_eq_preRow]; exact lifted os started H enc F)

theorem plain (f : FuncId) (fn : Func) (hf : Tryz.pinned.checked.prog.funcNamed "chartulary/chartularylaw13.KeyringShreds" = some f) (hfn : Tryz.pinned.checked.prog.funcs[f]? = some fn) :
    false = Tryz.pinned.checked.prog.looks [] ∧ ∀ (j : Nat) t, fn.params[j]? = some t → Tryz.pinned.checked.prog.wantsStandIn t = false := by
  obtain rfl : f = 5 := Option.some.inj ((show Tryz.prog.funcNamed "chartulary/chartularylaw13.KeyringShreds" = some 5 by kernel_rfl).symm.trans hf) |>.symm
  obtain rfl : fn = Tryz.f5 := (Option.some.inj (Tryz.func5.symm.trans hfn)).symm
  refine ⟨by kernel_rfl, fun j t ht => ?_⟩
  have hall : ∀ t ∈ Tryz.f5.params.toList, Tryz.prog.wantsStandIn t = false := by
    rw [Tryz.params5]
    intro t ht
    revert t
    simp only [List.forall_mem_cons, List.not_mem_nil, false_implies, implies_true, and_true]
    repeat' apply And.intro
    all_goals kernel_rfl
  exact hall t (by simpa using Array.mem_of_getElem? ht)

theorem card : Rows.KeyringShredsCardSaid :=
  Claim7.holds_tied_plain_at .later [] _ _ _ _ said (fun _ h => by cases h) (by kernel_rfl) (fun _ h => by cases h) keyringShreds_row_tie rfl ⟨rfl, rfl⟩ (by kernel_rfl) rfl plain (by kernel_rfl)
end Go.Proofs.YthadcmbbdggneaaGreatDoor.keyringShreds
