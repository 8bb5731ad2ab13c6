/-
  FindMeans: for every input the law returns true, and every argument reads afterwards as it read before. No condition.
-/
import Derived.Test.YtfcmkbeilpclmaaMeanM
import Derived.Test.YtfcmkbeilpclmaaLaw
import Derived.Test.YtfcmkbeilpclmaaRows
namespace Go.Proofs.Ytfcmkbeilpclmaa.findMeans
open Go.ChangeShapes Go.WideShapes Go.ChangeAt Go.RowKit

theorem own : ownKnob Try.prog.godebug = none := by kernel_rfl
theorem laidOut : laidOutB Try.prog = true := by kernel_rfl
theorem params_ok : ∀ t ∈ Try.f7.params.toList, Try.prog.readableRec t = true ∧ t < Try.prog.types.size := by
  rw [Try.params7]
  intro t ht
  revert t
  simp only [List.forall_mem_cons, List.not_mem_nil, false_implies, implies_true, and_true]
  repeat' apply And.intro
  all_goals first | (kernel_rfl) | (exact of_decide_eq_true (by kernel_rfl))

set_option maxRecDepth 100000 in
theorem lifted (os : Os) (started : os.Started) (H : Type) (enc : TypeId × Value → H) :
    ReturnsInHanded {} Try.checked os 7 .any (Rows.findMeansSpec.pre6 enc Try.prog Try.f7 Rows.findMeansRow.domain false) (Rows.findMeansSpec.post enc Try.prog Try.f7 false true false false) := by
  refine returnsInHanded_of_change_sized (C := Try.checked) own started (by kernel_rfl) Try.func7
    (ChangeSpec.witness6 (enc := enc) (C := Try.checked) false ⟨#[], #[.slice none 0 0], []⟩ 8 (by kernel_rfl) (by kernel_rfl) (by kernel_rfl) (by kernel_rfl)) ?_
  intro W base args ds gs before hval hW _ hsz _
  refine (findMeans_contract enc W base args ds gs before hval hW hsz).mono fun e W' ⟨hds, he, hb⟩ => ?_
  subst he
  exact ⟨_, rfl, law_post (t := 4) hW hb laidOut params_ok rfl (by kernel_rfl) Try.underlying4 hds⟩

theorem said : Rows.FindMeansSaid :=
  OpenClaim.holds_of_wide 7 Try.f7 rfl rfl rfl rfl rfl rfl rfl ⟨rfl, rfl, rfl, rfl, rfl⟩ rfl rfl rfl rfl rfl (by kernel_rfl) Try.func7 (by kernel_rfl)
    (of_decide_eq_true (by kernel_rfl)) (by unfold Func.isWrapper; first | (rw [if_pos (by decide +kernel)]; kernel_rfl) | (rw [if_neg (by decide +kernel)]; exact ⟨rfl, rfl⟩))
    (fun os started H enc _ => lifted os started H enc)
end Go.Proofs.Ytfcmkbeilpclmaa.findMeans
