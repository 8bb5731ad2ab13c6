/-
  The contracts of paper's Find and Check.
-/
import Derived.Test.YtfcmkbeilpclmaaFind
import Derived.Test.YtfcmkbeilpclmaaPapA
import Derived.Test.YtfcmkbeilpclmaaValC
namespace Go.Proofs.Ytfcmkbeilpclmaa
open Go.RowKit Go.Lib
set_option linter.unusedVariables false

set_option maxHeartbeats 1000000 in
theorem find_any (id : List UInt8) (cls : Int) (L : List Fld) (name : List UInt8) (b cap : Nat) (A : Option Addr) (w : World) (hF : FSl w b A L) (hL : L.length ≤ 1000000) :
    Calls Try.prog 57 #[.agg #[.string (S id), .int .i64 cls, .slice A L.length cap], .string (S name)] w fun r w' => r = .returned (.int .i64 (Pap.find name L)) ∧ Below w.heap.size w w' := by
  have hX := fun (W : World) (B : Nat) h1 h2 h3 => indexFunc_any L name b B cap A W h1 h2 h3 hL
  generalize Pap.find name L = res at hX ⊢
  have HX := Lib.hid hX; clear hX
  have HF := Lib.hid hF; clear hF
  go_enter Try.func57, Try.ntmps57
  go_wp2_with fail
  refine (HX.out _ _ (HF.out.below (up2 _ _) (Nat.le_refl _)) ((has_new w _ _ _).cell 0) (by simp)).mono ?_
  rintro r w1 ⟨rfl, hb1⟩
  go_wp2_with fail
  go_ret
  exact ⟨rfl, (up2 _ _).trans (hb1.mono (by simp; omega))⟩

theorem Val.clean_ok {x : Val} (h : x.ok) : x.clean.ok := by
  obtain ⟨k, f, i, b, t⟩ := x
  obtain ⟨hb, hi, hk⟩ := h
  unfold Val.clean
  simp only []
  split
  · exact ⟨by simp, by simp, by simp⟩
  · split
    · exact ⟨by simp, hi, by simp⟩
    · split
      · refine ⟨?_, by simp, by simp⟩
        show Val.cbits b < _
        unfold Val.cbits
        simp only [] at hb
        split <;> omega
      · split
        · exact ⟨by simp, by simp, by simp⟩
        · exact ⟨by simp, by simp, hk⟩

namespace Pap
/-- The first fault of the fields. -/
def fieldsE : List Fld → Int
  | [] => 0
  | f :: l => if word 16 f.name = false then 14 else if f.val.clean.right = false then 15 else fieldsE l
def check (id : List UInt8) (cls : Int) (L : List Fld) : Int :=
  if word 24 id = false then 13 else if cls < 0 ∨ 8 ≤ cls then 16 else if L.length = 0 ∨ 12 < L.length then 5 else if fieldsE L ≠ 0 then fieldsE L else if (L.map Fld.name).Nodup then 0 else 10

theorem fieldsE_drop (L : List Fld) (k : Nat) (h : k < L.length) : fieldsE (L.drop k) = if word 16 L[k].name = false then 14 else if L[k].val.clean.right = false then 15 else fieldsE (L.drop (k + 1)) := by
  rw [List.drop_eq_getElem_cons h]
  rfl
theorem find_self {L : List Fld} (hn : (L.map Fld.name).Nodup) (k : Nat) (hk : k < L.length) : find L[k].name L = (k : Int) := by
  refine find_at hk (by simp) (fun t ht => ?_)
  rw [beq_eq_false_iff_ne]
  intro he
  have := (List.pairwise_iff_getElem.1 hn) t k (by simp; omega) (by simpa using hk) ht
  simp only [List.getElem_map] at this
  exact this he
theorem nodup_of {L : List Fld} (h : ∀ k (hk : k < L.length), find L[k].name L = (k : Int)) : (L.map Fld.name).Nodup := by
  unfold List.Nodup
  rw [List.pairwise_iff_getElem]
  intro i j hi hj hij he
  simp only [List.length_map] at hi hj
  simp only [List.getElem_map] at he
  have h1 := h i hi
  have h2 := h j hj
  rw [he] at h1
  omega
end Pap

end Go.Proofs.Ytfcmkbeilpclmaa
