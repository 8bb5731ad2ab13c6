/-
  Dues as cells, rows of them. No program stands here.
-/
import Derived.Test.YtjmdpepghnhpkaaDuePure
import Derived.Test.YtjmdpepghnhpkaaRowC
namespace Go.Proofs.Ytjmdpepghnhpkaa
open Go.RowKit
set_option linter.unusedVariables false

def Du.cs (x : Du) : List Value := [.int .i64 x.seq, .int .i64 x.due]
theorem Du.cs_len (x : Du) : x.cs.length = 2 := rfl
/-- Dues as values. -/
def dvs (L : List Du) : List Value := L.flatMap Du.cs
theorem dvs_len (L : List Du) : (dvs L).length = L.length * 2 := flat_len Du.cs 2 Du.cs_len L
theorem dvs_snoc (L : List Du) (x : Du) : dvs L ++ x.cs = dvs (L ++ [x]) := by unfold dvs; rw [List.flatMap_append, List.flatMap_singleton]
theorem dvs_app (L M : List Du) : dvs L ++ dvs M = dvs (L ++ M) := by unfold dvs; rw [List.flatMap_append]
theorem dvs_take (L : List Du) (n : Nat) : (dvs L).take (n * 2) = dvs (L.take n) := flat_take Du.cs 2 Du.cs_len L n
theorem dvs_drop (L : List Du) (n : Nat) : (dvs L).drop (n * 2) = dvs (L.drop n) := flat_drop Du.cs 2 Du.cs_len L n
theorem dvs_one (L : List Du) : ∀ u ∈ dvs L, u.oneCell' = true := by
  intro u hu
  unfold dvs at hu
  obtain ⟨x, _, hx⟩ := List.mem_flatMap.1 hu
  simp [Du.cs] at hx
  rcases hx with rfl | rfl <;> rfl
/-- A slice at A reads as dues, in a block that is there and none of s. -/
abbrev RowD (w : World) (s : List Nat) (A : Option Addr) (L : List Du) : Prop := RowC w s A (dvs L)
theorem RowD.get {w : World} {s : List Nat} {A : Option Addr} {L : List Du} (h : RowD w s A L) (k : Nat) (hk : k < L.length) : ∃ b off, A = some ⟨b, off, none⟩ ∧ b < w.heap.size ∧ b ∉ s ∧ w.cell? ⟨b, off + k * 2, none⟩ = some (.int .i64 (L[k]).seq) ∧ w.cell? ⟨b, off + k * 2 + 1, none⟩ = some (.int .i64 (L[k]).due) := by
  obtain ⟨b, off, hA, hb, hn, hr⟩ := h (fun e => by
    have := dvs_len L
    rw [e, List.length_nil] at this
    omega)
  have hg := fun j (hj : j < 2) => flat_get Du.cs 2 Du.cs_len L k hk j hj
  refine ⟨b, off, hA, hb, hn, ?_, ?_⟩
  · exact hr (k * 2) _ ((hg 0 (by omega)).trans rfl)
  · rw [Nat.add_assoc]; exact hr (k * 2 + 1) _ ((hg 1 (by omega)).trans rfl)
theorem RowD.take' {w : World} {s : List Nat} {A : Option Addr} {L : List Du} (h : RowD w s A L) (k : Nat) : RowD w s A (L.take k) := by
  have := RowC.take h (k * 2)
  rwa [dvs_take] at this
theorem RowD.aft {w : World} {s : List Nat} {A : Option Addr} {L : List Du} (h : RowD w s A L) (cap k : Nat) (hc : L.length ≤ cap) : RowD w s (aft A cap k 2) (L.drop k) := by
  have := RowC.drop h cap k 2 (by rw [dvs_len]; omega)
  rwa [dvs_drop] at this
end Go.Proofs.Ytjmdpepghnhpkaa
