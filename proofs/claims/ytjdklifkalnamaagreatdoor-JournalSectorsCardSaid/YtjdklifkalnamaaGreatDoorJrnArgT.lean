/-
  An argument that is a slice of texts.
-/
import Derived.Test.YtjdklifkalnamaaGreatDoorTextArg
namespace Go.Proofs.YtjdklifkalnamaaGreatDoor
open Go.ChangeShapes Go.WideShapes Go.ChangeAt Go.RowKit
set_option linter.unusedVariables false

section
variable {H : Type} {enc : TypeId × Value → H} {W : World}
theorem jtexts_open {fuel : Nat} {A : Option Addr} {len cap : Nat} {x : DataW H × List MemPlace} (h : DataW.trod enc Tryz.prog W 0 (fun _ => true) true fuel 28 [.slice A len cap] = some x)
    (hw : ∀ n ∈ x.1.weights Tryz.prog 28, n ≤ 1000000000000000) :
    ∃ l : List (List UInt8), len = l.length ∧ l.length ≤ cap ∧ cap ≤ 9223372036854775807 ∧ (l ≠ [] → ∃ b off, A = some ⟨b, off, none⟩ ∧ b < W.heap.size ∧ TRow W b off l) ∧ (∀ s ∈ l, s.length ≤ 1000000000000000) := by
  have hx := texts_args h hw
  rcases open_strings Tryz.underlying28 Tryz.underlying9 (by kernel_rfl) h with ⟨hcs, rfl⟩ | ⟨a, len', cap', ss, hcs, _, hlc, _, hz, rfl, hcell, _⟩
  · injection hcs with hcs _; injection hcs with h1 h2 h3
    subst h1; subst h2; subst h3
    exact ⟨[], rfl, Nat.zero_le _, Nat.zero_le _, (fun h => absurd rfl h), (fun s hs => by cases hs)⟩
  · injection hcs with hcs _; injection hcs with h1 h2 h3
    subst h1; subst h2; subst h3
    obtain ⟨l, hl, hr, hb, _⟩ := hx
    refine ⟨l, hl.symm, by rw [hl]; exact hlc, ?_, hr, hb⟩
    have hlen : ss.length = cap := by rw [hz]; simp
    have hby : Tryz.prog.bytesOf 9 = 16 := by kernel_rfl
    have := hw (((strs (ss.take len)).length + (strs (ss.drop len)).length) * 16) (by rw [DataW.weights, Tryz.underlying28, ← hby]; exact List.mem_cons.2 (Or.inl rfl))
    simp only [strs, List.length_map, List.length_take, List.length_drop] at this
    omega
end
end Go.Proofs.YtjdklifkalnamaaGreatDoor
