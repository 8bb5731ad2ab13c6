/-
  A policy's row that came in, opened.
-/
import Derived.Test.YtjmdpepghnhpkaaPolSpec
import Derived.Test.YtjmdpepghnhpkaaRowArg
import Derived.OpenShut
namespace Go.Proofs.Ytjmdpepghnhpkaa
open Go.ChangeShapes Go.WideShapes Go.ChangeAt Go.RowKit
set_option linter.unusedVariables false

section
variable {H : Type} {enc : TypeId × Value → H} {W : World}
set_option maxRecDepth 100000 in
/-- Eight numbers that came in. -/
theorem pol_open {r : Reach} {b0 : Nat} {v : Value} {d : DataW H} {p : List MemPlace}
    (hv : Value.okWide Try.prog W r b0 22 v) (h : DataW.Trod enc Try.prog W 0 (fun _ => true) true 22 v d p) :
    ∃ l : List Int, v = .agg (polv l) ∧ l.length = 8 := by
  simp only [Value.okWide, Try.underlying22] at hv
  obtain ⟨cs, rfl, hsz, -⟩ := hv
  have hC : Try.prog.cellsOf 22 = 8 := by kernel_rfl
  have hE : Try.prog.cellsOf 3 = 1 := by kernel_rfl
  rw [hC] at hsz
  obtain ⟨fuel, hf⟩ := h
  obtain ⟨xs, m, _, _, hl, hn, hel⟩ := DataW.trod_array Try.underlying22 hf
  rw [hE] at hel
  have hcells : (Value.agg cs).cells.toList = cs.toList := rfl
  rw [hcells] at hel
  have hone : ∀ i : Fin 8, ∃ z : Int, cs[i.1]? = some (.int .i64 z) := by
    intro i
    have hE1 := hel i.1 i.2
    rw [Nat.mul_one, List.getElem?_eq_getElem (by omega)] at hE1
    obtain ⟨z, e1, -, -⟩ := DataW.trod_int Try.underlying3 hE1
    refine ⟨z, ?_⟩
    have h0 : ((cs.toList.drop i.1).take 1)[0]? = some (.int .i64 z) := by rw [e1]; rfl
    simpa using h0
  obtain ⟨f, hf'⟩ : ∃ f : Fin 8 → Int, ∀ i : Fin 8, cs[i.1]? = some (.int .i64 (f i)) := ⟨fun i => Classical.choose (hone i), fun i => Classical.choose_spec (hone i)⟩
  refine ⟨List.ofFn f, ?_, by simp⟩
  congr 1
  apply Array.ext
  · rw [polv_size]; simp [hsz]
  · intro i h1 h2
    have hi : i < 8 := by omega
    have := hf' ⟨i, hi⟩
    rw [Array.getElem?_eq_getElem h1] at this
    rw [Option.some.inj this]
    simp only [polv, List.getElem_toArray, List.getElem_map, List.getElem_ofFn]
end
end Go.Proofs.Ytjmdpepghnhpkaa
