/-
  Rows of slips, of numbers, of texts that came in, opened.
-/
import Derived.Test.YtjmdpepghnhpkaaRowC
import Derived.Test.YtjmdpepghnhpkaaLaw
import Derived.Test.YtjmdpepghnhpkaaRows
import Derived.Deep.Slices
import Derived.SizedLaws
import Derived.Lib.SmallJoins
namespace Go.Proofs.Ytjmdpepghnhpkaa
open Go.ChangeShapes Go.WideShapes Go.ChangeAt Go.RowKit
open Go.ChangeMaps (open_string shut_string)
set_option linter.unusedVariables false

theorem addr_flatS {w : World} {a : Addr} {v : Value} (h : w.cell? a = some v) : a = ⟨a.block, a.off, none⟩ := by
  obtain ⟨b, o, s⟩ := a
  cases s with
  | none => rfl
  | some x => exfalso; unfold World.cell? at h; split at h <;> simp at h

section
variable {H : Type} {enc : TypeId × Value → H} {W : World}
theorem svs_get {L : List Slp} {j : Nat} {u : Value} (h : (svs L)[j]? = some u) : ∃ (i q : Nat) (hi : i < L.length), q < 4 ∧ j = i * 4 + q ∧ (L[i]).cs[q]? = some u := by
  obtain ⟨hlt, _⟩ := List.getElem?_eq_some_iff.1 h
  rw [svs_len] at hlt
  have hi : j / 4 < L.length := by omega
  refine ⟨j / 4, j % 4, hi, Nat.mod_lt _ (by decide), by omega, ?_⟩
  have := flat_get Slp.cs 4 Slp.cs_len L (j / 4) hi (j % 4) (Nat.mod_lt _ (by decide))
  rw [← this, show j / 4 * 4 + j % 4 = j from by omega]
  exact h
set_option maxRecDepth 100000 in
theorem ints_open {A : Option Addr} {len cap fuel : Nat} {x : DataW H × List MemPlace} (h : DataW.trod enc Try.prog W 0 (fun _ => true) true fuel 47 [.slice A len cap] = some x) :
    ∃ L : List Int, len = L.length ∧ L.length ≤ cap ∧ cap ≤ 9223372036854775807 ∧ RowI W [] A L := by
  have hC : Try.prog.cellsOf 3 = 1 := by kernel_rfl
  rcases Deep.open_slice1 Try.underlying47 hC h with ⟨h0, _⟩ | ⟨a, len', cap', m, n, V, D, Pl, hcs, _, hlc, hcm, hm, hx, hi⟩
  · injection h0 with h0 _
    injection h0 with _ h1 h2
    subst h1; subst h2
    exact ⟨[], rfl, Nat.le_refl _, Nat.zero_le _, RowC.nil _ _ _⟩
  · injection hcs with hcs _; injection hcs with hA hlen hcap
    subst hA; subst hlen; subst hcap
    have hm' : len ≤ m := by rw [hm]; simp; omega
    have hone : ∀ i : Fin len, ∃ k : Int, W.cell? (a.add i.1) = some (.int .i64 k) := by
      intro i
      obtain ⟨hc, ht⟩ := hi i.1 (by have := i.2; omega)
      obtain ⟨K, e0, _, _⟩ := DataW.trod_int Try.underlying3 ht
      injection e0 with e0
      exact ⟨K, by rw [hc, e0]⟩
    obtain ⟨f, hf⟩ : ∃ f : Fin len → Int, ∀ i : Fin len, W.cell? (a.add i.1) = some (.int .i64 (f i)) := ⟨fun i => Classical.choose (hone i), fun i => Classical.choose_spec (hone i)⟩
    clear hone hi hx
    refine ⟨List.ofFn f, by simp, by simpa using hlc, by simpa only [maxLen] using hcm, fun hne => ?_⟩
    have hpos : 0 < len := by
      rcases Nat.eq_zero_or_pos len with h0 | h0
      · subst h0; exact absurd (by simp [ivs]) hne
      · exact h0
    have h00 := hf ⟨0, hpos⟩
    have ha : a = ⟨a.block, a.off, none⟩ := addr_flatS (by simpa [Addr.add] using h00)
    have hblt : a.block < W.heap.size := World.block_lt_of_cell? W a (by simpa [Addr.add] using h00)
    refine ⟨a.block, a.off, by rw [← ha], hblt, by simp, fun j u hu => ?_⟩
    unfold ivs at hu
    rw [List.getElem?_map] at hu
    cases hj : (List.ofFn f)[j]? with
    | none => rw [hj] at hu; cases hu
    | some y =>
      rw [hj, Option.map_some] at hu
      injection hu with hu
      obtain ⟨hlt, hy⟩ := List.getElem?_eq_some_iff.1 hj
      have hj' : j < len := by simpa using hlt
      rw [List.getElem_ofFn] at hy
      have k0 := hf ⟨j, hj'⟩
      rw [← hu, ← hy]
      have hadd : a.add j = ⟨a.block, a.off + j, none⟩ := by
        have := add_flat' a.block a.off j
        rwa [← ha] at this
      rw [← hadd]
      exact k0
end
end Go.Proofs.Ytjmdpepghnhpkaa
