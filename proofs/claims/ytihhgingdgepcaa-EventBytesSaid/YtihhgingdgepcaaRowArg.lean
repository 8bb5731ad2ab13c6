/-
  Rows of slips, of numbers, of texts that came in, opened.
-/
import Derived.Test.YtihhgingdgepcaaRowC
import Derived.Test.YtihhgingdgepcaaLaw
import Derived.Test.YtihhgingdgepcaaRows
import Derived.Deep.Slices
import Derived.SizedLaws
import Derived.Lib.SmallJoins
namespace Go.Proofs.Ytihhgingdgepcaa
open Go.ChangeShapes Go.WideShapes Go.ChangeAt Go.RowKit
open Go.ChangeMaps (open_string shut_string)
set_option linter.unusedVariables false

theorem addr_flatS {w : World} {a : Addr} {v : Value} (h : w.cell? a = some v) : a = ⟨a.block, a.off, none⟩ := by
  obtain ⟨b, o, s⟩ := a
  cases s with
  | none => rfl
  | some x => exfalso; unfold World.cell? at h; split at h <;> simp at h

section
variable {H : Type} {enc : TypeId × Value → H} {W : World}
set_option maxRecDepth 100000 in
theorem slip_trod {fuel : Nat} {cs : List Value} {x : DataW H × List MemPlace} (a : Addr) (hc : W.cells? 0 a 4 = some cs) (h : DataW.trod enc Try.prog W 0 (fun _ => true) true fuel 60 cs = some x) :
    ∃ f : Slp, W.cell? a = some (.string (S f.n)) ∧ W.cell? (a.add 1) = some (.string (S f.p)) ∧ W.cell? (a.add 2) = some (.string (S f.c)) ∧ W.cell? (a.add 3) = some (.bool f.e) := by
  obtain ⟨_, hcl, hat⟩ := World.cells?_some hc
  obtain ⟨ys, n', hn', hy, hlen, hyl, hf⟩ := DataW.trod_struct Try.underlying60 h
  match cs, hcl with
  | [c0, c1, c2, c3], _ =>
    match ys, hyl with
    | [y0, y1, y2, y3], _ =>
      have C0 : Try.prog.cellsOf 9 = 1 := by kernel_rfl
      have C1 : Try.prog.cellsOf 4 = 1 := by kernel_rfl
      have f0 : DataW.trod enc Try.prog W 0 (fun _ => true) true n' 9 (List.take (Try.prog.cellsOf 9) (List.drop 0 [c0, c1, c2, c3])) = some y0 := hf 0 _ rfl
      have f1 : DataW.trod enc Try.prog W 0 (fun _ => true) true n' 9 (List.take (Try.prog.cellsOf 9) (List.drop 1 [c0, c1, c2, c3])) = some y1 := hf 1 _ rfl
      have f2 : DataW.trod enc Try.prog W 0 (fun _ => true) true n' 9 (List.take (Try.prog.cellsOf 9) (List.drop 2 [c0, c1, c2, c3])) = some y2 := hf 2 _ rfl
      have f3 : DataW.trod enc Try.prog W 0 (fun _ => true) true n' 4 (List.take (Try.prog.cellsOf 4) (List.drop 3 [c0, c1, c2, c3])) = some y3 := hf 3 _ rfl
      rw [C0] at f0 f1 f2
      rw [C1] at f3
      obtain ⟨T0, e0, x0, _⟩ := DataW.trod_string Try.underlying9 f0
      obtain ⟨T1, e1, x1, _⟩ := DataW.trod_string Try.underlying9 f1
      obtain ⟨T2, e2, x2, _⟩ := DataW.trod_string Try.underlying9 f2
      obtain ⟨F, e3, x3⟩ := DataW.trod_bool Try.underlying4 f3
      have g0 := hat 0 (by omega)
      have g1 := hat 1 (by omega)
      have g2 := hat 2 (by omega)
      have g3 := hat 3 (by omega)
      simp at e0 e1 e2 e3 g0 g1 g2 g3
      subst e0; subst e1; subst e2; subst e3
      refine ⟨⟨T0.data.toList, T1.data.toList, T2.data.toList, F⟩, ?_, ?_, ?_, g3⟩
      · have : W.cell? a = some (.string T0) := by simpa [Addr.add] using g0
        rw [this]; simp [S_of]
      · rw [g1]; simp [S_of]
      · rw [g2]; simp [S_of]
theorem svs_get {L : List Slp} {j : Nat} {u : Value} (h : (svs L)[j]? = some u) : ∃ (i q : Nat) (hi : i < L.length), q < 4 ∧ j = i * 4 + q ∧ (L[i]).cs[q]? = some u := by
  obtain ⟨hlt, _⟩ := List.getElem?_eq_some_iff.1 h
  rw [svs_len] at hlt
  have hi : j / 4 < L.length := by omega
  refine ⟨j / 4, j % 4, hi, Nat.mod_lt _ (by decide), by omega, ?_⟩
  have := flat_get Slp.cs 4 Slp.cs_len L (j / 4) hi (j % 4) (Nat.mod_lt _ (by decide))
  rw [← this, show j / 4 * 4 + j % 4 = j from by omega]
  exact h
set_option maxRecDepth 100000 in
theorem slips_open {A : Option Addr} {len cap fuel : Nat} {x : DataW H × List MemPlace} (h : DataW.trod enc Try.prog W 0 (fun _ => true) true fuel 22 [.slice A len cap] = some x) :
    ∃ L : List Slp, len = L.length ∧ L.length ≤ cap ∧ cap ≤ 9223372036854775807 ∧ RowP W [] A L := by
  rcases Deep.open_slice Try.underlying22 h with ⟨h0, _⟩ | ⟨a, len', cap', m, n, D, Pl, hcs, _, hlc, hcm, hm, hx, hi⟩
  · injection h0 with h0 _
    injection h0 with _ h1 h2
    subst h1; subst h2
    exact ⟨[], rfl, Nat.le_refl _, Nat.zero_le _, RowC.nil _ _ _⟩
  · injection hcs with hcs _; injection hcs with hA hlen hcap
    subst hA; subst hlen; subst hcap
    have hm' : len ≤ m := by rw [hm]; simp; omega
    have hC : Try.prog.cellsOf 60 = 4 := by kernel_rfl
    have hone : ∀ i : Fin len, ∃ f : Slp, W.cell? (a.add (i.1 * 4)) = some (.string (S f.n)) ∧ W.cell? ((a.add (i.1 * 4)).add 1) = some (.string (S f.p)) ∧ W.cell? ((a.add (i.1 * 4)).add 2) = some (.string (S f.c)) ∧ W.cell? ((a.add (i.1 * 4)).add 3) = some (.bool f.e) := by
      intro i
      obtain ⟨cs', hc, ht⟩ := hi i.1 (by have := i.2; omega)
      rw [hC] at hc
      exact slip_trod _ hc ht
    obtain ⟨f, hf⟩ : ∃ f : Fin len → Slp, ∀ i : Fin len, W.cell? (a.add (i.1 * 4)) = some (.string (S (f i).n)) ∧ W.cell? ((a.add (i.1 * 4)).add 1) = some (.string (S (f i).p)) ∧ W.cell? ((a.add (i.1 * 4)).add 2) = some (.string (S (f i).c)) ∧ W.cell? ((a.add (i.1 * 4)).add 3) = some (.bool (f i).e) := ⟨fun i => Classical.choose (hone i), fun i => Classical.choose_spec (hone i)⟩
    clear hone hi hx
    refine ⟨List.ofFn f, by simp, by simpa using hlc, by simpa only [maxLen] using hcm, fun hne => ?_⟩
    have hpos : 0 < len := by
      rcases Nat.eq_zero_or_pos len with h0 | h0
      · subst h0; exact absurd (by simp [svs]) hne
      · exact h0
    have h00 := (hf ⟨0, hpos⟩).1
    have ha : a = ⟨a.block, a.off, none⟩ := addr_flatS (by simpa [Addr.add] using h00)
    have hblt : a.block < W.heap.size := World.block_lt_of_cell? W a (by simpa [Addr.add] using h00)
    refine ⟨a.block, a.off, by rw [← ha], hblt, by simp, fun j u hu => ?_⟩
    obtain ⟨i, q, hi, hq, rfl, hv⟩ := svs_get hu
    clear hu
    have hi' : i < len := by simpa using hi
    obtain ⟨k0, k1, k2, k3⟩ := hf ⟨i, hi'⟩
    rw [List.getElem_ofFn] at hv
    clear hf h hm hcm hlc h00 hblt
    generalize a.block = b at ha
    generalize a.off = off at ha
    subst ha
    simp only [add_flat'] at k0 k1 k2 k3
    unfold Slp.cs at hv
    have hq' : q = 0 ∨ q = 1 ∨ q = 2 ∨ q = 3 := by omega
    rcases hq' with rfl | rfl | rfl | rfl
    · injection hv with hv; rw [← hv]; exact k0
    · injection hv with hv; rw [← hv, ← Nat.add_assoc]; exact k1
    · injection hv with hv; rw [← hv, ← Nat.add_assoc]; exact k2
    · injection hv with hv; rw [← hv, ← Nat.add_assoc]; exact k3
set_option maxRecDepth 100000 in
theorem tvs_open {A : Option Addr} {len cap fuel : Nat} {x : DataW H × List MemPlace} (h : DataW.trod enc Try.prog W 0 (fun _ => true) true fuel 23 [.slice A len cap] = some x) :
    ∃ L : List (List UInt8), len = L.length ∧ L.length ≤ cap ∧ cap ≤ 9223372036854775807 ∧ RowC W [] A (tvs L) := by
  have hC : Try.prog.cellsOf 9 = 1 := by kernel_rfl
  rcases Deep.open_slice1 Try.underlying23 hC h with ⟨h0, _⟩ | ⟨a, len', cap', m, n, V, D, Pl, hcs, _, hlc, hcm, hm, hx, hi⟩
  · injection h0 with h0 _
    injection h0 with _ h1 h2
    subst h1; subst h2
    exact ⟨[], rfl, Nat.le_refl _, Nat.zero_le _, RowC.nil _ _ _⟩
  · injection hcs with hcs _; injection hcs with hA hlen hcap
    subst hA; subst hlen; subst hcap
    have hm' : len ≤ m := by rw [hm]; simp; omega
    have hone : ∀ i : Fin len, ∃ k : List UInt8, W.cell? (a.add i.1) = some (.string (S k)) := by
      intro i
      obtain ⟨hc, ht⟩ := hi i.1 (by have := i.2; omega)
      obtain ⟨K, e0, _, _⟩ := DataW.trod_string Try.underlying9 ht
      injection e0 with e0
      exact ⟨K.data.toList, by rw [hc, e0, S_of]⟩
    obtain ⟨f, hf⟩ : ∃ f : Fin len → List UInt8, ∀ i : Fin len, W.cell? (a.add i.1) = some (.string (S (f i))) := ⟨fun i => Classical.choose (hone i), fun i => Classical.choose_spec (hone i)⟩
    clear hone hi hx
    refine ⟨List.ofFn f, by simp, by simpa using hlc, by simpa only [maxLen] using hcm, fun hne => ?_⟩
    have hpos : 0 < len := by
      rcases Nat.eq_zero_or_pos len with h0 | h0
      · subst h0; exact absurd (by simp [tvs]) hne
      · exact h0
    have h00 := hf ⟨0, hpos⟩
    have ha : a = ⟨a.block, a.off, none⟩ := addr_flatS (by simpa [Addr.add] using h00)
    have hblt : a.block < W.heap.size := World.block_lt_of_cell? W a (by simpa [Addr.add] using h00)
    refine ⟨a.block, a.off, by rw [← ha], hblt, by simp, fun j u hu => ?_⟩
    unfold tvs at hu
    rw [List.getElem?_map] at hu
    cases hj : (List.ofFn f)[j]? with
    | none => rw [hj] at hu; cases hu
    | some y =>
      rw [hj, Option.map_some] at hu
      injection hu with hu
      obtain ⟨hlt, hy⟩ := List.getElem?_eq_some_iff.1 hj
      have hj' : j < len := by simpa using hlt
      rw [List.getElem_ofFn] at hy
      have k0 := hf ⟨j, hj'⟩
      rw [← hu, ← hy]
      have hadd : a.add j = ⟨a.block, a.off + j, none⟩ := by
        have := add_flat' a.block a.off j
        rwa [← ha] at this
      rw [← hadd]
      exact k0
end
end Go.Proofs.Ytihhgingdgepcaa
