/-
  Rows of dues, and of calls, a due, a policy that came in, opened.
-/
import Derived.Test.YtjmdpepghnhpkaaRowArg
import Derived.Test.YtjmdpepghnhpkaaPolicyPlays
import Derived.Laws.IdiomArrays
import Derived.OpenShut
namespace Go.Proofs.Ytjmdpepghnhpkaa
open Go.ChangeShapes Go.WideShapes Go.ChangeAt Go.RowKit
open Go.ChangeMaps (open_string shut_string)
set_option linter.unusedVariables false

section
variable {H : Type} {enc : TypeId × Value → H} {W : World}
set_option maxRecDepth 100000 in
theorem wfMost {n : Int} (h : (Lit.int .i64 n).wf = true) : n ≤ 9223372036854775807 := by
  have h1 : (decide (IntKind.i64.min ≤ n) && decide (n ≤ IntKind.i64.max)) = true := h
  rw [Bool.and_eq_true, decide_eq_true_iff, decide_eq_true_iff] at h1
  exact h1.2
set_option maxRecDepth 100000 in
theorem due_cells {fuel : Nat} {c0 c1 : Value} {x : DataW H × List MemPlace} (h : DataW.trod enc Try.prog W 0 (fun _ => true) true fuel 34 [c0, c1] = some x) :
    ∃ f : Du, c0 = .int .i64 f.seq ∧ c1 = .int .i64 f.due ∧ f.due ≤ 9223372036854775807 := by
  obtain ⟨ys, n', hn', hy, hlen, hyl, hf⟩ := DataW.trod_struct Try.underlying34 h
  match ys, hyl with
  | [y0, y1], _ =>
    have C0 : Try.prog.cellsOf 3 = 1 := by kernel_rfl
    have f0 : DataW.trod enc Try.prog W 0 (fun _ => true) true n' 3 (List.take (Try.prog.cellsOf 3) (List.drop 0 [c0, c1])) = some y0 := hf 0 _ rfl
    have f1 : DataW.trod enc Try.prog W 0 (fun _ => true) true n' 3 (List.take (Try.prog.cellsOf 3) (List.drop 1 [c0, c1])) = some y1 := hf 1 _ rfl
    rw [C0] at f0 f1
    obtain ⟨K0, e0, _, _⟩ := DataW.trod_int Try.underlying3 f0
    obtain ⟨K1, e1, _, b1⟩ := DataW.trod_int Try.underlying3 f1
    simp at e0 e1
    exact ⟨⟨K0, K1⟩, e0, e1, wfMost b1⟩
set_option maxRecDepth 100000 in
theorem due_trod {fuel : Nat} {cs : List Value} {x : DataW H × List MemPlace} (a : Addr) (hc : W.cells? 0 a 2 = some cs) (h : DataW.trod enc Try.prog W 0 (fun _ => true) true fuel 34 cs = some x) :
    ∃ f : Du, W.cell? a = some (.int .i64 f.seq) ∧ W.cell? (a.add 1) = some (.int .i64 f.due) := by
  obtain ⟨_, hcl, hat⟩ := World.cells?_some hc
  match cs, hcl with
  | [c0, c1], _ =>
    obtain ⟨f, e0, e1, -⟩ := due_cells h
    have g0 := hat 0 (by omega)
    have g1 := hat 1 (by omega)
    simp at g0 g1
    refine ⟨f, ?_, by rw [g1, e1]⟩
    rw [← e0]
    simpa [Addr.add] using g0
theorem dvs_get {L : List Du} {j : Nat} {u : Value} (h : (dvs L)[j]? = some u) : ∃ (i q : Nat) (hi : i < L.length), q < 2 ∧ j = i * 2 + q ∧ (L[i]).cs[q]? = some u := by
  obtain ⟨hlt, _⟩ := List.getElem?_eq_some_iff.1 h
  rw [dvs_len] at hlt
  have hi : j / 2 < L.length := by omega
  refine ⟨j / 2, j % 2, hi, Nat.mod_lt _ (by decide), by omega, ?_⟩
  have := flat_get Du.cs 2 Du.cs_len L (j / 2) hi (j % 2) (Nat.mod_lt _ (by decide))
  rw [← this, show j / 2 * 2 + j % 2 = j from by omega]
  exact h
set_option maxRecDepth 100000 in
theorem dues_open {A : Option Addr} {len cap fuel : Nat} {x : DataW H × List MemPlace} (h : DataW.trod enc Try.prog W 0 (fun _ => true) true fuel 30 [.slice A len cap] = some x) :
    ∃ L : List Du, len = L.length ∧ L.length ≤ cap ∧ cap ≤ 9223372036854775807 ∧ RowD W [] A L := by
  rcases Deep.open_slice Try.underlying30 h with ⟨h0, _⟩ | ⟨a, len', cap', m, n, D, Pl, hcs, _, hlc, hcm, hm, hx, hi⟩
  · injection h0 with h0 _
    injection h0 with _ h1 h2
    subst h1; subst h2
    exact ⟨[], rfl, Nat.le_refl _, Nat.zero_le _, RowC.nil _ _ _⟩
  · injection hcs with hcs _; injection hcs with hA hlen hcap
    subst hA; subst hlen; subst hcap
    have hm' : len ≤ m := by rw [hm]; simp; omega
    have hC : Try.prog.cellsOf 34 = 2 := by kernel_rfl
    have hone : ∀ i : Fin len, ∃ f : Du, W.cell? (a.add (i.1 * 2)) = some (.int .i64 f.seq) ∧ W.cell? ((a.add (i.1 * 2)).add 1) = some (.int .i64 f.due) := by
      intro i
      obtain ⟨cs', hc, ht⟩ := hi i.1 (by have := i.2; omega)
      rw [hC] at hc
      exact due_trod _ hc ht
    obtain ⟨f, hf⟩ : ∃ f : Fin len → Du, ∀ i : Fin len, W.cell? (a.add (i.1 * 2)) = some (.int .i64 (f i).seq) ∧ W.cell? ((a.add (i.1 * 2)).add 1) = some (.int .i64 (f i).due) := ⟨fun i => Classical.choose (hone i), fun i => Classical.choose_spec (hone i)⟩
    clear hone hi hx
    refine ⟨List.ofFn f, by simp, by simpa using hlc, by simpa only [maxLen] using hcm, fun hne => ?_⟩
    have hpos : 0 < len := by
      rcases Nat.eq_zero_or_pos len with h0 | h0
      · subst h0; exact absurd (by simp [dvs]) hne
      · exact h0
    have h00 := (hf ⟨0, hpos⟩).1
    have ha : a = ⟨a.block, a.off, none⟩ := addr_flatS (by simpa [Addr.add] using h00)
    have hblt : a.block < W.heap.size := World.block_lt_of_cell? W a (by simpa [Addr.add] using h00)
    refine ⟨a.block, a.off, by rw [← ha], hblt, by simp, fun j u hu => ?_⟩
    obtain ⟨i, q, hi, hq, rfl, hv⟩ := dvs_get hu
    clear hu
    have hi' : i < len := by simpa using hi
    obtain ⟨k0, k1⟩ := hf ⟨i, hi'⟩
    rw [List.getElem_ofFn] at hv
    clear hf h hm hcm hlc h00 hblt
    generalize a.block = b at ha
    generalize a.off = off at ha
    subst ha
    simp only [add_flat'] at k0 k1
    unfold Du.cs at hv
    have hq' : q = 0 ∨ q = 1 := by omega
    rcases hq' with rfl | rfl
    · injection hv with hv; rw [← hv]; exact k0
    · injection hv with hv; rw [← hv, ← Nat.add_assoc]; exact k1
set_option maxRecDepth 100000 in
theorem qop_trod {fuel : Nat} {cs : List Value} {x : DataW H × List MemPlace} (a : Addr) (hc : W.cells? 0 a 3 = some cs) (h : DataW.trod enc Try.prog W 0 (fun _ => true) true fuel 36 cs = some x) :
    ∃ f : Qop, W.cell? a = some (.int .i64 f.kind) ∧ W.cell? (a.add 1) = some (.int .i64 f.seq) ∧ W.cell? (a.add 2) = some (.int .i64 f.due) ∧ f.due ≤ 9223372036854775807 := by
  obtain ⟨_, hcl, hat⟩ := World.cells?_some hc
  obtain ⟨ys, n', hn', hy, hlen, hyl, hf⟩ := DataW.trod_struct Try.underlying36 h
  match cs, hcl with
  | [c0, c1, c2], _ =>
    match ys, hyl with
    | [y0, y1], _ =>
      have C0 : Try.prog.cellsOf 3 = 1 := by kernel_rfl
      have C1 : Try.prog.cellsOf 34 = 2 := by kernel_rfl
      have f0 : DataW.trod enc Try.prog W 0 (fun _ => true) true n' 3 (List.take (Try.prog.cellsOf 3) (List.drop 0 [c0, c1, c2])) = some y0 := hf 0 _ rfl
      have f1 : DataW.trod enc Try.prog W 0 (fun _ => true) true n' 34 (List.take (Try.prog.cellsOf 34) (List.drop 1 [c0, c1, c2])) = some y1 := hf 1 _ rfl
      rw [C0] at f0
      rw [C1] at f1
      obtain ⟨K0, e0, _, _⟩ := DataW.trod_int Try.underlying3 f0
      obtain ⟨f, e1, e2, e3⟩ := due_cells (c0 := c1) (c1 := c2) f1
      have g0 := hat 0 (by omega)
      have g1 := hat 1 (by omega)
      have g2 := hat 2 (by omega)
      simp at e0 g0 g1 g2
      refine ⟨⟨K0, f.seq, f.due⟩, ?_, by rw [g1, e1], by rw [g2, e2], e3⟩
      rw [← e0]
      simpa [Addr.add] using g0
theorem qvs_get {L : List Qop} {j : Nat} {u : Value} (h : (qvs L)[j]? = some u) : ∃ (i q : Nat) (hi : i < L.length), q < 3 ∧ j = i * 3 + q ∧ (L[i]).cs[q]? = some u := by
  obtain ⟨hlt, _⟩ := List.getElem?_eq_some_iff.1 h
  rw [qvs_len] at hlt
  have hi : j / 3 < L.length := by omega
  refine ⟨j / 3, j % 3, hi, Nat.mod_lt _ (by decide), by omega, ?_⟩
  have := flat_get Qop.cs 3 Qop.cs_len L (j / 3) hi (j % 3) (Nat.mod_lt _ (by decide))
  rw [← this, show j / 3 * 3 + j % 3 = j from by omega]
  exact h
set_option maxRecDepth 100000 in
theorem qops_open {A : Option Addr} {len cap fuel : Nat} {x : DataW H × List MemPlace} (h : DataW.trod enc Try.prog W 0 (fun _ => true) true fuel 28 [.slice A len cap] = some x) :
    ∃ L : List Qop, len = L.length ∧ L.length ≤ cap ∧ cap ≤ 9223372036854775807 ∧ RowC W [] A (qvs L) ∧ ∀ x ∈ L, x.due ≤ 9223372036854775807 := by
  rcases Deep.open_slice Try.underlying28 h with ⟨h0, _⟩ | ⟨a, len', cap', m, n, D, Pl, hcs, _, hlc, hcm, hm, hx, hi⟩
  · injection h0 with h0 _
    injection h0 with _ h1 h2
    subst h1; subst h2
    exact ⟨[], rfl, Nat.le_refl _, Nat.zero_le _, RowC.nil _ _ _, by simp⟩
  · injection hcs with hcs _; injection hcs with hA hlen hcap
    subst hA; subst hlen; subst hcap
    have hm' : len ≤ m := by rw [hm]; simp; omega
    have hC : Try.prog.cellsOf 36 = 3 := by kernel_rfl
    have hone : ∀ i : Fin len, ∃ f : Qop, W.cell? (a.add (i.1 * 3)) = some (.int .i64 f.kind) ∧ W.cell? ((a.add (i.1 * 3)).add 1) = some (.int .i64 f.seq) ∧ W.cell? ((a.add (i.1 * 3)).add 2) = some (.int .i64 f.due) ∧ f.due ≤ 9223372036854775807 := by
      intro i
      obtain ⟨cs', hc, ht⟩ := hi i.1 (by have := i.2; omega)
      rw [hC] at hc
      exact qop_trod _ hc ht
    obtain ⟨f, hf⟩ : ∃ f : Fin len → Qop, ∀ i : Fin len, W.cell? (a.add (i.1 * 3)) = some (.int .i64 (f i).kind) ∧ W.cell? ((a.add (i.1 * 3)).add 1) = some (.int .i64 (f i).seq) ∧ W.cell? ((a.add (i.1 * 3)).add 2) = some (.int .i64 (f i).due) ∧ (f i).due ≤ 9223372036854775807 := ⟨fun i => Classical.choose (hone i), fun i => Classical.choose_spec (hone i)⟩
    clear hone hi hx
    refine ⟨List.ofFn f, by simp, by simpa using hlc, by simpa only [maxLen] using hcm, fun hne => ?_, fun x hx => by
      obtain ⟨i, hi, rfl⟩ := List.getElem_of_mem hx
      rw [List.getElem_ofFn]
      exact (hf _).2.2.2⟩
    have hpos : 0 < len := by
      rcases Nat.eq_zero_or_pos len with h0 | h0
      · subst h0; exact absurd (by simp [qvs]) hne
      · exact h0
    have h00 := (hf ⟨0, hpos⟩).1
    have ha : a = ⟨a.block, a.off, none⟩ := addr_flatS (by simpa [Addr.add] using h00)
    have hblt : a.block < W.heap.size := World.block_lt_of_cell? W a (by simpa [Addr.add] using h00)
    refine ⟨a.block, a.off, by rw [← ha], hblt, by simp, fun j u hu => ?_⟩
    obtain ⟨i, q, hi, hq, rfl, hv⟩ := qvs_get hu
    clear hu
    have hi' : i < len := by simpa using hi
    obtain ⟨k0, k1, k2, -⟩ := hf ⟨i, hi'⟩
    rw [List.getElem_ofFn] at hv
    clear hf h hm hcm hlc h00 hblt
    generalize a.block = b at ha
    generalize a.off = off at ha
    subst ha
    simp only [add_flat'] at k0 k1 k2
    unfold Qop.cs at hv
    have hq' : q = 0 ∨ q = 1 ∨ q = 2 := by omega
    rcases hq' with rfl | rfl | rfl
    · injection hv with hv; rw [← hv]; exact k0
    · injection hv with hv; rw [← hv, ← Nat.add_assoc]; exact k1
    · injection hv with hv; rw [← hv, ← Nat.add_assoc]; exact k2
set_option maxRecDepth 100000 in
/-- A due that came in. -/
theorem due_open {r : Reach} {b0 : Nat} {v : Value} {d : DataW H} {p : List MemPlace}
    (hv : Value.okWide Try.prog W r b0 34 v) (h : DataW.Trod enc Try.prog W 0 (fun _ => true) true 34 v d p) :
    ∃ x : Du, v = .agg #[.int .i64 x.seq, .int .i64 x.due] := by
  obtain ⟨cs, rfl, hsz⟩ := okWide_struct Try.underlying34 hv
  have hC : Try.prog.cellsOf 34 = 2 := by kernel_rfl
  rw [hC] at hsz
  obtain ⟨cl⟩ := cs
  match cl, hsz with
  | [c0, c1], _ =>
  obtain ⟨fuel, hf⟩ := h
  have hcell : (Value.agg #[c0, c1]).cells.toList = [c0, c1] := rfl
  rw [hcell] at hf
  obtain ⟨f, e0, e1, -⟩ := due_cells hf
  exact ⟨f, by rw [e0, e1]⟩
end
end Go.Proofs.Ytjmdpepghnhpkaa
