/-
  A slice of entries that came in, opened.
-/
import Derived.Test.YtphhaiccpllnpaaDoorMillLaw
import Derived.Deep.Slices
import Derived.SizedLaws
namespace Go.Proofs.YtphhaiccpllnpaaDoor
open Go.ChangeShapes Go.WideShapes Go.ChangeAt Go.RowKit
set_option linter.unusedVariables false

theorem addr_flat {w : World} {a : Addr} {v : Value} (h : w.cell? a = some v) : a = ⟨a.block, a.off, none⟩ := by
  obtain ⟨b, o, s⟩ := a
  cases s with
  | none => rfl
  | some x => exfalso; unfold World.cell? at h; split at h <;> simp at h
theorem add_flat (b off i : Nat) : (⟨b, off, none⟩ : Addr).add i = ⟨b, off + i, none⟩ := by
  unfold Addr.add; split <;> simp_all

section
variable {H : Type} {enc : TypeId × Value → H} {W : World}
theorem weights_all {P : Program} {e : TypeId} {d : DataW H} {n : Nat} : ∀ {l : List (DataW H)}, d ∈ l → n ∈ d.weights P e → n ∈ DataW.weightsAll P e l
  | [], h, _ => by cases h
  | x :: r, h, hn => by
    rw [DataW.weightsAll]
    rcases List.mem_cons.1 h with rfl | h
    · exact List.mem_append_left _ hn
    · exact List.mem_append_right _ (weights_all h hn)
theorem weights_slice {P : Program} {t e : TypeId} (ht : P.underlying t = some (.slice e)) {el sp : List (DataW H)} {d : DataW H} (hd : d ∈ el) {n : Nat} (hn : n ∈ d.weights P e) : n ∈ (DataW.slice el sp).weights P t := by
  rw [DataW.weights, ht]
  exact List.mem_cons_of_mem _ (List.mem_append_left _ (weights_all hd hn))
theorem weights_len {P : Program} {t e : TypeId} (ht : P.underlying t = some (.slice e)) {el sp : List (DataW H)} : (el.length + sp.length) * P.bytesOf e ∈ (DataW.slice el sp).weights P t := by
  rw [DataW.weights, ht]
  exact List.mem_cons_self ..

set_option maxRecDepth 100000 in
theorem ent_open {fuel : Nat} {cs : List Value} {x : DataW H × List MemPlace} (a : Addr) (hc : W.cells? 0 a 4 = some cs) (h : DataW.trod enc Tryd.prog W 0 (fun _ => true) true fuel 85 cs = some x) :
    ∃ e : Mill.En, W.cell? a = some (.bool e.tag) ∧ W.cell? (a.add 1) = some (.string (S e.key)) ∧ W.cell? (a.add 2) = some (.string (S e.text)) ∧ W.cell? (a.add 3) = some (.string (S e.out)) ∧
      (e.key.length ∈ x.1.weights Tryd.prog 85) ∧ (e.text.length ∈ x.1.weights Tryd.prog 85) ∧ e.out.length ∈ x.1.weights Tryd.prog 85 := by
  obtain ⟨_, hcl, hat⟩ := World.cells?_some hc
  obtain ⟨ys, n', hn', hy, hlen, hyl, hf⟩ := DataW.trod_struct Tryd.underlying85 h
  match cs, hcl with
  | [c0, c1, c2, c3], _ =>
    match ys, hyl with
    | [y0, y1, y2, y3], _ =>
      have f0 : DataW.trod enc Tryd.prog W 0 (fun _ => true) true n' 4 (List.take (Tryd.prog.cellsOf 4) (List.drop 0 [c0, c1, c2, c3])) = some y0 := hf 0 _ rfl
      have f1 : DataW.trod enc Tryd.prog W 0 (fun _ => true) true n' 9 (List.take (Tryd.prog.cellsOf 9) (List.drop 1 [c0, c1, c2, c3])) = some y1 := hf 1 _ rfl
      have f2 : DataW.trod enc Tryd.prog W 0 (fun _ => true) true n' 9 (List.take (Tryd.prog.cellsOf 9) (List.drop 2 [c0, c1, c2, c3])) = some y2 := hf 2 _ rfl
      have f3 : DataW.trod enc Tryd.prog W 0 (fun _ => true) true n' 9 (List.take (Tryd.prog.cellsOf 9) (List.drop 3 [c0, c1, c2, c3])) = some y3 := hf 3 _ rfl
      rw [cellsBool] at f0
      rw [cellsStr] at f1 f2 f3
      obtain ⟨F, e0, x0⟩ := DataW.trod_bool Tryd.underlying4 f0
      obtain ⟨T1, e1, x1, _⟩ := DataW.trod_string Tryd.underlying9 f1
      obtain ⟨T2, e2, x2, _⟩ := DataW.trod_string Tryd.underlying9 f2
      obtain ⟨T3, e3, x3, _⟩ := DataW.trod_string Tryd.underlying9 f3
      have g0 := hat 0 (by omega)
      have g1 := hat 1 (by omega)
      have g2 := hat 2 (by omega)
      have g3 := hat 3 (by omega)
      simp at e0 e1 e2 e3 g0 g1 g2 g3
      subst e0; subst e1; subst e2; subst e3
      have hw : x.1.weights Tryd.prog 85 = DataW.weightsEach Tryd.prog [4, 9, 9, 9] [y0.1, y1.1, y2.1, y3.1] := by
        rw [hy]
        show (DataW.agg [y0.1, y1.1, y2.1, y3.1]).weights Tryd.prog 85 = _
        rw [DataW.weights, Tryd.underlying85]
        rfl
      rw [hw]
      refine ⟨⟨F, T1.data.toList, T2.data.toList, T3.data.toList⟩, by simpa [Addr.add] using g0, ?_, ?_, ?_, ?_, ?_, ?_⟩
      · rw [g1]; simp [S_of]
      · rw [g2]; simp [S_of]
      · rw [g3]; simp [S_of]
      · exact DataW.weights_mem_each (j := 1) (t := 9) (d := y1.1) rfl rfl _ (by rw [x1]; simp [DataW.weights])
      · exact DataW.weights_mem_each (j := 2) (t := 9) (d := y2.1) rfl rfl _ (by rw [x2]; simp [DataW.weights])
      · exact DataW.weights_mem_each (j := 3) (t := 9) (d := y3.1) rfl rfl _ (by rw [x3]; simp [DataW.weights])

set_option maxRecDepth 100000 in
theorem ents_open {A : Option Addr} {len cap fuel : Nat} {x : DataW H × List MemPlace} (h : DataW.trod enc Tryd.prog W 0 (fun _ => true) true fuel 53 [.slice A len cap] = some x)
    (hw : ∀ n ∈ x.1.weights Tryd.prog 53, n ≤ 1000000000000000) :
    ∃ l : List Mill.En, l.length = len ∧ Ents W A l ∧ Mill.fit l ∧ len ≤ cap ∧ cap ≤ maxLen := by
  rcases Deep.open_slice Tryd.underlying53 h with ⟨h0, _⟩ | ⟨a, len', cap', m, n, D, Pl, hcs, _, hlc, hcm, hm, hx, hi⟩
  · injection h0 with h0 _
    injection h0 with _ h1 h2
    subst h1; subst h2
    exact ⟨[], rfl, fun h => absurd rfl h, (fun e he => by cases he), Nat.le_refl _, Nat.zero_le _⟩
  · injection hcs with hcs _; injection hcs with hA hlen hcap
    subst hA; subst hlen; subst hcap
    have hm' : len ≤ m := by rw [hm]; simp; omega
    have hC : Tryd.prog.cellsOf 85 = 4 := by kernel_rfl
    have hone : ∀ i : Fin len, ∃ e : Mill.En, W.cell? (a.add (i.1 * 4)) = some (.bool e.tag) ∧ W.cell? ((a.add (i.1 * 4)).add 1) = some (.string (S e.key)) ∧ W.cell? ((a.add (i.1 * 4)).add 2) = some (.string (S e.text)) ∧ W.cell? ((a.add (i.1 * 4)).add 3) = some (.string (S e.out)) ∧
        e.key.length ≤ 1000000000000000 ∧ e.text.length ≤ 1000000000000000 := by
      intro i
      obtain ⟨cs', hc, ht⟩ := hi i.1 (by have := i.2; omega)
      rw [hC] at hc
      obtain ⟨e, h0, h1, h2, h3, w1, w2, _⟩ := ent_open _ hc ht
      have hmem : D i.1 ∈ (List.range len).map D := List.mem_map.2 ⟨i.1, List.mem_range.2 i.2, rfl⟩
      refine ⟨e, h0, h1, h2, h3, hw _ ?_, hw _ ?_⟩
      · rw [hx]; exact weights_slice Tryd.underlying53 hmem w1
      · rw [hx]; exact weights_slice Tryd.underlying53 hmem w2
    obtain ⟨f, hf⟩ : ∃ f : Fin len → Mill.En, ∀ i : Fin len, W.cell? (a.add (i.1 * 4)) = some (.bool (f i).tag) ∧ W.cell? ((a.add (i.1 * 4)).add 1) = some (.string (S (f i).key)) ∧ W.cell? ((a.add (i.1 * 4)).add 2) = some (.string (S (f i).text)) ∧ W.cell? ((a.add (i.1 * 4)).add 3) = some (.string (S (f i).out)) ∧
        (f i).key.length ≤ 1000000000000000 ∧ (f i).text.length ≤ 1000000000000000 := ⟨fun i => Classical.choose (hone i), fun i => Classical.choose_spec (hone i)⟩
    clear hone hi hx
    refine ⟨List.ofFn f, by simp, fun hne => ?_, fun e he => ?_, hlc, hcm⟩
    · have hpos : 0 < len := by
        rcases Nat.eq_zero_or_pos len with h0 | h0
        · subst h0; simp at hne
        · exact h0
      have h00 := (hf ⟨0, hpos⟩).1
      have ha : a = ⟨a.block, a.off, none⟩ := addr_flat (by simpa [Addr.add] using h00)
      refine ⟨a.block, a.off, by rw [← ha], fun i hi => ?_⟩
      have hi' : i < len := by simpa using hi
      obtain ⟨k0, k1, k2, k3, _⟩ := hf ⟨i, hi'⟩
      simp only [List.getElem_ofFn]
      clear hf h hm hcm hlc h00
      generalize a.block = b at ha
      generalize a.off = off at ha
      subst ha
      simp only [add_flat] at k0 k1 k2 k3
      exact ⟨k0, k1, k2, k3⟩
    · obtain ⟨i, rfl⟩ := (List.mem_ofFn ..).1 he
      exact (hf i).2.2.2.2
end
end Go.Proofs.YtphhaiccpllnpaaDoor
