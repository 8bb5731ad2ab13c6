/-
  A term, a query, papers in a row, numbers that came in, opened.
-/
import Derived.Test.YtfcmkbeilpclmaaPapArg
import Derived.Test.YtfcmkbeilpclmaaFndMem
import Derived.OpenShut
namespace Go.Proofs.Ytfcmkbeilpclmaa
open Go.ChangeShapes Go.WideShapes Go.ChangeAt Go.RowKit
open Go.ChangeMaps (open_string shut_string)
set_option linter.unusedVariables false

theorem list14F {cs : List Value} (h : cs.length = 14) : ∃ c0 c1 c2 c3 c4 c5 c6 c7 c8 c9 c10 c11 c12 c13, cs = [c0, c1, c2, c3, c4, c5, c6, c7, c8, c9, c10, c11, c12, c13] := by
  match cs, h with
  | [c0, c1, c2, c3, c4, c5, c6, c7, c8, c9, c10, c11, c12, c13], _ => exact ⟨_, _, _, _, _, _, _, _, _, _, _, _, _, _, rfl⟩
theorem list3F {cs : List Value} (h : cs.length = 3) : ∃ c0 c1 c2, cs = [c0, c1, c2] := by
  match cs, h with
  | [c0, c1, c2], _ => exact ⟨_, _, _, rfl⟩
section
variable {H : Type} {enc : TypeId × Value → H} {W : World}
set_option maxRecDepth 100000 in
theorem term_trod {fuel : Nat} {c0 c1 c2 c3 c4 c5 c6 c7 c8 c9 c10 c11 c12 c13 : Value} {x : DataW H × List MemPlace} (hf : DataW.trod enc Try.prog W 0 (fun _ => true) true fuel 37 [c0, c1, c2, c3, c4, c5, c6, c7, c8, c9, c10, c11, c12, c13] = some x) :
    ∃ t : Fnd.Trm, t.low.ok ∧ t.high.ok ∧ [c0, c1, c2, c3, c4, c5, c6, c7, c8, c9, c10, c11, c12, c13] = t.cs := by
  obtain ⟨ys, n', hn', hy, hlen, hyl, hf⟩ := DataW.trod_struct Try.underlying37 hf
  match ys, hyl with
  | [y0, y1, y2, y3, y4, y5], _ =>
    have C0 : Try.prog.cellsOf 9 = 1 := by kernel_rfl
    have C1 : Try.prog.cellsOf 35 = 5 := by kernel_rfl
    have C2 : Try.prog.cellsOf 4 = 1 := by kernel_rfl
    have f0 : DataW.trod enc Try.prog W 0 (fun _ => true) true n' 9 (List.take (Try.prog.cellsOf 9) (List.drop 0 [c0, c1, c2, c3, c4, c5, c6, c7, c8, c9, c10, c11, c12, c13])) = some y0 := hf 0 _ rfl
    have f1 : DataW.trod enc Try.prog W 0 (fun _ => true) true n' 35 (List.take (Try.prog.cellsOf 35) (List.drop 1 [c0, c1, c2, c3, c4, c5, c6, c7, c8, c9, c10, c11, c12, c13])) = some y1 := hf 1 _ rfl
    have f2 : DataW.trod enc Try.prog W 0 (fun _ => true) true n' 35 (List.take (Try.prog.cellsOf 35) (List.drop 6 [c0, c1, c2, c3, c4, c5, c6, c7, c8, c9, c10, c11, c12, c13])) = some y2 := hf 2 _ rfl
    have f3 : DataW.trod enc Try.prog W 0 (fun _ => true) true n' 4 (List.take (Try.prog.cellsOf 4) (List.drop 11 [c0, c1, c2, c3, c4, c5, c6, c7, c8, c9, c10, c11, c12, c13])) = some y3 := hf 3 _ rfl
    have f4 : DataW.trod enc Try.prog W 0 (fun _ => true) true n' 4 (List.take (Try.prog.cellsOf 4) (List.drop 12 [c0, c1, c2, c3, c4, c5, c6, c7, c8, c9, c10, c11, c12, c13])) = some y4 := hf 4 _ rfl
    have f5 : DataW.trod enc Try.prog W 0 (fun _ => true) true n' 4 (List.take (Try.prog.cellsOf 4) (List.drop 13 [c0, c1, c2, c3, c4, c5, c6, c7, c8, c9, c10, c11, c12, c13])) = some y5 := hf 5 _ rfl
    rw [C0] at f0
    rw [C1] at f1 f2
    rw [C2] at f3 f4 f5
    obtain ⟨T, e0, x0, _⟩ := DataW.trod_string Try.underlying9 f0
    obtain ⟨v, hv, e1, e2, e3, e4, e5, -⟩ := val_trod f1
    obtain ⟨u, hu, e6, e7, e8, e9, e10, -⟩ := val_trod f2
    obtain ⟨F3, e11, _⟩ := DataW.trod_bool Try.underlying4 f3
    obtain ⟨F4, e12, _⟩ := DataW.trod_bool Try.underlying4 f4
    obtain ⟨F5, e13, _⟩ := DataW.trod_bool Try.underlying4 f5
    simp at e0 e11 e12 e13
    exact ⟨⟨T.data.toList, v, u, F3, F4, F5⟩, hv, hu, by
      unfold Fnd.Trm.cs
      rw [e0, e1, e2, e3, e4, e5, e6, e7, e8, e9, e10, e11, e12, e13, S_of]⟩
theorem tms_get {L : List Fnd.Trm} {j : Nat} {u : Value} (h : (tms L)[j]? = some u) : ∃ (i q : Nat) (hi : i < L.length), q < 14 ∧ j = i * 14 + q ∧ (L[i]).cs[q]? = some u := by
  obtain ⟨hlt, _⟩ := List.getElem?_eq_some_iff.1 h
  rw [tms_len] at hlt
  have hi : j / 14 < L.length := by omega
  refine ⟨j / 14, j % 14, hi, Nat.mod_lt _ (by decide), by omega, ?_⟩
  have := flat_get Fnd.Trm.cs 14 Fnd.Trm.cs_len L (j / 14) hi (j % 14) (Nat.mod_lt _ (by decide))
  rw [← this, show j / 14 * 14 + j % 14 = j from by omega]
  exact h
set_option maxRecDepth 100000 in
theorem terms_open {A : Option Addr} {len cap fuel : Nat} {x : DataW H × List MemPlace} (h : DataW.trod enc Try.prog W 0 (fun _ => true) true fuel 22 [.slice A len cap] = some x) :
    ∃ L : List Fnd.Trm, len = L.length ∧ L.length ≤ cap ∧ cap ≤ 9223372036854775807 ∧ RowTm W A L ∧ ∀ t ∈ L, t.low.ok ∧ t.high.ok := by
  rcases Deep.open_slice Try.underlying22 h with ⟨h0, _⟩ | ⟨a, len', cap', m, n, D, Pl, hcs, _, hlc, hcm, hm, hx, hi⟩
  · injection h0 with h0 _
    injection h0 with _ h1 h2
    subst h1; subst h2
    exact ⟨[], rfl, Nat.le_refl _, Nat.zero_le _, RowC.nil _ _ _, fun x hx => by cases hx⟩
  · injection hcs with hcs _; injection hcs with hA hlen hcap
    subst hA; subst hlen; subst hcap
    have hm' : len ≤ m := by rw [hm]; simp; omega
    have hC : Try.prog.cellsOf 37 = 14 := by kernel_rfl
    have hone : ∀ i : Fin len, ∃ f : Fnd.Trm, (∀ j u, f.cs[j]? = some u → W.cell? ((a.add (i.1 * 14)).add j) = some u) ∧ f.low.ok ∧ f.high.ok := by
      intro i
      obtain ⟨cs', hc, ht⟩ := hi i.1 (by have := i.2; omega)
      rw [hC] at hc
      obtain ⟨_, hcl, hat⟩ := World.cells?_some hc
      obtain ⟨c0, c1, c2, c3, c4, c5, c6, c7, c8, c9, c10, c11, c12, c13, rfl⟩ := list14F hcl
      obtain ⟨y, h1, h2, hy⟩ := term_trod ht
      refine ⟨y, fun j u hu => ?_, h1, h2⟩
      rw [← hy] at hu
      have hj : j < 14 := (List.getElem?_eq_some_iff.1 hu).1
      rw [hat j hj]
      exact hu
    obtain ⟨f, hf⟩ : ∃ f : Fin len → Fnd.Trm, ∀ i : Fin len, (∀ j u, (f i).cs[j]? = some u → W.cell? ((a.add (i.1 * 14)).add j) = some u) ∧ (f i).low.ok ∧ (f i).high.ok := ⟨fun i => Classical.choose (hone i), fun i => Classical.choose_spec (hone i)⟩
    clear hone hi hx
    refine ⟨List.ofFn f, by simp, by simpa using hlc, by simpa only [maxLen] using hcm, fun hne => ?_, fun x hx => ?_⟩
    · have hpos : 0 < len := by
        rcases Nat.eq_zero_or_pos len with h0 | h0
        · subst h0; exact absurd (by simp [tms]) hne
        · exact h0
      have h00 := (hf ⟨0, hpos⟩).1 0 _ rfl
      have ha : a = ⟨a.block, a.off, none⟩ := addr_flat (by simpa [Addr.add] using h00)
      have hblt : a.block < W.heap.size := World.block_lt_of_cell? W a (by simpa [Addr.add] using h00)
      refine ⟨a.block, a.off, by rw [← ha], hblt, by simp, fun j u hu => ?_⟩
      obtain ⟨i, q, hi, hq, rfl, hv⟩ := tms_get hu
      clear hu
      have hi' : i < len := by simpa using hi
      rw [List.getElem_ofFn] at hv
      have k0 := (hf ⟨i, hi'⟩).1 q u hv
      rw [ha] at k0
      simp only [add_flat'] at k0
      rw [← Nat.add_assoc]
      exact k0
    · obtain ⟨i, rfl⟩ := List.mem_ofFn.1 hx
      exact (hf i).2
set_option maxRecDepth 100000 in
/-- A query that came in. -/
theorem query_open {r : Reach} {b0 : Nat} {v : Value} {d : DataW H} {p : List MemPlace}
    (hv : Value.okWide Try.prog W r b0 24 v) (h : DataW.Trod enc Try.prog W 0 (fun _ => true) true 24 v d p) :
    ∃ (T : List Fnd.Trm) (A : Option Addr) (cap : Nat) (nm : List UInt8) (dn : Bool) (m : Int), v = .agg #[.slice A T.length cap, .string (S nm), .bool dn, .int .i64 m] ∧ T.length ≤ cap ∧ cap ≤ 9223372036854775807 ∧ RowTm W A T ∧ (∀ t ∈ T, t.low.ok ∧ t.high.ok) ∧ -9223372036854775808 ≤ m ∧ m ≤ 9223372036854775807 := by
  obtain ⟨cs, rfl, hsz⟩ := okWide_struct Try.underlying24 hv
  have hC : Try.prog.cellsOf 24 = 4 := by kernel_rfl
  rw [hC] at hsz
  obtain ⟨cl⟩ := cs
  match cl, hsz with
  | [c0, c1, c2, c3], _ =>
  obtain ⟨fuel, hf⟩ := h
  have hcell : (Value.agg #[c0, c1, c2, c3]).cells.toList = [c0, c1, c2, c3] := rfl
  rw [hcell] at hf
  obtain ⟨ys, n', hn', hy, hlen, hyl, hf⟩ := DataW.trod_struct Try.underlying24 hf
  match ys, hyl with
  | [y0, y1, y2, y3], _ =>
    have C0 : Try.prog.cellsOf 22 = 1 := by kernel_rfl
    have C1 : Try.prog.cellsOf 9 = 1 := by kernel_rfl
    have C2 : Try.prog.cellsOf 4 = 1 := by kernel_rfl
    have C3 : Try.prog.cellsOf 3 = 1 := by kernel_rfl
    have f0 : DataW.trod enc Try.prog W 0 (fun _ => true) true n' 22 (List.take (Try.prog.cellsOf 22) (List.drop 0 [c0, c1, c2, c3])) = some y0 := hf 0 _ rfl
    have f1 : DataW.trod enc Try.prog W 0 (fun _ => true) true n' 9 (List.take (Try.prog.cellsOf 9) (List.drop 1 [c0, c1, c2, c3])) = some y1 := hf 1 _ rfl
    have f2 : DataW.trod enc Try.prog W 0 (fun _ => true) true n' 4 (List.take (Try.prog.cellsOf 4) (List.drop 2 [c0, c1, c2, c3])) = some y2 := hf 2 _ rfl
    have f3 : DataW.trod enc Try.prog W 0 (fun _ => true) true n' 3 (List.take (Try.prog.cellsOf 3) (List.drop 3 [c0, c1, c2, c3])) = some y3 := hf 3 _ rfl
    rw [C0] at f0
    rw [C1] at f1
    rw [C2] at f2
    rw [C3] at f3
    have f0' : DataW.trod enc Try.prog W 0 (fun _ => true) true n' 22 [c0] = some y0 := f0
    obtain ⟨A, len, cap, rfl⟩ : ∃ A len cap, c0 = .slice A len cap := by
      rcases Deep.open_slice Try.underlying22 f0' with ⟨h0, _⟩ | ⟨a, len', cap', m, n, D, Pl, hcs, _⟩
      · exact ⟨none, 0, 0, by injection h0⟩
      · exact ⟨some a, len', cap', by injection hcs⟩
    obtain ⟨L, rfl, hlc, hcm, hR, hok⟩ := terms_open f0'
    obtain ⟨T, e1, x1, _⟩ := DataW.trod_string Try.underlying9 f1
    obtain ⟨F, e2, x2⟩ := DataW.trod_bool Try.underlying4 f2
    obtain ⟨K, e3, x3, wK⟩ := DataW.trod_int Try.underlying3 f3
    simp at e1 e2 e3
    have hK : -9223372036854775808 ≤ K ∧ K ≤ 9223372036854775807 := wf_bounds .i64 K wK
    exact ⟨L, A, cap, T.data.toList, F, K, by rw [e1, e2, e3, S_of], hlc, hcm, hR, hok, hK.1, hK.2⟩
set_option maxRecDepth 100000 in
/-- A term that came in. -/
theorem term_open {r : Reach} {b0 : Nat} {v : Value} {d : DataW H} {p : List MemPlace}
    (hv : Value.okWide Try.prog W r b0 37 v) (h : DataW.Trod enc Try.prog W 0 (fun _ => true) true 37 v d p) :
    ∃ t : Fnd.Trm, v = t.v ∧ t.low.ok ∧ t.high.ok := by
  obtain ⟨cs, rfl, hsz⟩ := okWide_struct Try.underlying37 hv
  have hC : Try.prog.cellsOf 37 = 14 := by kernel_rfl
  rw [hC] at hsz
  obtain ⟨cl⟩ := cs
  obtain ⟨c0, c1, c2, c3, c4, c5, c6, c7, c8, c9, c10, c11, c12, c13, rfl⟩ := list14F (cs := cl) (by simpa using hsz)
  obtain ⟨fuel, hf⟩ := h
  have hcell : (Value.agg (List.toArray [c0, c1, c2, c3, c4, c5, c6, c7, c8, c9, c10, c11, c12, c13])).cells.toList = [c0, c1, c2, c3, c4, c5, c6, c7, c8, c9, c10, c11, c12, c13] := rfl
  rw [hcell] at hf
  obtain ⟨t, h1, h2, e⟩ := term_trod hf
  exact ⟨t, by rw [e]; rfl, h1, h2⟩
set_option maxRecDepth 100000 in
/-- A paper in a row. -/
theorem ppr_trod {fuel : Nat} {c0 c1 c2 : Value} {x : DataW H × List MemPlace} (hf : DataW.trod enc Try.prog W 0 (fun _ => true) true fuel 27 [c0, c1, c2] = some x) (hw : ∀ n ∈ x.1.weights Try.prog 27, n ≤ 1000000000000000) :
    ∃ p : Ppr, [c0, c1, c2] = p.cs ∧ FSl W p.b p.A p.L ∧ (∀ f ∈ p.L, f.ok ∧ f.name.length ≤ 1000000000000000 ∧ f.val.text.length ≤ 1000000000000000) ∧ p.L.length ≤ 1000000000000000 ∧ p.id.length ≤ 1000000000000000 := by
  obtain ⟨ys, n', hn', hy, hlen, hyl, hf⟩ := DataW.trod_struct Try.underlying27 hf
  match ys, hyl with
  | [y0, y1, y2], _ =>
    have C0 : Try.prog.cellsOf 9 = 1 := by kernel_rfl
    have C1 : Try.prog.cellsOf 3 = 1 := by kernel_rfl
    have C2 : Try.prog.cellsOf 25 = 1 := by kernel_rfl
    have f0 : DataW.trod enc Try.prog W 0 (fun _ => true) true n' 9 (List.take (Try.prog.cellsOf 9) (List.drop 0 [c0, c1, c2])) = some y0 := hf 0 _ rfl
    have f1 : DataW.trod enc Try.prog W 0 (fun _ => true) true n' 3 (List.take (Try.prog.cellsOf 3) (List.drop 1 [c0, c1, c2])) = some y1 := hf 1 _ rfl
    have f2 : DataW.trod enc Try.prog W 0 (fun _ => true) true n' 25 (List.take (Try.prog.cellsOf 25) (List.drop 2 [c0, c1, c2])) = some y2 := hf 2 _ rfl
    rw [C0] at f0
    rw [C1] at f1
    rw [C2] at f2
    have f2' : DataW.trod enc Try.prog W 0 (fun _ => true) true n' 25 [c2] = some y2 := f2
    obtain ⟨T, e0, x0, _⟩ := DataW.trod_string Try.underlying9 f0
    obtain ⟨K, e1, x1, wK⟩ := DataW.trod_int Try.underlying3 f1
    simp at e0 e1
    have hwe : x.1.weights Try.prog 27 = DataW.weightsEach Try.prog [9, 3, 25] [y0.1, y1.1, y2.1] := by
      rw [hy]
      show (DataW.agg [y0.1, y1.1, y2.1]).weights Try.prog 27 = _
      rw [DataW.weights, Try.underlying27]
      rfl
    rw [hwe] at hw
    obtain ⟨A, len, cap, rfl⟩ : ∃ A len cap, c2 = .slice A len cap := by
      rcases Deep.open_slice Try.underlying25 f2' with ⟨h0, _⟩ | ⟨a, len', cap', m, n, D, Pl, hcs, _⟩
      · exact ⟨none, 0, 0, by injection h0⟩
      · exact ⟨some a, len', cap', by injection hcs⟩
    obtain ⟨L, b, rfl, hF, hok, hlc, hcm⟩ := fields_trod f2' (fun n hn => hw n (DataW.weights_mem_each (j := 2) (t := 25) (d := y2.1) rfl rfl n hn))
    refine ⟨⟨T.data.toList, K, A, L, cap, b⟩, by unfold Ppr.cs; rw [e0, e1, S_of], hF, hok, hcm, ?_⟩
    exact hw _ (DataW.weights_mem_each (j := 0) (t := 9) (d := y0.1) rfl rfl _ (by rw [x0]; simp [DataW.weights]))
theorem pprs_get {L : List Ppr} {j : Nat} {u : Value} (h : (pprs L)[j]? = some u) : ∃ (i q : Nat) (hi : i < L.length), q < 3 ∧ j = i * 3 + q ∧ (L[i]).cs[q]? = some u := by
  obtain ⟨hlt, _⟩ := List.getElem?_eq_some_iff.1 h
  rw [pprs_len] at hlt
  have hi : j / 3 < L.length := by omega
  refine ⟨j / 3, j % 3, hi, Nat.mod_lt _ (by decide), by omega, ?_⟩
  have := flat_get Ppr.cs 3 Ppr.cs_len L (j / 3) hi (j % 3) (Nat.mod_lt _ (by decide))
  rw [← this, show j / 3 * 3 + j % 3 = j from by omega]
  exact h
/-- Papers that came in: long ones, too. -/
structure RowPl (w : World) (A : Option Addr) (L : List Ppr) : Prop where
  row : RowC w [] A (pprs L)
  each : ∀ p ∈ L, FSl w p.b p.A p.L ∧ (∀ f ∈ p.L, f.ok ∧ f.name.length ≤ 1000000000000000 ∧ f.val.text.length ≤ 1000000000000000) ∧ p.L.length ≤ 1000000000000000 ∧ p.id.length ≤ 1000000000000000
set_option maxRecDepth 100000 in
theorem papers_open {A : Option Addr} {len cap fuel : Nat} {x : DataW H × List MemPlace} (h : DataW.trod enc Try.prog W 0 (fun _ => true) true fuel 40 [.slice A len cap] = some x)
    (hw : ∀ n ∈ x.1.weights Try.prog 40, n ≤ 1000000000000000) :
    ∃ L : List Ppr, len = L.length ∧ L.length ≤ cap ∧ cap ≤ 9223372036854775807 ∧ RowPl W A L := by
  rcases Deep.open_slice Try.underlying40 h with ⟨h0, _⟩ | ⟨a, len', cap', m, n, D, Pl, hcs, _, hlc, hcm, hm, hx, hi⟩
  · injection h0 with h0 _
    injection h0 with _ h1 h2
    subst h1; subst h2
    exact ⟨[], rfl, Nat.le_refl _, Nat.zero_le _, RowC.nil _ _ _, fun x hx => by cases hx⟩
  · injection hcs with hcs _; injection hcs with hA hlen hcap
    subst hA; subst hlen; subst hcap
    have hm' : len ≤ m := by rw [hm]; simp; omega
    have hC : Try.prog.cellsOf 27 = 3 := by kernel_rfl
    have hone : ∀ i : Fin len, ∃ f : Ppr, (∀ j u, f.cs[j]? = some u → W.cell? ((a.add (i.1 * 3)).add j) = some u) ∧ FSl W f.b f.A f.L ∧ (∀ g ∈ f.L, g.ok ∧ g.name.length ≤ 1000000000000000 ∧ g.val.text.length ≤ 1000000000000000) ∧ f.L.length ≤ 1000000000000000 ∧ f.id.length ≤ 1000000000000000 := by
      intro i
      obtain ⟨cs', hc, ht⟩ := hi i.1 (by have := i.2; omega)
      rw [hC] at hc
      obtain ⟨_, hcl, hat⟩ := World.cells?_some hc
      obtain ⟨c0, c1, c2, rfl⟩ := list3F hcl
      have hmem : D i.1 ∈ (List.range len).map D := List.mem_map.2 ⟨i.1, List.mem_range.2 i.2, rfl⟩
      obtain ⟨y, hy, h1⟩ := ppr_trod ht (fun n hn => hw n (by rw [hx]; exact weights_slice Try.underlying40 hmem hn))
      refine ⟨y, fun j u hu => ?_, h1⟩
      rw [← hy] at hu
      have hj : j < 3 := (List.getElem?_eq_some_iff.1 hu).1
      rw [hat j hj]
      exact hu
    obtain ⟨f, hf⟩ : ∃ f : Fin len → Ppr, ∀ i : Fin len, (∀ j u, (f i).cs[j]? = some u → W.cell? ((a.add (i.1 * 3)).add j) = some u) ∧ FSl W (f i).b (f i).A (f i).L ∧ (∀ g ∈ (f i).L, g.ok ∧ g.name.length ≤ 1000000000000000 ∧ g.val.text.length ≤ 1000000000000000) ∧ (f i).L.length ≤ 1000000000000000 ∧ (f i).id.length ≤ 1000000000000000 := ⟨fun i => Classical.choose (hone i), fun i => Classical.choose_spec (hone i)⟩
    clear hone hi hx
    refine ⟨List.ofFn f, by simp, by simpa using hlc, by simpa only [maxLen] using hcm, fun hne => ?_, fun x hx => ?_⟩
    · have hpos : 0 < len := by
        rcases Nat.eq_zero_or_pos len with h0 | h0
        · subst h0; exact absurd (by simp [pprs]) hne
        · exact h0
      have h00 := (hf ⟨0, hpos⟩).1 0 _ rfl
      have ha : a = ⟨a.block, a.off, none⟩ := addr_flat (by simpa [Addr.add] using h00)
      have hblt : a.block < W.heap.size := World.block_lt_of_cell? W a (by simpa [Addr.add] using h00)
      refine ⟨a.block, a.off, by rw [← ha], hblt, by simp, fun j u hu => ?_⟩
      obtain ⟨i, q, hi, hq, rfl, hv⟩ := pprs_get hu
      clear hu
      have hi' : i < len := by simpa using hi
      rw [List.getElem_ofFn] at hv
      have k0 := (hf ⟨i, hi'⟩).1 q u hv
      rw [ha] at k0
      simp only [add_flat'] at k0
      rw [← Nat.add_assoc]
      exact k0
    · obtain ⟨i, rfl⟩ := List.mem_ofFn.1 hx
      exact (hf i).2
end
end Go.Proofs.Ytfcmkbeilpclmaa
