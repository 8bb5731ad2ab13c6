/-
  A paper that came in, opened.
-/
import Derived.Test.YtfcmkbeilpclmaaFind
import Derived.Test.YtfcmkbeilpclmaaLaw
import Derived.Test.YtfcmkbeilpclmaaRows
import Derived.Deep.Slices
import Derived.SizedLaws
import Derived.Lib.SmallJoins
namespace Go.Proofs.Ytfcmkbeilpclmaa
open Go.ChangeShapes Go.WideShapes Go.ChangeAt Go.RowKit
open Go.ChangeMaps (open_string shut_string)
set_option linter.unusedVariables false

theorem array3 {α : Type} {cs : Array α} (h : cs.size = 3) : ∃ c0 c1 c2, cs = #[c0, c1, c2] := by
  obtain ⟨l⟩ := cs
  match l, h with
  | [c0, c1, c2], _ => exact ⟨c0, c1, c2, rfl⟩
theorem addr_flat {w : World} {a : Addr} {v : Value} (h : w.cell? a = some v) : a = ⟨a.block, a.off, none⟩ := by
  obtain ⟨b, o, s⟩ := a
  cases s with
  | none => rfl
  | some x => exfalso; unfold World.cell? at h; split at h <;> simp at h
theorem add_flat (b off i : Nat) : (⟨b, off, none⟩ : Addr).add i = ⟨b, off + i, none⟩ := by
  unfold Addr.add; split <;> simp_all
theorem reach_le : reachBytes ≤ 1000000000000000 := by decide
theorem wf_bounds (k : IntKind) (n : Int) (h : (Lit.int k n).wf = true) : k.min ≤ n ∧ n ≤ k.max := by
  unfold Lit.wf at h
  simpa only [Bool.and_eq_true, decide_eq_true_eq] using h

section
variable {H : Type} {enc : TypeId × Value → H} {W : World}
theorem weights_all {P : Program} {e : TypeId} {d : DataW H} {n : Nat} : ∀ {l : List (DataW H)}, d ∈ l → n ∈ d.weights P e → n ∈ DataW.weightsAll P e l
  | [], h, _ => by cases h
  | x :: r, h, hn => by
    rw [DataW.weightsAll]
    rcases List.mem_cons.1 h with rfl | h
    · exact List.mem_append_left _ hn
    · exact List.mem_append_right _ (weights_all h hn)
theorem weights_slice {P : Program} {t e : TypeId} (ht : P.underlying t = some (.slice e)) {el sp : List (DataW H)} {d : DataW H} (hd : d ∈ el) {n : Nat} (hn : n ∈ d.weights P e) : n ∈ (DataW.slice el sp).weights P t := by
  rw [DataW.weights, ht]
  exact List.mem_cons_of_mem _ (List.mem_append_left _ (weights_all hd hn))

theorem weights_len {P : Program} {t e : TypeId} (ht : P.underlying t = some (.slice e)) {el sp : List (DataW H)} : (el.length + sp.length) * P.bytesOf e ∈ (DataW.slice el sp).weights P t := by
  rw [DataW.weights, ht]
  exact List.mem_cons_self ..

set_option maxRecDepth 100000 in
theorem val_trod {fuel : Nat} {c0 c1 c2 c3 c4 : Value} {x : DataW H × List MemPlace} (hf : DataW.trod enc Try.prog W 0 (fun _ => true) true fuel 35 [c0, c1, c2, c3, c4] = some x) :
    ∃ v : Val, v.ok ∧ c0 = .int .i64 v.kind ∧ c1 = .bool v.flag ∧ c2 = .int .i64 v.int ∧ c3 = .int .u64 (v.bits : Int) ∧ c4 = .string (S v.text) ∧ v.text.length ∈ x.1.weights Try.prog 35 := by
  obtain ⟨ys, n', hn', hy, hlen, hyl, hf⟩ := DataW.trod_struct Try.underlying35 hf
  match ys, hyl with
  | [y0, y1, y2, y3, y4], _ =>
    have C1 : Try.prog.cellsOf 3 = 1 := by kernel_rfl
    have C2 : Try.prog.cellsOf 4 = 1 := by kernel_rfl
    have C3 : Try.prog.cellsOf 2 = 1 := by kernel_rfl
    have C4 : Try.prog.cellsOf 33 = 1 := by kernel_rfl
    have C5 : Try.prog.cellsOf 9 = 1 := by kernel_rfl
    have f0 : DataW.trod enc Try.prog W 0 (fun _ => true) true n' 3 (List.take (Try.prog.cellsOf 3) (List.drop 0 [c0, c1, c2, c3, c4])) = some y0 := hf 0 _ rfl
    have f1 : DataW.trod enc Try.prog W 0 (fun _ => true) true n' 4 (List.take (Try.prog.cellsOf 4) (List.drop 1 [c0, c1, c2, c3, c4])) = some y1 := hf 1 _ rfl
    have f2 : DataW.trod enc Try.prog W 0 (fun _ => true) true n' 2 (List.take (Try.prog.cellsOf 2) (List.drop 2 [c0, c1, c2, c3, c4])) = some y2 := hf 2 _ rfl
    have f3 : DataW.trod enc Try.prog W 0 (fun _ => true) true n' 33 (List.take (Try.prog.cellsOf 33) (List.drop 3 [c0, c1, c2, c3, c4])) = some y3 := hf 3 _ rfl
    have f4 : DataW.trod enc Try.prog W 0 (fun _ => true) true n' 9 (List.take (Try.prog.cellsOf 9) (List.drop 4 [c0, c1, c2, c3, c4])) = some y4 := hf 4 _ rfl
    rw [C1] at f0
    rw [C2] at f1
    rw [C3] at f2
    rw [C4] at f3
    rw [C5] at f4
    obtain ⟨K, e0, x0, wK⟩ := DataW.trod_int Try.underlying3 f0
    obtain ⟨F, e1, x1⟩ := DataW.trod_bool Try.underlying4 f1
    obtain ⟨I, e2, x2, wI⟩ := DataW.trod_int Try.underlying2 f2
    obtain ⟨B, e3, x3, wB⟩ := DataW.trod_int Try.underlying33 f3
    obtain ⟨T, e4, x4, _⟩ := DataW.trod_string Try.underlying9 f4
    simp at e0 e1 e2 e3 e4
    have hK : -9223372036854775808 ≤ K ∧ K ≤ 9223372036854775807 := wf_bounds .i64 K wK
    have hI : -9223372036854775808 ≤ I ∧ I ≤ 9223372036854775807 := wf_bounds .i64 I wI
    have hB : 0 ≤ B ∧ B ≤ 18446744073709551615 := wf_bounds .u64 B wB
    obtain ⟨b, rfl⟩ := Int.eq_ofNat_of_zero_le hB.1
    have hw : x.1.weights Try.prog 35 = DataW.weightsEach Try.prog [3, 4, 2, 33, 9] [y0.1, y1.1, y2.1, y3.1, y4.1] := by
      rw [hy]
      show (DataW.agg [y0.1, y1.1, y2.1, y3.1, y4.1]).weights Try.prog 35 = _
      rw [DataW.weights, Try.underlying35]
      rfl
    rw [hw]
    refine ⟨⟨K, F, I, b, T.data.toList⟩, ⟨?_, ?_, ?_⟩, e0, e1, e2, e3, by rw [e4, S_of], ?_⟩
    · show b < 18446744073709551616
      omega
    · show -9223372036854775808 ≤ I ∧ I < 9223372036854775808
      omega
    · show -9223372036854775808 ≤ K ∧ K < 9223372036854775808
      omega
    · exact DataW.weights_mem_each (j := 4) (t := 9) (d := y4.1) rfl rfl _ (by rw [x4]; simp [DataW.weights])

set_option maxRecDepth 100000 in
theorem field_trod {fuel : Nat} {cs : List Value} {x : DataW H × List MemPlace} (a : Addr) (hc : W.cells? 0 a 6 = some cs) (h : DataW.trod enc Try.prog W 0 (fun _ => true) true fuel 58 cs = some x) :
    ∃ f : Fld, f.ok ∧ W.cell? a = some (.string (S f.name)) ∧ W.cell? (a.add 1) = some (.int .i64 f.val.kind) ∧ W.cell? (a.add 2) = some (.bool f.val.flag) ∧ W.cell? (a.add 3) = some (.int .i64 f.val.int) ∧
      W.cell? (a.add 4) = some (.int .u64 (f.val.bits : Int)) ∧ W.cell? (a.add 5) = some (.string (S f.val.text)) ∧ f.name.length ∈ x.1.weights Try.prog 58 ∧ f.val.text.length ∈ x.1.weights Try.prog 58 := by
  obtain ⟨_, hcl, hat⟩ := World.cells?_some hc
  obtain ⟨ys, n', hn', hy, hlen, hyl, hf⟩ := DataW.trod_struct Try.underlying58 h
  match cs, hcl with
  | [d0, d1, d2, d3, d4, d5], _ =>
    match ys, hyl with
    | [y0, y1], _ =>
      have C0 : Try.prog.cellsOf 9 = 1 := by kernel_rfl
      have C1 : Try.prog.cellsOf 35 = 5 := by kernel_rfl
      have f0 : DataW.trod enc Try.prog W 0 (fun _ => true) true n' 9 (List.take (Try.prog.cellsOf 9) (List.drop 0 [d0, d1, d2, d3, d4, d5])) = some y0 := hf 0 _ rfl
      have f1 : DataW.trod enc Try.prog W 0 (fun _ => true) true n' 35 (List.take (Try.prog.cellsOf 35) (List.drop 1 [d0, d1, d2, d3, d4, d5])) = some y1 := hf 1 _ rfl
      rw [C0] at f0
      rw [C1] at f1
      obtain ⟨T, e0, x0, _⟩ := DataW.trod_string Try.underlying9 f0
      obtain ⟨v, hv, e1, e2, e3, e4, e5, hwt⟩ := val_trod f1
      have g0 := hat 0 (by omega)
      have g1 := hat 1 (by omega)
      have g2 := hat 2 (by omega)
      have g3 := hat 3 (by omega)
      have g4 := hat 4 (by omega)
      have g5 := hat 5 (by omega)
      simp at e0 g0 g1 g2 g3 g4 g5
      subst e0; subst e1; subst e2; subst e3; subst e4; subst e5
      have hw : x.1.weights Try.prog 58 = DataW.weightsEach Try.prog [9, 35] [y0.1, y1.1] := by
        rw [hy]
        show (DataW.agg [y0.1, y1.1]).weights Try.prog 58 = _
        rw [DataW.weights, Try.underlying58]
        rfl
      rw [hw]
      refine ⟨⟨T.data.toList, v⟩, hv, ?_, g1, g2, g3, g4, g5, ?_, ?_⟩
      · have : W.cell? a = some (.string T) := by simpa [Addr.add] using g0
        rw [this]; simp [S_of]
      · exact DataW.weights_mem_each (j := 0) (t := 9) (d := y0.1) rfl rfl _ (by rw [x0]; simp [DataW.weights])
      · exact DataW.weights_mem_each (j := 1) (t := 35) (d := y1.1) rfl rfl _ hwt

set_option maxRecDepth 100000 in
theorem fields_trod {A : Option Addr} {len cap fuel : Nat} {x : DataW H × List MemPlace} (h : DataW.trod enc Try.prog W 0 (fun _ => true) true fuel 25 [.slice A len cap] = some x)
    (hw : ∀ n ∈ x.1.weights Try.prog 25, n ≤ 1000000000000000) :
    ∃ (L : List Fld) (b : Nat), L.length = len ∧ FSl W b A L ∧ (∀ f ∈ L, f.ok ∧ f.name.length ≤ 1000000000000000 ∧ f.val.text.length ≤ 1000000000000000) ∧ len ≤ cap ∧ len ≤ 1000000000000000 := by
  rcases Deep.open_slice Try.underlying25 h with ⟨h0, _⟩ | ⟨a, len', cap', m, n, D, Pl, hcs, _, hlc, hcm, hm, hx, hi⟩
  · injection h0 with h0 _
    injection h0 with _ h1 h2
    subst h1; subst h2
    exact ⟨[], 0, rfl, fun h => absurd rfl h, (fun e he => by cases he), Nat.le_refl _, Nat.zero_le _⟩
  · injection hcs with hcs _; injection hcs with hA hlen hcap
    subst hA; subst hlen; subst hcap
    have hm' : len ≤ m := by rw [hm]; simp; omega
    have hC : Try.prog.cellsOf 58 = 6 := by kernel_rfl
    have hll : len ≤ 1000000000000000 := by
      have hby : Try.prog.bytesOf 58 = 64 := by kernel_rfl
      have h1 := hw _ (by rw [hx]; exact weights_len Try.underlying25)
      rw [hby, List.length_map, List.length_range] at h1
      omega
    have hone : ∀ i : Fin len, ∃ f : Fld, f.ok ∧ W.cell? (a.add (i.1 * 6)) = some (.string (S f.name)) ∧ W.cell? ((a.add (i.1 * 6)).add 1) = some (.int .i64 f.val.kind) ∧ W.cell? ((a.add (i.1 * 6)).add 2) = some (.bool f.val.flag) ∧ W.cell? ((a.add (i.1 * 6)).add 3) = some (.int .i64 f.val.int) ∧
        W.cell? ((a.add (i.1 * 6)).add 4) = some (.int .u64 (f.val.bits : Int)) ∧ W.cell? ((a.add (i.1 * 6)).add 5) = some (.string (S f.val.text)) ∧
        f.name.length ≤ 1000000000000000 ∧ f.val.text.length ≤ 1000000000000000 := by
      intro i
      obtain ⟨cs', hc, ht⟩ := hi i.1 (by have := i.2; omega)
      rw [hC] at hc
      obtain ⟨f, hk, h0, h1, h2, h3, h4, h5, w1, w2⟩ := field_trod _ hc ht
      have hmem : D i.1 ∈ (List.range len).map D := List.mem_map.2 ⟨i.1, List.mem_range.2 i.2, rfl⟩
      refine ⟨f, hk, h0, h1, h2, h3, h4, h5, hw _ ?_, hw _ ?_⟩
      · rw [hx]; exact weights_slice Try.underlying25 hmem w1
      · rw [hx]; exact weights_slice Try.underlying25 hmem w2
    obtain ⟨f, hf⟩ : ∃ f : Fin len → Fld, ∀ i : Fin len, (f i).ok ∧ W.cell? (a.add (i.1 * 6)) = some (.string (S (f i).name)) ∧ W.cell? ((a.add (i.1 * 6)).add 1) = some (.int .i64 (f i).val.kind) ∧ W.cell? ((a.add (i.1 * 6)).add 2) = some (.bool (f i).val.flag) ∧ W.cell? ((a.add (i.1 * 6)).add 3) = some (.int .i64 (f i).val.int) ∧
        W.cell? ((a.add (i.1 * 6)).add 4) = some (.int .u64 ((f i).val.bits : Int)) ∧ W.cell? ((a.add (i.1 * 6)).add 5) = some (.string (S (f i).val.text)) ∧
        (f i).name.length ≤ 1000000000000000 ∧ (f i).val.text.length ≤ 1000000000000000 := ⟨fun i => Classical.choose (hone i), fun i => Classical.choose_spec (hone i)⟩
    clear hone hi hx
    refine ⟨List.ofFn f, a.block, by simp, fun hne => ?_, fun e he => ?_, hlc, hll⟩
    · have hpos : 0 < len := by
        rcases Nat.eq_zero_or_pos len with h0 | h0
        · subst h0; simp at hne
        · exact h0
      have h00 := (hf ⟨0, hpos⟩).2.1
      have ha : a = ⟨a.block, a.off, none⟩ := addr_flat (by simpa [Addr.add] using h00)
      have hblt : a.block < W.heap.size := World.block_lt_of_cell? W a (by simpa [Addr.add] using h00)
      refine ⟨a.off, by rw [← ha], hblt, fun i hi => ?_⟩
      have hi' : i < len := by simpa using hi
      obtain ⟨-, k0, k1, k2, k3, k4, k5, -⟩ := hf ⟨i, hi'⟩
      simp only [List.getElem_ofFn]
      clear hf h hm hcm hlc h00 hblt hll
      generalize a.block = b at ha
      generalize a.off = off at ha
      subst ha
      simp only [add_flat] at k0 k1 k2 k3 k4 k5
      exact ⟨k0, k1, k2, k3, k4, k5⟩
    · obtain ⟨i, rfl⟩ := (List.mem_ofFn ..).1 he
      exact ⟨(hf i).1, (hf i).2.2.2.2.2.2.2⟩

set_option maxRecDepth 100000 in
/-- A paper that came in. -/
theorem paper_open {r : Reach} {b0 : Nat} {v : Value} {d : DataW H} {p : List MemPlace}
    (hv : Value.okWide Try.prog W r b0 27 v) (h : DataW.Trod enc Try.prog W 0 (fun _ => true) true 27 v d p)
    (hw : ∀ n ∈ d.weights Try.prog 27, n ≤ 1000000000000000) :
    ∃ (id : List UInt8) (cls : Int) (A : Option Addr) (L : List Fld) (b cap : Nat), v = .agg #[.string (S id), .int .i64 cls, .slice A L.length cap] ∧ FSl W b A L ∧ (∀ f ∈ L, f.ok ∧ f.name.length ≤ 1000000000000000 ∧ f.val.text.length ≤ 1000000000000000) ∧
      L.length ≤ cap ∧ L.length ≤ 1000000000000000 ∧ id.length ≤ 1000000000000000 ∧ -9223372036854775808 ≤ cls ∧ cls ≤ 9223372036854775807 := by
  obtain ⟨cs, rfl, hsz⟩ := okWide_struct Try.underlying27 hv
  have hC : Try.prog.cellsOf 27 = 3 := by kernel_rfl
  obtain ⟨c0, c1, c2, rfl⟩ := array3 (hsz.trans hC)
  obtain ⟨fuel, hf⟩ := h
  have hcell : (Value.agg #[c0, c1, c2]).cells.toList = [c0, c1, c2] := rfl
  rw [hcell] at hf
  obtain ⟨ys, n', hn', hy, hlen, hyl, hf⟩ := DataW.trod_struct Try.underlying27 hf
  match ys, hyl with
  | [y0, y1, y2], _ =>
    have C0 : Try.prog.cellsOf 9 = 1 := by kernel_rfl
    have C1 : Try.prog.cellsOf 3 = 1 := by kernel_rfl
    have C2 : Try.prog.cellsOf 25 = 1 := by kernel_rfl
    have f0 : DataW.trod enc Try.prog W 0 (fun _ => true) true n' 9 (List.take (Try.prog.cellsOf 9) (List.drop 0 [c0, c1, c2])) = some y0 := hf 0 _ rfl
    have f1 : DataW.trod enc Try.prog W 0 (fun _ => true) true n' 3 (List.take (Try.prog.cellsOf 3) (List.drop 1 [c0, c1, c2])) = some y1 := hf 1 _ rfl
    have f2 : DataW.trod enc Try.prog W 0 (fun _ => true) true n' 25 (List.take (Try.prog.cellsOf 25) (List.drop 2 [c0, c1, c2])) = some y2 := hf 2 _ rfl
    rw [C0] at f0
    rw [C1] at f1
    rw [C2] at f2
    have f2' : DataW.trod enc Try.prog W 0 (fun _ => true) true n' 25 [c2] = some y2 := f2
    obtain ⟨T, e0, x0, _⟩ := DataW.trod_string Try.underlying9 f0
    obtain ⟨K, e1, x1, wK⟩ := DataW.trod_int Try.underlying3 f1
    simp at e0 e1
    have hK : -9223372036854775808 ≤ K ∧ K ≤ 9223372036854775807 := wf_bounds .i64 K wK
    have hwe : d.weights Try.prog 27 = DataW.weightsEach Try.prog [9, 3, 25] [y0.1, y1.1, y2.1] := by
      have hy' : d = DataW.agg [y0.1, y1.1, y2.1] := by injection hy
      rw [hy', DataW.weights, Try.underlying27]
      rfl
    rw [hwe] at hw
    obtain ⟨A, len, cap, rfl⟩ : ∃ A len cap, c2 = .slice A len cap := by
      rcases Deep.open_slice Try.underlying25 f2' with ⟨h0, _⟩ | ⟨a, len', cap', m, n, D, Pl, hcs, _⟩
      · exact ⟨none, 0, 0, by injection h0⟩
      · exact ⟨some a, len', cap', by injection hcs⟩
    obtain ⟨L, b, rfl, hF, hok, hlc, hcm⟩ := fields_trod f2' (fun n hn => hw n (DataW.weights_mem_each (j := 2) (t := 25) (d := y2.1) rfl rfl n hn))
    refine ⟨T.data.toList, K, A, L, b, cap, by rw [e0, e1, S_of], hF, hok, hlc, hcm, ?_, hK.1, hK.2⟩
    exact hw _ (DataW.weights_mem_each (j := 0) (t := 9) (d := y0.1) rfl rfl _ (by rw [x0]; simp [DataW.weights]))
end
end Go.Proofs.Ytfcmkbeilpclmaa
