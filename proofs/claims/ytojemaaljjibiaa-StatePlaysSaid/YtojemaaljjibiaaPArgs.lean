/-
  Args: the texts Law, RowArg, EvArg, StaArg in one.
-/
import Derived.Test.YtojemaaljjibiaaPStaOne
import Derived.Carry
import Derived.SizedLaws
import Derived.JoinedOf
import Derived.JoinedCond
import Derived.Deep.CondSized
import Derived.Test.YtojemaaljjibiaaRows
import Derived.Deep.Slices
import Derived.Lib.SmallJoins
import Derived.Test.YtojemaaljjibiaaPEvRefs
import Derived.Test.YtojemaaljjibiaaPStaTwo
import Derived.OpenShut
namespace Go.Proofs.Ytojemaaljjibiaa
set_option linter.unusedVariables false
open Go.ChangeShapes Go.WideShapes Go.ChangeAt Go.RowKit
open Go.ChangeMaps (open_string shut_string)

theorem trodAll_kept {H : Type} {enc : TypeId × Value → H} {P : Program} {W W' : World} (hl : laidOutB P = true) (hb : Below W.heap.size W W') :
    ∀ (ts : List TypeId) (vs : List Value) (ds : List (DataW H)) (ps : List MemPlace), (∀ t ∈ ts, P.readableRec t = true ∧ t < P.types.size) → (∀ x ∈ ps, x.block < W.heap.size) →
      DataW.TrodAll enc P W 0 (fun _ => true) true ts vs ds ps → DataW.TrodAll enc P W' 0 (fun b => decide (b < W.heap.size)) true ts vs ds ps
  | [], _, _, _, _, _, h => by
    obtain ⟨rfl, rfl, rfl⟩ := trodAll_nil h
    rfl
  | t :: ts, _, _, _, ht, hlt, h => by
    obtain ⟨v, vs', d, ds', p, q, rfl, rfl, rfl, h0, hr⟩ := trodAll_cons h
    exact ⟨p, q, Below.trod hl (ht t (by simp)).1 (ht t (by simp)).2 h0 hb (fun x hx => hlt x (by simp [hx])),
      trodAll_kept hl hb ts vs' ds' q (fun t' ht' => ht t' (by simp [ht'])) (fun x hx => hlt x (by simp [hx])) hr, rfl⟩

/-- A law's close: it answered true, and what was there is as it was. -/
theorem law_post {H : Type} {enc : TypeId × Value → H} {P : Program} {f : Func} {s : ChangeSpec} {W W' : World} {args : Array Value} {ds gs : List (DataW H)} {before : List MemPlace} {t : TypeId}
    (hW : DataW.Whole enc P f.params.toList s.vars false W args.toList ds gs before) (hb : Below W.heap.size W W')
    (hl : laidOutB P = true) (ht : ∀ t ∈ f.params.toList, P.readableRec t = true ∧ t < P.types.size) (hvars : s.vars = [])
    (hres : f.resultTypes = #[t]) (hbool : P.underlying t = some .bool)
    (hs : (s.fn H (ds ++ gs)).results = [.lit (.bool true)] ∧ (s.fn H (ds ++ gs)).args = ds ∧ (s.fn H (ds ++ gs)).vars = []) :
    s.post enc P f false true false false W args (.bool true) W' := by
  obtain ⟨hs1, hs2, hs3⟩ := hs
  have hlt := hW.lt
  obtain ⟨p, q, hA, hV, rfl, hz, hn⟩ := id hW
  rw [hvars] at hV
  obtain ⟨rfl, rfl⟩ := trodVars_none hV
  rw [List.append_nil] at hW hlt
  refine ⟨ds, [], p, [], p, [], hW, ?_, ?_, ?_, hb.frame _, fun h => by cases h⟩
  · rw [hs1, hres]; exact trodAll_mk1 (shut_bool hbool _)
  · rw [hs2]; exact trodAll_kept hl hb _ _ _ _ ht hlt hA
  · rw [hs3, hvars]; rfl
end Go.Proofs.Ytojemaaljjibiaa

namespace Go.Proofs.Ytojemaaljjibiaa
open Go.ChangeShapes Go.WideShapes Go.ChangeAt Go.RowKit
open Go.ChangeMaps (open_string shut_string)
set_option linter.unusedVariables false

theorem addr_flatS {w : World} {a : Addr} {v : Value} (h : w.cell? a = some v) : a = ⟨a.block, a.off, none⟩ := by
  obtain ⟨b, o, s⟩ := a
  cases s with
  | none => rfl
  | some x => exfalso; unfold World.cell? at h; split at h <;> simp at h

section
variable {H : Type} {enc : TypeId × Value → H} {W : World}
set_option maxRecDepth 100000 in
theorem slip_trod {fuel : Nat} {cs : List Value} {x : DataW H × List MemPlace} (a : Addr) (hc : W.cells? 0 a 4 = some cs) (h : DataW.trod enc Try.prog W 0 (fun _ => true) true fuel 51 cs = some x) :
    ∃ f : Slp, W.cell? a = some (.string (S f.n)) ∧ W.cell? (a.add 1) = some (.string (S f.p)) ∧ W.cell? (a.add 2) = some (.string (S f.c)) ∧ W.cell? (a.add 3) = some (.bool f.e) := by
  obtain ⟨_, hcl, hat⟩ := World.cells?_some hc
  obtain ⟨ys, n', hn', hy, hlen, hyl, hf⟩ := DataW.trod_struct Try.underlying51 h
  match cs, hcl with
  | [c0, c1, c2, c3], _ =>
    match ys, hyl with
    | [y0, y1, y2, y3], _ =>
      have C0 : Try.prog.cellsOf 9 = 1 := by kernel_rfl
      have C1 : Try.prog.cellsOf 4 = 1 := by kernel_rfl
      have f0 : DataW.trod enc Try.prog W 0 (fun _ => true) true n' 9 (List.take (Try.prog.cellsOf 9) (List.drop 0 [c0, c1, c2, c3])) = some y0 := hf 0 _ rfl
      have f1 : DataW.trod enc Try.prog W 0 (fun _ => true) true n' 9 (List.take (Try.prog.cellsOf 9) (List.drop 1 [c0, c1, c2, c3])) = some y1 := hf 1 _ rfl
      have f2 : DataW.trod enc Try.prog W 0 (fun _ => true) true n' 9 (List.take (Try.prog.cellsOf 9) (List.drop 2 [c0, c1, c2, c3])) = some y2 := hf 2 _ rfl
      have f3 : DataW.trod enc Try.prog W 0 (fun _ => true) true n' 4 (List.take (Try.prog.cellsOf 4) (List.drop 3 [c0, c1, c2, c3])) = some y3 := hf 3 _ rfl
      rw [C0] at f0 f1 f2
      rw [C1] at f3
      obtain ⟨T0, e0, x0, _⟩ := DataW.trod_string Try.underlying9 f0
      obtain ⟨T1, e1, x1, _⟩ := DataW.trod_string Try.underlying9 f1
      obtain ⟨T2, e2, x2, _⟩ := DataW.trod_string Try.underlying9 f2
      obtain ⟨F, e3, x3⟩ := DataW.trod_bool Try.underlying4 f3
      have g0 := hat 0 (by omega)
      have g1 := hat 1 (by omega)
      have g2 := hat 2 (by omega)
      have g3 := hat 3 (by omega)
      simp at e0 e1 e2 e3 g0 g1 g2 g3
      subst e0; subst e1; subst e2; subst e3
      refine ⟨⟨T0.data.toList, T1.data.toList, T2.data.toList, F⟩, ?_, ?_, ?_, g3⟩
      · have : W.cell? a = some (.string T0) := by simpa [Addr.add] using g0
        rw [this]; simp [S_of]
      · rw [g1]; simp [S_of]
      · rw [g2]; simp [S_of]
theorem svs_get {L : List Slp} {j : Nat} {u : Value} (h : (svs L)[j]? = some u) : ∃ (i q : Nat) (hi : i < L.length), q < 4 ∧ j = i * 4 + q ∧ (L[i]).cs[q]? = some u := by
  obtain ⟨hlt, _⟩ := List.getElem?_eq_some_iff.1 h
  rw [svs_len] at hlt
  have hi : j / 4 < L.length := by omega
  refine ⟨j / 4, j % 4, hi, Nat.mod_lt _ (by decide), by omega, ?_⟩
  have := flat_get Slp.cs 4 Slp.cs_len L (j / 4) hi (j % 4) (Nat.mod_lt _ (by decide))
  rw [← this, show j / 4 * 4 + j % 4 = j from by omega]
  exact h
set_option maxRecDepth 100000 in
theorem slips_open {A : Option Addr} {len cap fuel : Nat} {x : DataW H × List MemPlace} (h : DataW.trod enc Try.prog W 0 (fun _ => true) true fuel 30 [.slice A len cap] = some x) :
    ∃ L : List Slp, len = L.length ∧ L.length ≤ cap ∧ cap ≤ 9223372036854775807 ∧ RowP W [] A L := by
  rcases Deep.open_slice Try.underlying30 h with ⟨h0, _⟩ | ⟨a, len', cap', m, n, D, Pl, hcs, _, hlc, hcm, hm, hx, hi⟩
  · injection h0 with h0 _
    injection h0 with _ h1 h2
    subst h1; subst h2
    exact ⟨[], rfl, Nat.le_refl _, Nat.zero_le _, RowC.nil _ _ _⟩
  · injection hcs with hcs _; injection hcs with hA hlen hcap
    subst hA; subst hlen; subst hcap
    have hm' : len ≤ m := by rw [hm]; simp; omega
    have hC : Try.prog.cellsOf 51 = 4 := by kernel_rfl
    have hone : ∀ i : Fin len, ∃ f : Slp, W.cell? (a.add (i.1 * 4)) = some (.string (S f.n)) ∧ W.cell? ((a.add (i.1 * 4)).add 1) = some (.string (S f.p)) ∧ W.cell? ((a.add (i.1 * 4)).add 2) = some (.string (S f.c)) ∧ W.cell? ((a.add (i.1 * 4)).add 3) = some (.bool f.e) := by
      intro i
      obtain ⟨cs', hc, ht⟩ := hi i.1 (by have := i.2; omega)
      rw [hC] at hc
      exact slip_trod _ hc ht
    obtain ⟨f, hf⟩ : ∃ f : Fin len → Slp, ∀ i : Fin len, W.cell? (a.add (i.1 * 4)) = some (.string (S (f i).n)) ∧ W.cell? ((a.add (i.1 * 4)).add 1) = some (.string (S (f i).p)) ∧ W.cell? ((a.add (i.1 * 4)).add 2) = some (.string (S (f i).c)) ∧ W.cell? ((a.add (i.1 * 4)).add 3) = some (.bool (f i).e) := ⟨fun i => Classical.choose (hone i), fun i => Classical.choose_spec (hone i)⟩
    clear hone hi hx
    refine ⟨List.ofFn f, by simp, by simpa using hlc, by simpa only [maxLen] using hcm, fun hne => ?_⟩
    have hpos : 0 < len := by
      rcases Nat.eq_zero_or_pos len with h0 | h0
      · subst h0; exact absurd (by simp [svs]) hne
      · exact h0
    have h00 := (hf ⟨0, hpos⟩).1
    have ha : a = ⟨a.block, a.off, none⟩ := addr_flatS (by simpa [Addr.add] using h00)
    have hblt : a.block < W.heap.size := World.block_lt_of_cell? W a (by simpa [Addr.add] using h00)
    refine ⟨a.block, a.off, by rw [← ha], hblt, by simp, fun j u hu => ?_⟩
    obtain ⟨i, q, hi, hq, rfl, hv⟩ := svs_get hu
    clear hu
    have hi' : i < len := by simpa using hi
    obtain ⟨k0, k1, k2, k3⟩ := hf ⟨i, hi'⟩
    rw [List.getElem_ofFn] at hv
    clear hf h hm hcm hlc h00 hblt
    generalize a.block = b at ha
    generalize a.off = off at ha
    subst ha
    simp only [add_flat'] at k0 k1 k2 k3
    unfold Slp.cs at hv
    have hq' : q = 0 ∨ q = 1 ∨ q = 2 ∨ q = 3 := by omega
    rcases hq' with rfl | rfl | rfl | rfl
    · injection hv with hv; rw [← hv]; exact k0
    · injection hv with hv; rw [← hv, ← Nat.add_assoc]; exact k1
    · injection hv with hv; rw [← hv, ← Nat.add_assoc]; exact k2
    · injection hv with hv; rw [← hv, ← Nat.add_assoc]; exact k3
set_option maxRecDepth 100000 in
theorem tvs_open {A : Option Addr} {len cap fuel : Nat} {x : DataW H × List MemPlace} (h : DataW.trod enc Try.prog W 0 (fun _ => true) true fuel 31 [.slice A len cap] = some x) :
    ∃ L : List (List UInt8), len = L.length ∧ L.length ≤ cap ∧ cap ≤ 9223372036854775807 ∧ RowC W [] A (tvs L) := by
  have hC : Try.prog.cellsOf 9 = 1 := by kernel_rfl
  rcases Deep.open_slice1 Try.underlying31 hC h with ⟨h0, _⟩ | ⟨a, len', cap', m, n, V, D, Pl, hcs, _, hlc, hcm, hm, hx, hi⟩
  · injection h0 with h0 _
    injection h0 with _ h1 h2
    subst h1; subst h2
    exact ⟨[], rfl, Nat.le_refl _, Nat.zero_le _, RowC.nil _ _ _⟩
  · injection hcs with hcs _; injection hcs with hA hlen hcap
    subst hA; subst hlen; subst hcap
    have hm' : len ≤ m := by rw [hm]; simp; omega
    have hone : ∀ i : Fin len, ∃ k : List UInt8, W.cell? (a.add i.1) = some (.string (S k)) := by
      intro i
      obtain ⟨hc, ht⟩ := hi i.1 (by have := i.2; omega)
      obtain ⟨K, e0, _, _⟩ := DataW.trod_string Try.underlying9 ht
      injection e0 with e0
      exact ⟨K.data.toList, by rw [hc, e0, S_of]⟩
    obtain ⟨f, hf⟩ : ∃ f : Fin len → List UInt8, ∀ i : Fin len, W.cell? (a.add i.1) = some (.string (S (f i))) := ⟨fun i => Classical.choose (hone i), fun i => Classical.choose_spec (hone i)⟩
    clear hone hi hx
    refine ⟨List.ofFn f, by simp, by simpa using hlc, by simpa only [maxLen] using hcm, fun hne => ?_⟩
    have hpos : 0 < len := by
      rcases Nat.eq_zero_or_pos len with h0 | h0
      · subst h0; exact absurd (by simp [tvs]) hne
      · exact h0
    have h00 := hf ⟨0, hpos⟩
    have ha : a = ⟨a.block, a.off, none⟩ := addr_flatS (by simpa [Addr.add] using h00)
    have hblt : a.block < W.heap.size := World.block_lt_of_cell? W a (by simpa [Addr.add] using h00)
    refine ⟨a.block, a.off, by rw [← ha], hblt, by simp, fun j u hu => ?_⟩
    unfold tvs at hu
    rw [List.getElem?_map] at hu
    cases hj : (List.ofFn f)[j]? with
    | none => rw [hj] at hu; cases hu
    | some y =>
      rw [hj, Option.map_some] at hu
      injection hu with hu
      obtain ⟨hlt, hy⟩ := List.getElem?_eq_some_iff.1 hj
      have hj' : j < len := by simpa using hlt
      rw [List.getElem_ofFn] at hy
      have k0 := hf ⟨j, hj'⟩
      rw [← hu, ← hy]
      have hadd : a.add j = ⟨a.block, a.off + j, none⟩ := by
        have := add_flat' a.block a.off j
        rwa [← ha] at this
      rw [← hadd]
      exact k0
end
end Go.Proofs.Ytojemaaljjibiaa

namespace Go.Proofs.Ytojemaaljjibiaa
open Go.ChangeShapes Go.WideShapes Go.ChangeAt Go.RowKit
open Go.ChangeMaps (open_string shut_string)
set_option linter.unusedVariables false

section
variable {H : Type} {enc : TypeId × Value → H} {W : World}
set_option maxRecDepth 100000 in
theorem ent_trod {fuel : Nat} {c0 c1 c2 c3 c4 c5 c6 : Value} {x : DataW H × List MemPlace} (hf : DataW.trod enc Try.prog W 0 (fun _ => true) true fuel 33 [c0, c1, c2, c3, c4, c5, c6] = some x) :
    ∃ (e : Ent) (A : Option Addr) (ca : Nat) (B : Option Addr) (cb : Nat), c0 = .string (S e.id) ∧ c1 = .int .i64 e.cls ∧ c2 = .int .i64 e.born ∧ c3 = .int .i64 e.slot ∧ c4 = .slice A e.L.length ca ∧ c5 = .bool e.gone ∧ c6 = .slice B e.H.length cb ∧ EntIn W [] e A ca B cb := by
  obtain ⟨ys, n', hn', hy, hlen, hyl, hf⟩ := DataW.trod_struct Try.underlying33 hf
  match ys, hyl with
  | [y0, y1, y2, y3, y4, y5, y6], _ =>
    have C0 : Try.prog.cellsOf 9 = 1 := by kernel_rfl
    have C1 : Try.prog.cellsOf 3 = 1 := by kernel_rfl
    have C4 : Try.prog.cellsOf 30 = 1 := by kernel_rfl
    have C5 : Try.prog.cellsOf 4 = 1 := by kernel_rfl
    have C6 : Try.prog.cellsOf 31 = 1 := by kernel_rfl
    have f0 : DataW.trod enc Try.prog W 0 (fun _ => true) true n' 9 (List.take (Try.prog.cellsOf 9) (List.drop 0 [c0, c1, c2, c3, c4, c5, c6])) = some y0 := hf 0 _ rfl
    have f1 : DataW.trod enc Try.prog W 0 (fun _ => true) true n' 3 (List.take (Try.prog.cellsOf 3) (List.drop 1 [c0, c1, c2, c3, c4, c5, c6])) = some y1 := hf 1 _ rfl
    have f2 : DataW.trod enc Try.prog W 0 (fun _ => true) true n' 3 (List.take (Try.prog.cellsOf 3) (List.drop 2 [c0, c1, c2, c3, c4, c5, c6])) = some y2 := hf 2 _ rfl
    have f3 : DataW.trod enc Try.prog W 0 (fun _ => true) true n' 3 (List.take (Try.prog.cellsOf 3) (List.drop 3 [c0, c1, c2, c3, c4, c5, c6])) = some y3 := hf 3 _ rfl
    have f4 : DataW.trod enc Try.prog W 0 (fun _ => true) true n' 30 (List.take (Try.prog.cellsOf 30) (List.drop 4 [c0, c1, c2, c3, c4, c5, c6])) = some y4 := hf 4 _ rfl
    have f5 : DataW.trod enc Try.prog W 0 (fun _ => true) true n' 4 (List.take (Try.prog.cellsOf 4) (List.drop 5 [c0, c1, c2, c3, c4, c5, c6])) = some y5 := hf 5 _ rfl
    have f6 : DataW.trod enc Try.prog W 0 (fun _ => true) true n' 31 (List.take (Try.prog.cellsOf 31) (List.drop 6 [c0, c1, c2, c3, c4, c5, c6])) = some y6 := hf 6 _ rfl
    rw [C0] at f0
    rw [C1] at f1 f2 f3
    rw [C4] at f4
    rw [C5] at f5
    rw [C6] at f6
    have f4' : DataW.trod enc Try.prog W 0 (fun _ => true) true n' 30 [c4] = some y4 := f4
    have f6' : DataW.trod enc Try.prog W 0 (fun _ => true) true n' 31 [c6] = some y6 := f6
    obtain ⟨T, e0, x0, _⟩ := DataW.trod_string Try.underlying9 f0
    obtain ⟨K1, e1, _, _⟩ := DataW.trod_int Try.underlying3 f1
    obtain ⟨K2, e2, _, _⟩ := DataW.trod_int Try.underlying3 f2
    obtain ⟨K3, e3, _, _⟩ := DataW.trod_int Try.underlying3 f3
    obtain ⟨G, e5, _⟩ := DataW.trod_bool Try.underlying4 f5
    simp at e0 e1 e2 e3 e5
    obtain ⟨A, len, cap, rfl⟩ : ∃ A len cap, c4 = .slice A len cap := by
      rcases Deep.open_slice Try.underlying30 f4' with ⟨h0, _⟩ | ⟨a, len', cap', m, n, D, Pl, hcs, _⟩
      · exact ⟨none, 0, 0, by injection h0⟩
      · exact ⟨some a, len', cap', by injection hcs⟩
    obtain ⟨B, len2, cap2, rfl⟩ : ∃ A len cap, c6 = .slice A len cap := by
      rcases Deep.open_slice Try.underlying31 f6' with ⟨h0, _⟩ | ⟨a, len', cap', m, n, D, Pl, hcs, _⟩
      · exact ⟨none, 0, 0, by injection h0⟩
      · exact ⟨some a, len', cap', by injection hcs⟩
    obtain ⟨L, rfl, hlc, hcm, hR⟩ := slips_open f4'
    obtain ⟨M, rfl, hlc2, hcm2, hR2⟩ := tvs_open f6'
    exact ⟨⟨T.data.toList, K1, K2, K3, L, G, M⟩, A, cap, B, cap2, by rw [e0, S_of], e1, e2, e3, rfl, e5, rfl, hR, hR2, hlc, hcm, hlc2, hcm2⟩
set_option maxRecDepth 100000 in
theorem pt_trod {fuel : Nat} {c0 c1 : Value} {x : DataW H × List MemPlace} (hf : DataW.trod enc Try.prog W 0 (fun _ => true) true fuel 35 [c0, c1] = some x) :
    ∃ (n : Int) (s : List UInt8), c0 = .int .i64 n ∧ c1 = .string (S s) := by
  obtain ⟨ys, n', hn', hy, hlen, hyl, hf⟩ := DataW.trod_struct Try.underlying35 hf
  match ys, hyl with
  | [y0, y1], _ =>
    have C0 : Try.prog.cellsOf 9 = 1 := by kernel_rfl
    have C1 : Try.prog.cellsOf 3 = 1 := by kernel_rfl
    have f0 : DataW.trod enc Try.prog W 0 (fun _ => true) true n' 3 (List.take (Try.prog.cellsOf 3) (List.drop 0 [c0, c1])) = some y0 := hf 0 _ rfl
    have f1 : DataW.trod enc Try.prog W 0 (fun _ => true) true n' 9 (List.take (Try.prog.cellsOf 9) (List.drop 1 [c0, c1])) = some y1 := hf 1 _ rfl
    rw [C1] at f0
    rw [C0] at f1
    obtain ⟨K, e0, _, _⟩ := DataW.trod_int Try.underlying3 f0
    obtain ⟨T, e1, _, _⟩ := DataW.trod_string Try.underlying9 f1
    simp at e0 e1
    exact ⟨K, T.data.toList, e0, by rw [e1, S_of]⟩
end
end Go.Proofs.Ytojemaaljjibiaa

namespace Go.Proofs.Ytojemaaljjibiaa
open Go.ChangeShapes Go.WideShapes Go.ChangeAt Go.RowKit
open Go.ChangeMaps (open_string shut_string)
set_option linter.unusedVariables false

/-- An event in a row, and where its paper's rows lie. -/
structure EvX where
  v : Evt
  A : Option Addr
  ca : Nat
  B : Option Addr
  cb : Nat
def EvX.cs (x : EvX) : List Value := [.int .i64 x.v.kind, .string (S x.v.ent.id), .int .i64 x.v.ent.cls, .int .i64 x.v.ent.born, .int .i64 x.v.ent.slot, .slice x.A x.v.ent.L.length x.ca, .bool x.v.ent.gone, .slice x.B x.v.ent.H.length x.cb, .int .i64 x.v.seq, .int .i64 x.v.idx, .string (S x.v.name), .int .i64 x.v.size, .string (S x.v.root), .int .i64 x.v.now]
theorem EvX.cs_len (x : EvX) : x.cs.length = 14 := rfl
def vxs (L : List EvX) : List Value := L.flatMap EvX.cs
theorem vxs_len (L : List EvX) : (vxs L).length = L.length * 14 := flat_len EvX.cs 14 EvX.cs_len L
/-- Events in a row, in blocks none of s. -/
structure RowV (w : World) (s : List Nat) (A : Option Addr) (L : List EvX) : Prop where
  row : RowC w s A (vxs L)
  ents : ∀ x ∈ L, EntIn w s x.v.ent x.A x.ca x.B x.cb
theorem RowV.mv {w w' : World} {s t : List Nat} {A : Option Addr} {L : List EvX} (h : RowV w s A L) (hm : Mv w w' t) (ht : ∀ x ∈ t, x ∈ s) : RowV w' s A L := ⟨h.row.mv hm ht, fun x hx => (h.ents x hx).mv hm ht⟩
theorem RowV.below {w w' : World} {s : List Nat} {A : Option Addr} {L : List EvX} (h : RowV w s A L) (hb : Below w.heap.size w w') : RowV w' s A L := ⟨h.row.below hb, fun x hx => (h.ents x hx).below hb⟩
theorem RowV.get {w : World} {s : List Nat} {A : Option Addr} {L : List EvX} (h : RowV w s A L) (k : Nat) (hk : k < L.length) : ∃ b off, A = some ⟨b, off, none⟩ ∧ b < w.heap.size ∧ b ∉ s ∧ ∀ j u, (L[k]).cs[j]? = some u → w.cell? ⟨b, off + k * 14 + j, none⟩ = some u := by
  obtain ⟨b, off, hA, hb, hn, hr⟩ := h.row (fun e => by
    have := vxs_len L
    rw [e, List.length_nil] at this
    omega)
  refine ⟨b, off, hA, hb, hn, fun j u hu => ?_⟩
  have hj : j < 14 := by
    have := (List.getElem?_eq_some_iff.1 hu).1
    rwa [EvX.cs_len] at this
  rw [Nat.add_assoc]
  exact hr (k * 14 + j) u ((flat_get EvX.cs 14 EvX.cs_len L k hk j hj).trans hu)
section
variable {H : Type} {enc : TypeId × Value → H} {W : World}
set_option maxRecDepth 100000 in
theorem evx_trod {fuel : Nat} {c0 c1 c2 c3 c4 c5 c6 c7 c8 c9 c10 c11 c12 c13 : Value} {x : DataW H × List MemPlace} (hf : DataW.trod enc Try.prog W 0 (fun _ => true) true fuel 37 [c0, c1, c2, c3, c4, c5, c6, c7, c8, c9, c10, c11, c12, c13] = some x) :
    ∃ y : EvX, [c0, c1, c2, c3, c4, c5, c6, c7, c8, c9, c10, c11, c12, c13] = y.cs ∧ EntIn W [] y.v.ent y.A y.ca y.B y.cb := by
  obtain ⟨ys, n', hn', hy, hlen, hyl, hf⟩ := DataW.trod_struct Try.underlying37 hf
  match ys, hyl with
  | [y0, y1, y2, y3, y4, y5, y6], _ =>
    have C0 : Try.prog.cellsOf 3 = 1 := by kernel_rfl
    have C1 : Try.prog.cellsOf 33 = 7 := by kernel_rfl
    have C4 : Try.prog.cellsOf 9 = 1 := by kernel_rfl
    have C5 : Try.prog.cellsOf 35 = 2 := by kernel_rfl
    have f0 : DataW.trod enc Try.prog W 0 (fun _ => true) true n' 3 (List.take (Try.prog.cellsOf 3) (List.drop 0 [c0, c1, c2, c3, c4, c5, c6, c7, c8, c9, c10, c11, c12, c13])) = some y0 := hf 0 _ rfl
    have f1 : DataW.trod enc Try.prog W 0 (fun _ => true) true n' 33 (List.take (Try.prog.cellsOf 33) (List.drop 1 [c0, c1, c2, c3, c4, c5, c6, c7, c8, c9, c10, c11, c12, c13])) = some y1 := hf 1 _ rfl
    have f2 : DataW.trod enc Try.prog W 0 (fun _ => true) true n' 3 (List.take (Try.prog.cellsOf 3) (List.drop 8 [c0, c1, c2, c3, c4, c5, c6, c7, c8, c9, c10, c11, c12, c13])) = some y2 := hf 2 _ rfl
    have f3 : DataW.trod enc Try.prog W 0 (fun _ => true) true n' 3 (List.take (Try.prog.cellsOf 3) (List.drop 9 [c0, c1, c2, c3, c4, c5, c6, c7, c8, c9, c10, c11, c12, c13])) = some y3 := hf 3 _ rfl
    have f4 : DataW.trod enc Try.prog W 0 (fun _ => true) true n' 9 (List.take (Try.prog.cellsOf 9) (List.drop 10 [c0, c1, c2, c3, c4, c5, c6, c7, c8, c9, c10, c11, c12, c13])) = some y4 := hf 4 _ rfl
    have f5 : DataW.trod enc Try.prog W 0 (fun _ => true) true n' 35 (List.take (Try.prog.cellsOf 35) (List.drop 11 [c0, c1, c2, c3, c4, c5, c6, c7, c8, c9, c10, c11, c12, c13])) = some y5 := hf 5 _ rfl
    have f6 : DataW.trod enc Try.prog W 0 (fun _ => true) true n' 3 (List.take (Try.prog.cellsOf 3) (List.drop 13 [c0, c1, c2, c3, c4, c5, c6, c7, c8, c9, c10, c11, c12, c13])) = some y6 := hf 6 _ rfl
    rw [C0] at f0 f2 f3 f6
    rw [C1] at f1
    rw [C4] at f4
    rw [C5] at f5
    obtain ⟨K0, e0, _, _⟩ := DataW.trod_int Try.underlying3 f0
    obtain ⟨e, A, ca, B, cb, q0, q1, q2, q3, q4, q5, q6, hin⟩ := ent_trod f1
    obtain ⟨K2, e2, _, _⟩ := DataW.trod_int Try.underlying3 f2
    obtain ⟨K3, e3, _, _⟩ := DataW.trod_int Try.underlying3 f3
    obtain ⟨T, e4, _, _⟩ := DataW.trod_string Try.underlying9 f4
    obtain ⟨n, s, e5, e5'⟩ := pt_trod f5
    obtain ⟨K6, e6, _, _⟩ := DataW.trod_int Try.underlying3 f6
    simp at e0 e2 e3 e4 e6
    exact ⟨⟨⟨K0, e, K2, K3, T.data.toList, n, s, K6⟩, A, ca, B, cb⟩, by
      unfold EvX.cs
      rw [e0, q0, q1, q2, q3, q4, q5, q6, e2, e3, e4, e5, e5', e6, S_of], hin⟩
theorem vxs_get {L : List EvX} {j : Nat} {u : Value} (h : (vxs L)[j]? = some u) : ∃ (i q : Nat) (hi : i < L.length), q < 14 ∧ j = i * 14 + q ∧ (L[i]).cs[q]? = some u := by
  obtain ⟨hlt, _⟩ := List.getElem?_eq_some_iff.1 h
  rw [vxs_len] at hlt
  have hi : j / 14 < L.length := by omega
  refine ⟨j / 14, j % 14, hi, Nat.mod_lt _ (by decide), by omega, ?_⟩
  have := flat_get EvX.cs 14 EvX.cs_len L (j / 14) hi (j % 14) (Nat.mod_lt _ (by decide))
  rw [← this, show j / 14 * 14 + j % 14 = j from by omega]
  exact h
theorem list14 {cs : List Value} (h : cs.length = 14) : ∃ c0 c1 c2 c3 c4 c5 c6 c7 c8 c9 c10 c11 c12 c13, cs = [c0, c1, c2, c3, c4, c5, c6, c7, c8, c9, c10, c11, c12, c13] := by
  match cs, h with
  | [c0, c1, c2, c3, c4, c5, c6, c7, c8, c9, c10, c11, c12, c13], _ => exact ⟨_, _, _, _, _, _, _, _, _, _, _, _, _, _, rfl⟩
set_option maxRecDepth 100000 in
theorem evs_open {A : Option Addr} {len cap fuel : Nat} {x : DataW H × List MemPlace} (h : DataW.trod enc Try.prog W 0 (fun _ => true) true fuel 22 [.slice A len cap] = some x) :
    ∃ L : List EvX, len = L.length ∧ L.length ≤ cap ∧ cap ≤ 9223372036854775807 ∧ RowV W [] A L := by
  rcases Deep.open_slice Try.underlying22 h with ⟨h0, _⟩ | ⟨a, len', cap', m, n, D, Pl, hcs, _, hlc, hcm, hm, hx, hi⟩
  · injection h0 with h0 _
    injection h0 with _ h1 h2
    subst h1; subst h2
    exact ⟨[], rfl, Nat.le_refl _, Nat.zero_le _, RowC.nil _ _ _, fun x hx => by cases hx⟩
  · injection hcs with hcs _; injection hcs with hA hlen hcap
    subst hA; subst hlen; subst hcap
    have hm' : len ≤ m := by rw [hm]; simp; omega
    have hC : Try.prog.cellsOf 37 = 14 := by kernel_rfl
    have hone : ∀ i : Fin len, ∃ f : EvX, (∀ j u, f.cs[j]? = some u → W.cell? ((a.add (i.1 * 14)).add j) = some u) ∧ EntIn W [] f.v.ent f.A f.ca f.B f.cb := by
      intro i
      obtain ⟨cs', hc, ht⟩ := hi i.1 (by have := i.2; omega)
      rw [hC] at hc
      obtain ⟨_, hcl, hat⟩ := World.cells?_some hc
      obtain ⟨c0, c1, c2, c3, c4, c5, c6, c7, c8, c9, c10, c11, c12, c13, rfl⟩ := list14 hcl
      obtain ⟨y, hy, hin⟩ := evx_trod ht
      refine ⟨y, fun j u hu => ?_, hin⟩
      rw [← hy] at hu
      have hj : j < 14 := (List.getElem?_eq_some_iff.1 hu).1
      rw [hat j hj]
      exact hu
    obtain ⟨f, hf⟩ : ∃ f : Fin len → EvX, ∀ i : Fin len, (∀ j u, (f i).cs[j]? = some u → W.cell? ((a.add (i.1 * 14)).add j) = some u) ∧ EntIn W [] (f i).v.ent (f i).A (f i).ca (f i).B (f i).cb := ⟨fun i => Classical.choose (hone i), fun i => Classical.choose_spec (hone i)⟩
    clear hone hi hx
    refine ⟨List.ofFn f, by simp, by simpa using hlc, by simpa only [maxLen] using hcm, fun hne => ?_, fun x hx => ?_⟩
    · have hpos : 0 < len := by
        rcases Nat.eq_zero_or_pos len with h0 | h0
        · subst h0; exact absurd (by simp [vxs]) hne
        · exact h0
      have h00 := (hf ⟨0, hpos⟩).1 0 _ rfl
      have ha : a = ⟨a.block, a.off, none⟩ := addr_flatS (by simpa [Addr.add] using h00)
      have hblt : a.block < W.heap.size := World.block_lt_of_cell? W a (by simpa [Addr.add] using h00)
      refine ⟨a.block, a.off, by rw [← ha], hblt, by simp, fun j u hu => ?_⟩
      obtain ⟨i, q, hi, hq, rfl, hv⟩ := vxs_get hu
      clear hu
      have hi' : i < len := by simpa using hi
      rw [List.getElem_ofFn] at hv
      have k0 := (hf ⟨i, hi'⟩).1 q u hv
      rw [ha] at k0
      simp only [add_flat'] at k0
      rw [← Nat.add_assoc]
      exact k0
    · obtain ⟨i, rfl⟩ := List.mem_ofFn.1 hx
      exact (hf i).2
end
end Go.Proofs.Ytojemaaljjibiaa
