/-
  What an argument that is a script of writings is.
-/
import Derived.Test.YtcgdjljfgjoliaaDoorGrdWhole
import Derived.Test.YtcgdjljfgjoliaaDoorMv
import Derived.Test.YtcgdjljfgjoliaaDoorLaw
import Derived.Test.YtcgdjljfgjoliaaDoorRows
import Derived.Deep.Slices
import Derived.SizedLaws
import Derived.Lib.SmallJoins
namespace Go.Proofs.YtcgdjljfgjoliaaDoor
open Go.ChangeShapes Go.WideShapes Go.ChangeAt Go.RowKit
set_option linter.unusedVariables false

/-- Three cells that are a writing. -/
def GAt (W : World) (b o : Nat) (x : Grd.GOp) : Prop :=
  W.cell? ⟨b, o, none⟩ = some (.int .i64 x.kind) ∧ W.cell? ⟨b, o + 1, none⟩ = some (.int .i64 x.i) ∧ W.cell? ⟨b, o + 2, none⟩ = some (.string (S x.s))
/-- A slice reads as the writings L. -/
def OpsAt (W : World) (b off : Nat) (A : Option Addr) (L : List Grd.GOp) : Prop := L ≠ [] → A = some ⟨b, off, none⟩ ∧ b < W.heap.size ∧ ∀ k (h : k < L.length), GAt W b (off + k * 3) (L[k]'h)
theorem GAt.keep {W W' : World} {b o : Nat} {x : Grd.GOp} (h : GAt W b o x) (hb : W'.heap[b]? = W.heap[b]?) : GAt W' b o x :=
  ⟨(World.cell?_of_block hb).trans h.1, (World.cell?_of_block hb).trans h.2.1, (World.cell?_of_block hb).trans h.2.2⟩
theorem OpsAt.below {W W' : World} {b off B : Nat} {A : Option Addr} {L : List Grd.GOp} (h : OpsAt W b off A L) (hb : Below B W W') (hB : W.heap.size ≤ B) : OpsAt W' b off A L := fun hl => by
  obtain ⟨h1, h2, h3⟩ := h hl
  exact ⟨h1, Nat.lt_of_lt_of_le h2 hb.size, fun k hk => (h3 k hk).keep (hb.block b (by omega))⟩
theorem opFlat {w : World} {a : Addr} {v : Value} (h : w.cell? a = some v) : a = ⟨a.block, a.off, none⟩ := by
  obtain ⟨b, o, s⟩ := a
  cases s with
  | none => rfl
  | some x => exfalso; unfold World.cell? at h; split at h <;> simp at h
theorem opAdd (b off i : Nat) : (⟨b, off, none⟩ : Addr).add i = ⟨b, off + i, none⟩ := by unfold Addr.add; split <;> simp_all

section
variable {H : Type} {enc : TypeId × Value → H} {W : World}
set_option maxRecDepth 100000 in
theorem op_trod {fuel : Nat} {cs : List Value} {x : DataW H × List MemPlace} (a : Addr) (hc : W.cells? 0 a 3 = some cs) (h : DataW.trod enc Tryd.prog W 0 (fun _ => true) true fuel 53 cs = some x) :
    ∃ f : Grd.GOp, W.cell? a = some (.int .i64 f.kind) ∧ W.cell? (a.add 1) = some (.int .i64 f.i) ∧ W.cell? (a.add 2) = some (.string (S f.s)) := by
  obtain ⟨_, hcl, hat⟩ := World.cells?_some hc
  obtain ⟨ys, n', hn', hy, hlen, hyl, hf⟩ := DataW.trod_struct Tryd.underlying53 h
  match cs, hcl with
  | [c0, c1, c2], _ =>
    match ys, hyl with
    | [y0, y1, y2], _ =>
      have C0 : Tryd.prog.cellsOf 3 = 1 := by kernel_rfl
      have C1 : Tryd.prog.cellsOf 9 = 1 := by kernel_rfl
      have f0 : DataW.trod enc Tryd.prog W 0 (fun _ => true) true n' 3 (List.take (Tryd.prog.cellsOf 3) (List.drop 0 [c0, c1, c2])) = some y0 := hf 0 _ rfl
      have f1 : DataW.trod enc Tryd.prog W 0 (fun _ => true) true n' 3 (List.take (Tryd.prog.cellsOf 3) (List.drop 1 [c0, c1, c2])) = some y1 := hf 1 _ rfl
      have f2 : DataW.trod enc Tryd.prog W 0 (fun _ => true) true n' 9 (List.take (Tryd.prog.cellsOf 9) (List.drop 2 [c0, c1, c2])) = some y2 := hf 2 _ rfl
      rw [C0] at f0 f1
      rw [C1] at f2
      obtain ⟨T0, e0, x0, w0⟩ := DataW.trod_int Tryd.underlying3 f0
      obtain ⟨T1, e1, x1, w1⟩ := DataW.trod_int Tryd.underlying3 f1
      obtain ⟨T2, e2, x2, _⟩ := DataW.trod_string Tryd.underlying9 f2
      have g0 := hat 0 (by omega)
      have g1 := hat 1 (by omega)
      have g2 := hat 2 (by omega)
      simp at e0 e1 e2 g0 g1 g2
      subst e0; subst e1; subst e2
      refine ⟨⟨T0, T1, T2.data.toList⟩, ?_, g1, ?_⟩
      · have : W.cell? a = some (.int .i64 T0) := by simpa [Addr.add] using g0
        exact this
      · rw [g2]; simp [S_of]
set_option maxRecDepth 100000 in
theorem ops_open {A : Option Addr} {len cap fuel : Nat} {x : DataW H × List MemPlace} (h : DataW.trod enc Tryd.prog W 0 (fun _ => true) true fuel 46 [.slice A len cap] = some x) :
    ∃ (L : List Grd.GOp) (b off : Nat), len = L.length ∧ L.length ≤ cap ∧ cap ≤ 9223372036854775807 ∧ OpsAt W b off A L := by
  rcases Deep.open_slice Tryd.underlying46 h with ⟨h0, _⟩ | ⟨a, len', cap', m, n, D, Pl, hcs, _, hlc, hcm, hm, hx, hi⟩
  · injection h0 with h0 _
    injection h0 with _ h1 h2
    subst h1; subst h2
    exact ⟨[], 0, 0, rfl, Nat.le_refl _, Nat.zero_le _, fun hn => absurd rfl hn⟩
  · injection hcs with hcs _; injection hcs with hA hlen hcap
    subst hA; subst hlen; subst hcap
    have hm' : len ≤ m := by rw [hm]; simp; omega
    have hC : Tryd.prog.cellsOf 53 = 3 := by kernel_rfl
    have hone : ∀ i : Fin len, ∃ f : Grd.GOp, W.cell? (a.add (i.1 * 3)) = some (.int .i64 f.kind) ∧ W.cell? ((a.add (i.1 * 3)).add 1) = some (.int .i64 f.i) ∧ W.cell? ((a.add (i.1 * 3)).add 2) = some (.string (S f.s)) := by
      intro i
      obtain ⟨cs', hc, ht⟩ := hi i.1 (by have := i.2; omega)
      rw [hC] at hc
      exact op_trod _ hc ht
    obtain ⟨f, hf⟩ : ∃ f : Fin len → Grd.GOp, ∀ i : Fin len, W.cell? (a.add (i.1 * 3)) = some (.int .i64 (f i).kind) ∧ W.cell? ((a.add (i.1 * 3)).add 1) = some (.int .i64 (f i).i) ∧ W.cell? ((a.add (i.1 * 3)).add 2) = some (.string (S (f i).s)) := ⟨fun i => Classical.choose (hone i), fun i => Classical.choose_spec (hone i)⟩
    clear hone hi hx
    refine ⟨List.ofFn f, a.block, a.off, by simp, by simpa using hlc, by simpa only [maxLen] using hcm, fun hne => ?_⟩
    have hpos : 0 < len := by
      rcases Nat.eq_zero_or_pos len with h0 | h0
      · subst h0; exact absurd (by simp) hne
      · exact h0
    have h00 := (hf ⟨0, hpos⟩).1
    have ha : a = ⟨a.block, a.off, none⟩ := opFlat (by simpa [Addr.add] using h00)
    have hblt : a.block < W.heap.size := World.block_lt_of_cell? W a (by simpa [Addr.add] using h00)
    refine ⟨by rw [← ha], hblt, fun k hk => ?_⟩
    have hk' : k < len := by simpa using hk
    obtain ⟨k0, k1, k2⟩ := hf ⟨k, hk'⟩
    rw [List.getElem_ofFn]
    clear hf h hm hcm hlc h00 hblt
    generalize a.block = b at ha
    generalize a.off = off at ha
    subst ha
    simp only [opAdd] at k0 k1 k2
    exact ⟨k0, k1, k2⟩
end
end Go.Proofs.YtcgdjljfgjoliaaDoor
