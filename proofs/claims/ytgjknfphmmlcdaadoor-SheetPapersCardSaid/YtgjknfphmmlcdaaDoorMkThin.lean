/-
  MkThin: the texts MkPath, MkGrowth, MkRowE, MkAwake, MkArg in one.
-/
import Derived.Test.YtgjknfphmmlcdaaDoorMkRootL
import Derived.Laws.AppendOwn
import Derived.OwnWalk
import Derived.Test.YtgjknfphmmlcdaaDoorTake
namespace Go.Proofs.YtgjknfphmmlcdaaDoor
open Go.RowKit
set_option linter.unusedVariables false

theorem mkinfo : (Tryd.prog.info? 9).map (fun i => (i.zero, i.size, i.bytes)) = some (some (.string ⟨#[]⟩), 1, 16) := by kernel_rfl
/-- Texts as values. -/
def tvs (L : List (List UInt8)) : List Value := L.map fun s => .string (S s)
theorem tvs_snoc (L : List (List UInt8)) (x : List UInt8) : tvs L ++ [.string (S x)] = tvs (L ++ [x]) := by simp [tvs]
theorem own_mv {w w' : World} {B e s n : Nat} {v : Value} {xs : List Value} {t : List Nat} (h : w.ownsRow B e s v n xs) (hm : Mv w w' t) (ht : ∀ x ∈ t, x < B) : w'.ownsRow B e s v n xs := by
  refine ⟨h.1, ?_⟩
  rcases h.2 with hn | ⟨g, cap, cur, rfl, hb, hgg, rest⟩
  · exact .inl hn
  · exact .inr ⟨g, cap, cur, rfl, hb, (hm.block g (Array.getElem?_eq_some_iff.1 hgg).1 (fun hx => by have := ht g hx; omega)).trans hgg, rest⟩
theorem own_low {w : World} {B B' e s n : Nat} {v : Value} {xs : List Value} (h : w.ownsRow B e s v n xs) (hb : B' ≤ B) : w.ownsRow B' e s v n xs := by
  refine ⟨h.1, ?_⟩
  rcases h.2 with hn | ⟨g, cap, cur, rfl, hg, rest⟩
  · exact .inl hn
  · exact .inr ⟨g, cap, cur, rfl, Nat.le_trans hb hg, rest⟩
theorem Mv.of_grown {w w' : World} {row : Option Nat} (h : w.grownBy w' row) {s : List Nat} (hs : ∀ k, row = some k → k ∈ s) : Mv w w' s :=
  ⟨h.os, h.tape, h.output, h.size, fun i hi hn => h.block i hi (fun e => hn (hs i e.symm))⟩
theorem Mv.own {w w3 w5 : World} {s : List Nat} {row : Option Nat} (h : Mv w w3 s) (hg : w3.grownBy w5 row) (hr : ∀ k, row = some k → w.heap.size ≤ k) : Mv w w5 s :=
  ⟨hg.os.trans h.os, hg.tape.trans h.tape, hg.output.trans h.output, Nat.le_trans h.size hg.size, fun i hi hn => (hg.block i (Nat.lt_of_lt_of_le hi h.size) (fun e => by have := hr i e.symm; omega)).trans (h.block i hi hn)⟩
theorem grown_alloc {w w' : World} {row : Option Nat} (o : Obj) (h : (w.alloc o).grownBy w' row) : w.grownBy w' row :=
  ⟨h.os, h.tape, h.output, Nat.le_trans (by simp) h.size, fun i hi hn => (h.block i (by simp; omega) hn).trans (Below.heap_alloc w o i hi)⟩
/-- A mill beside a row of the call's own that grows. -/
theorem MkW.own {w w3 w5 : World} {g nb : Nat} {tv : Option Nat} {l : List Mill.En} {st0 st : Mill.St} {row : Option Nat} (h0 : MkW w g nb tv l st0) (h : MkW w3 g nb tv l st) (hg : w3.grownBy w5 row) (hr : ∀ k, row = some k → w.heap.size ≤ k) : MkW w5 g nb tv l st := by
  have hm : Mv w3 w5 row.toList := Mv.of_grown hg (fun k e => by rw [e]; simp)
  have h1 := h0.m.lt
  have hx : ∀ x ∈ row.toList, w.heap.size ≤ x := fun x hx => hr x (by simpa using hx)
  have h2 := h0.t.2.2
  refine ⟨h.m.mv hm (fun e => by have := hx g e; omega) (fun e => by have := hx nb e; omega) (fun b hb e => ?_), hm.tabs h.t (fun x e => Nat.le_trans h2 (hx x e)), h.g2, h.n2⟩
  subst hb
  have := h0.m.2.1.lt
  have := hx b e
  omega
/-- What a call on a mill leaves that answers a new row of texts. -/
def RowPost (w : World) (g nb : Nat) (tv : Option Nat) (l : List Mill.En) (st : Mill.St) (R : List (List UInt8)) (bnd : Nat) (e : Ending) (w' : World) : Prop :=
  ∃ (v : Value) (ts : List (List UInt8)), e = .returned v ∧ w'.ownsRow w.heap.size 9 1 v R.length (tvs R) ∧ ts.length ≤ bnd ∧ MkW w' g nb tv l (Mill.steps l ts st) ∧ Mv w w' [g, nb]
/-- A row of the call's own, read. -/
theorem own_row {w : World} {B n : Nat} {v : Value} {R : List (List UInt8)} (h : w.ownsRow B 9 1 v n (tvs R)) (hn : R.length = n) : ∃ A cap, v = .slice A n cap ∧ n ≤ cap ∧ cap ≤ maxLen ∧ (n = 0 → A = none ∧ cap = 0 ∨ True) ∧
    (R ≠ [] → ∃ b, A = some ⟨b, 0, none⟩ ∧ b < w.heap.size ∧ B ≤ b ∧ TRow w b 0 R) := by
  rcases h.2 with ⟨rfl, rfl⟩ | ⟨b, cap, cur, rfl, hb, hgg, hc, hcm, _⟩
  · exact ⟨none, 0, rfl, Nat.le_refl _, Nat.zero_le _, (fun _ => Or.inr trivial), fun hr => absurd (List.length_eq_zero_iff.mp hn) hr⟩
  · refine ⟨some ⟨b, 0, none⟩, cap, rfl, hc, hcm, (fun _ => Or.inr trivial), fun hr => ⟨b, rfl, (Array.getElem?_eq_some_iff.1 hgg).1, hb, fun i hi => ?_⟩⟩
    have := h.cells (g := b) rfl i (.string (S (R[i]'hi))) (by unfold tvs; rw [List.getElem?_map, List.getElem?_eq_getElem hi]; rfl)
    have hadd : (⟨b, 0, none⟩ : Addr).add i = ⟨b, 0 + i, none⟩ := by unfold Addr.add; split <;> simp_all
    rw [← hadd]
    exact this

theorem made_one (w : World) (x : List UInt8) : ∀ (j : Nat) (u : Value), [Value.string (S x)][j]? = some u → (w.alloc (.cells #[.string (S x)] 9)).cell? ((⟨w.heap.size, 0, none⟩ : Addr).add j) = some u := by
  intro j u hu
  cases j with
  | zero => rw [show (⟨w.heap.size, 0, none⟩ : Addr).add 0 = ⟨w.heap.size, 0, none⟩ from rfl, World.cell?_alloc_at _ _ _ _ rfl]; simpa using hu
  | succ j => simp at hu

section
variable (g nb : Nat) (tv : Option Nat) (l : List Mill.En)

end
end Go.Proofs.YtgjknfphmmlcdaaDoor

namespace Go.Proofs.YtgjknfphmmlcdaaDoor
open Go.RowKit
set_option linter.unusedVariables false

theorem own_one (w : World) (x : List UInt8) (B : Nat) (hB : B ≤ w.heap.size) : (w.alloc (.cells #[.string (S x)] 9)).ownsRow B 9 1 (.slice (some ⟨w.heap.size, 0, none⟩) 1 1) 1 (tvs [x]) :=
  ⟨rfl, .inr ⟨w.heap.size, 1, #[.string (S x)], rfl, hB, heap_alloc_new w _, Nat.le_refl _, by decide, rfl, rfl⟩⟩

section
variable (g nb : Nat) (tv : Option Nat) (l : List Mill.En)

end
end Go.Proofs.YtgjknfphmmlcdaaDoor

namespace Go.Proofs.YtgjknfphmmlcdaaDoor
open Go.RowKit
set_option linter.unusedVariables false

/-- .. and an error beside the row. -/
def RowPostE (w : World) (g nb : Nat) (tv : Option Nat) (l : List Mill.En) (st : Mill.St) (R : List (List UInt8)) (bnd : Nat) (er : Int) (e : Ending) (w' : World) : Prop :=
  ∃ (v : Value) (ts : List (List UInt8)), e = .returned (.tuple #[v, .int .i64 er]) ∧ w'.ownsRow w.heap.size 9 1 v R.length (tvs R) ∧ ts.length ≤ bnd ∧ MkW w' g nb tv l (Mill.steps l ts st) ∧ Mv w w' [g, nb]

section
variable (g nb : Nat) (tv : Option Nat) (l : List Mill.En)

theorem Mk.growth_zero (L : List (List UInt8)) : Mk.growth l L 0 = [] := rfl
theorem Mk.growth_pos (L : List (List UInt8)) {a : Nat} (h : 1 ≤ a) : Mk.growth l L a = Mk.prf l L a true := by unfold Mk.growth; rw [if_neg (by omega)]
end
end Go.Proofs.YtgjknfphmmlcdaaDoor

namespace Go.Proofs.YtgjknfphmmlcdaaDoor
open Go.RowKit
set_option linter.unusedVariables false

namespace Mk
theorem below_two' : below 2 = 1 := by decide +kernel
theorem below_three : below 3 = 2 := by decide +kernel
theorem root_two (l : List Mill.En) (a b : T) : root l [a, b] = node l a b := by
  rw [root_more l [a, b] (by simp)]
  show node l (root l ([a, b].take (below 2))) (root l ([a, b].drop (below 2))) = _
  rw [below_two']
  show node l (root l [a]) (root l [b]) = _
  rw [root_one, root_one]
theorem root_three (l : List Mill.En) (a b c : T) : root l [a, b, c] = node l (node l a b) c := by
  rw [root_more l [a, b, c] (by simp)]
  show node l (root l ([a, b, c].take (below 3))) (root l ([a, b, c].drop (below 3))) = _
  rw [below_three]
  show node l (root l [a, b]) (root l [c]) = _
  rw [root_one, root_two]
theorem path_three (l : List Mill.En) (a b c : T) : path l [a, b, c] 2 = [node l a b] := by
  have h3 : ([a, b, c] : List T).length = 3 := rfl
  rw [path_right l [a, b, c] 2 (by simp) (by rw [h3, below_three]; omega), h3, below_three]
  show path l [c] 0 ++ [root l [a, b]] = _
  rw [path_none l [c] 0 (by simp), root_two]; rfl
end Mk

theorem belowB (w : World) (o : Obj) : Below w.heap.size w (w.alloc o) := (Below.refl _ w).alloc (Nat.le_refl _) o
theorem three_row (w : World) (x y z : List UInt8) : TRow (w.alloc (.cells #[.string (S x), .string (S y), .string (S z)] 9)) w.heap.size 0 [x, y, z] := fun i hi => by
  have h0 : i = 0 ∨ i = 1 ∨ i = 2 := by simp at hi; omega
  rcases h0 with rfl | rfl | rfl
  · rw [World.cell?_alloc_at _ _ _ _ rfl]; rfl
  · rw [World.cell?_alloc_at _ _ _ _ rfl]; rfl
  · rw [World.cell?_alloc_at _ _ _ _ rfl]; rfl

/-- The cells that the last line reads. -/
abbrev AwL (pb lb : Nat) (P x1 x2 x3 : List UInt8) (W : World) : Prop :=
  W.cell? ⟨pb, 0, none⟩ = some (.string (S P)) ∧ W.cell? ⟨lb, 0, none⟩ = some (.string (S x1)) ∧ W.cell? ⟨lb, 1, none⟩ = some (.string (S x2)) ∧ W.cell? ⟨lb, 2, none⟩ = some (.string (S x3))
theorem AwL.mv {pb lb g nb : Nat} {P x1 x2 x3 : List UInt8} {W W' : World} (h : AwL pb lb P x1 x2 x3 W) (hm : Mv W W' [g, nb]) (hp : pb ∉ [g, nb]) (hl : lb ∉ [g, nb]) (hps : pb < W.heap.size) (hls : lb < W.heap.size) : AwL pb lb P x1 x2 x3 W' :=
  ⟨World.cell_block (hm.block _ hps hp) h.1, World.cell_block (hm.block _ hls hl) h.2.1, World.cell_block (hm.block _ hls hl) h.2.2.1, World.cell_block (hm.block _ hls hl) h.2.2.2⟩

end Go.Proofs.YtgjknfphmmlcdaaDoor

namespace Go.Proofs.YtgjknfphmmlcdaaDoor
open Go.ChangeShapes Go.WideShapes Go.ChangeAt Go.RowKit
set_option linter.unusedVariables false

/-- A slice of texts that was there. -/
def RowA (w : World) (A : Option Addr) (L : List (List UInt8)) : Prop := L ≠ [] → ∃ b off, A = some ⟨b, off, none⟩ ∧ b < w.heap.size ∧ TRow w b off L
theorem RowA.take {w : World} {A : Option Addr} {L : List (List UInt8)} (h : RowA w A L) (k : Nat) : RowA w A (L.take k) := fun hl => by
  obtain ⟨b, off, hA, hb, hr⟩ := h (fun e => hl (by rw [e, List.take_nil]))
  exact ⟨b, off, hA, hb, hr.take k⟩
theorem RowA.at {w0 W : World} {A : Option Addr} {L : List (List UInt8)} (h : RowA w0 A L) (hb : Below w0.heap.size w0 W) {s : List Nat} (hs : ∀ x ∈ s, w0.heap.size ≤ x) : RowS W s A L := fun hl => by
  obtain ⟨b, off, hA, hbl, hr⟩ := h hl
  exact ⟨b, off, hA, Nat.lt_of_lt_of_le hbl hb.size, (fun hx => by have := hs b hx; omega), fun i hi => World.cell_block (hb.block b hbl) (hr i hi)⟩
/-- A mill that was made behind w0. -/
structure OneK (w0 W : World) (st : Mill.St) : Prop where
  m : MkW W (w0.heap.size + 1) w0.heap.size none [] st
  b : Below w0.heap.size w0 W
theorem OneK.made {w w1 : World} (hT : Tabs w) (h1 : MillTv w1 (w.heap.size + 1) w.heap.size none [] Mill.fresh) (hb1 : Below w.heap.size w w1) : OneK w w1 Mill.fresh :=
  ⟨⟨h1, hT.below hb1 hT.2.2, Nat.le_succ_of_le hT.2.2, hT.2.2⟩, hb1⟩
theorem OneK.below {w0 W W' : World} {st : Mill.St} (h : OneK w0 W st) (hb : Below W.heap.size W W') : OneK w0 W' st := ⟨h.m.below hb, h.b.trans (hb.mono h.b.size)⟩
theorem OneK.step {w0 W W' : World} {st st' : Mill.St} (h : OneK w0 W st) (hm : MkW W' (w0.heap.size + 1) w0.heap.size none [] st') (hv : Mv W W' [w0.heap.size + 1, w0.heap.size]) : OneK w0 W' st' :=
  ⟨hm, slip_tied hv (Nat.le_succ _) (Nat.le_refl _) h.b.size h.b⟩
theorem OneK.drew {w0 W : World} {st : Mill.St} (h : OneK w0 W st) : OneK w0 W.drew st := h.below (Below.drew (Below.refl _ _))
theorem two_low {w0 : World} : ∀ x ∈ [w0.heap.size + 1, w0.heap.size], w0.heap.size ≤ x := fun x hx => by
  simp only [List.mem_cons, List.not_mem_nil, or_false] at hx; omega

section
variable {H : Type} {enc : TypeId × Value → H} {W : World}
theorem mktexts_open {fuel : Nat} {A : Option Addr} {len cap : Nat} {x : DataW H × List MemPlace} (h : DataW.trod enc Tryd.prog W 0 (fun _ => true) true fuel 31 [.slice A len cap] = some x)
    (hw : ∀ n ∈ x.1.weights Tryd.prog 31, n ≤ 1000000000000000) :
    ∃ l : List (List UInt8), len = l.length ∧ l.length ≤ cap ∧ cap ≤ 9223372036854775807 ∧ RowA W A l ∧ (∀ s ∈ l, s.length ≤ 1000000000000000) := by
  have hx := texts_args h hw
  rcases open_strings Tryd.underlying31 Tryd.underlying9 (by kernel_rfl) h with ⟨hcs, rfl⟩ | ⟨a, len', cap', ss, hcs, _, hlc, _, hz, rfl, hcell, _⟩
  · injection hcs with hcs _; injection hcs with h1 h2 h3
    subst h1; subst h2; subst h3
    exact ⟨[], rfl, Nat.zero_le _, Nat.zero_le _, (fun h => absurd rfl h), (fun s hs => by cases hs)⟩
  · injection hcs with hcs _; injection hcs with h1 h2 h3
    subst h1; subst h2; subst h3
    obtain ⟨l, hl, hr, hb, _⟩ := hx
    refine ⟨l, hl.symm, by rw [hl]; exact hlc, ?_, hr, hb⟩
    have hlen : ss.length = cap := by rw [hz]; simp
    have hby : Tryd.prog.bytesOf 9 = 16 := by kernel_rfl
    have := hw (((strs (ss.take len)).length + (strs (ss.drop len)).length) * 16) (by rw [DataW.weights, Tryd.underlying31, ← hby]; exact List.mem_cons.2 (Or.inl rfl))
    simp only [strs, List.length_map, List.length_take, List.length_drop] at this
    omega
end
end Go.Proofs.YtgjknfphmmlcdaaDoor
