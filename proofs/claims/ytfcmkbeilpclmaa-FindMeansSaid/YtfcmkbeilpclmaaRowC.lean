/-
  Rows of values, of numbers, of texts, of slips; what is cut off a row; rows of the call's own, read.
-/
import Derived.Test.YtfcmkbeilpclmaaMv
import Derived.Laws.AppendOwn
import Derived.OwnWalk
namespace Go.Proofs.Ytfcmkbeilpclmaa
open Go.RowKit
set_option linter.unusedVariables false

theorem World.cell_block {w w' : World} {b off : Nat} {v : Value} (h : w'.heap[b]? = w.heap[b]?) (hc : w.cell? ⟨b, off, none⟩ = some v) : w'.cell? ⟨b, off, none⟩ = some v := by
  unfold World.cell? at hc ⊢
  rw [h]; exact hc
/-- Texts as values. -/
def tvs (L : List (List UInt8)) : List Value := L.map fun s => .string (S s)
theorem tvs_snoc (L : List (List UInt8)) (x : List UInt8) : tvs L ++ [.string (S x)] = tvs (L ++ [x]) := by simp [tvs]
theorem own_mv {w w' : World} {B e s n : Nat} {v : Value} {xs : List Value} {t : List Nat} (h : w.ownsRow B e s v n xs) (hm : Mv w w' t) (ht : ∀ x ∈ t, x < B) : w'.ownsRow B e s v n xs := by
  refine ⟨h.1, ?_⟩
  rcases h.2 with hn | ⟨g, cap, cur, rfl, hb, hgg, rest⟩
  · exact .inl hn
  · exact .inr ⟨g, cap, cur, rfl, hb, (hm.block g (Array.getElem?_eq_some_iff.1 hgg).1 (fun hx => by have := ht g hx; omega)).trans hgg, rest⟩
theorem own_low {w : World} {B B' e s n : Nat} {v : Value} {xs : List Value} (h : w.ownsRow B e s v n xs) (hb : B' ≤ B) : w.ownsRow B' e s v n xs := by
  refine ⟨h.1, ?_⟩
  rcases h.2 with hn | ⟨g, cap, cur, rfl, hg, rest⟩
  · exact .inl hn
  · exact .inr ⟨g, cap, cur, rfl, Nat.le_trans hb hg, rest⟩
theorem Mv.of_grown {w w' : World} {row : Option Nat} (h : w.grownBy w' row) {s : List Nat} (hs : ∀ k, row = some k → k ∈ s) : Mv w w' s :=
  ⟨h.os, h.tape, h.output, h.size, fun i hi hn => h.block i hi (fun e => hn (hs i e.symm))⟩
theorem Mv.own {w w3 w5 : World} {s : List Nat} {row : Option Nat} (h : Mv w w3 s) (hg : w3.grownBy w5 row) (hr : ∀ k, row = some k → w.heap.size ≤ k) : Mv w w5 s :=
  ⟨hg.os.trans h.os, hg.tape.trans h.tape, hg.output.trans h.output, Nat.le_trans h.size hg.size, fun i hi hn => (hg.block i (Nat.lt_of_lt_of_le hi h.size) (fun e => by have := hr i e.symm; omega)).trans (h.block i hi hn)⟩
theorem grown_alloc {w w' : World} {row : Option Nat} (o : Obj) (h : (w.alloc o).grownBy w' row) : w.grownBy w' row :=
  ⟨h.os, h.tape, h.output, Nat.le_trans (by simp) h.size, fun i hi hn => (h.block i (by simp; omega) hn).trans (Below.heap_alloc w o i hi)⟩
/-- The address behind k elements of sz cells. -/
def aft (A : Option Addr) (cap k sz : Nat) : Option Addr := if cap = k then A else A.map (·.add (k * sz))
theorem add_flat' (b off i : Nat) : (⟨b, off, none⟩ : Addr).add i = ⟨b, off + i, none⟩ := by
  unfold Addr.add; split <;> simp_all
/-- A slice at A reads as values, in a block that is there and none of s. -/
def RowC (w : World) (s : List Nat) (A : Option Addr) (cs : List Value) : Prop := cs ≠ [] → ∃ b off, A = some ⟨b, off, none⟩ ∧ b < w.heap.size ∧ b ∉ s ∧ ∀ j u, cs[j]? = some u → w.cell? ⟨b, off + j, none⟩ = some u
theorem RowC.nil (w : World) (s : List Nat) (A : Option Addr) : RowC w s A [] := fun h => absurd rfl h
theorem RowC.mv {w w' : World} {s t : List Nat} {A : Option Addr} {cs : List Value} (h : RowC w s A cs) (hm : Mv w w' t) (ht : ∀ x ∈ t, x ∈ s) : RowC w' s A cs := fun hl => by
  obtain ⟨b, off, hA, hb, hn, hr⟩ := h hl
  exact ⟨b, off, hA, Nat.lt_of_lt_of_le hb hm.size, hn, fun j u hu => World.cell_block (hm.block b hb (fun hx => hn (ht b hx))) (hr j u hu)⟩
theorem RowC.below {w w' : World} {s : List Nat} {A : Option Addr} {cs : List Value} (h : RowC w s A cs) (hb : Below w.heap.size w w') : RowC w' s A cs := h.mv (Mv.of_below hb []) (by simp)
theorem RowC.take {w : World} {s : List Nat} {A : Option Addr} {cs : List Value} (h : RowC w s A cs) (k : Nat) : RowC w s A (cs.take k) := fun hl => by
  obtain ⟨b, off, hA, hb, hn, hr⟩ := h (fun e => hl (by rw [e, List.take_nil]))
  refine ⟨b, off, hA, hb, hn, fun j u hu => hr j u ?_⟩
  rw [List.getElem?_take] at hu
  split at hu
  · exact hu
  · cases hu
theorem RowC.drop {w : World} {s : List Nat} {A : Option Addr} {cs : List Value} (h : RowC w s A cs) (cap k sz : Nat) (hc : cs.length ≤ cap * sz) : RowC w s (aft A cap k sz) (cs.drop (k * sz)) := fun hl => by
  have hne : ¬ cap = k := fun e => hl (List.drop_eq_nil_of_le (by rw [← e]; exact hc))
  obtain ⟨b, off, hA, hb, hn, hr⟩ := h (fun e => hl (by rw [e, List.drop_nil]))
  refine ⟨b, off + k * sz, ?_, hb, hn, fun j u hu => ?_⟩
  · unfold aft
    rw [if_neg hne, hA, Option.map_some, add_flat']
  · rw [List.getElem?_drop] at hu
    rw [Nat.add_assoc]
    exact hr _ u hu
theorem RowC.sub {w : World} {s t : List Nat} {A : Option Addr} {cs : List Value} (h : RowC w s A cs) (hs : ∀ x ∈ t, x ∈ s) : RowC w t A cs := fun hl => by
  obtain ⟨b, off, hA, hb, hn, hr⟩ := h hl
  exact ⟨b, off, hA, hb, fun hx => hn (hs b hx), hr⟩
/-- A slice that was there. -/
def RowCA (w : World) (A : Option Addr) (cs : List Value) : Prop := RowC w [] A cs
theorem RowCA.at {w0 W : World} {A : Option Addr} {cs : List Value} (h : RowCA w0 A cs) (hb : Below w0.heap.size w0 W) {s : List Nat} (hs : ∀ x ∈ s, w0.heap.size ≤ x) : RowC W s A cs := fun hl => by
  obtain ⟨b, off, hA, hbl, _, hr⟩ := h hl
  exact ⟨b, off, hA, Nat.lt_of_lt_of_le hbl hb.size, (fun hx => by have := hs b hx; omega), fun j u hu => World.cell_block (hb.block b hbl) (hr j u hu)⟩
/-- Numbers as values. -/
def ivs (L : List Int) : List Value := L.map fun x => .int .i64 x
theorem ivs_take (L : List Int) (k : Nat) : (ivs L).take k = ivs (L.take k) := by unfold ivs; rw [List.map_take]
theorem ivs_drop (L : List Int) (k : Nat) : (ivs L).drop (k * 1) = ivs (L.drop k) := by unfold ivs; rw [List.map_drop, Nat.mul_one]
/-- A slice at A reads as numbers. -/
abbrev RowI (w : World) (s : List Nat) (A : Option Addr) (L : List Int) : Prop := RowC w s A (ivs L)
theorem RowI.take' {w : World} {s : List Nat} {A : Option Addr} {L : List Int} (h : RowI w s A L) (k : Nat) : RowI w s A (L.take k) := by
  have := RowC.take h k
  rwa [ivs_take] at this
theorem RowI.aft {w : World} {s : List Nat} {A : Option Addr} {L : List Int} (h : RowI w s A L) (cap k : Nat) (hc : L.length ≤ cap) : RowI w s (aft A cap k 1) (L.drop k) := by
  have := RowC.drop h cap k 1 (by unfold ivs; rw [List.length_map]; omega)
  rwa [ivs_drop] at this
theorem RowI.get {w : World} {s : List Nat} {A : Option Addr} {L : List Int} (h : RowI w s A L) (k : Nat) (hk : k < L.length) : ∃ b off, A = some ⟨b, off, none⟩ ∧ w.cell? ⟨b, off + k, none⟩ = some (.int .i64 (L[k])) := by
  obtain ⟨b, off, hA, _, _, hr⟩ := h (fun e => by
    have : (ivs L).length = L.length := by unfold ivs; rw [List.length_map]
    rw [e, List.length_nil] at this
    omega)
  exact ⟨b, off, hA, hr k _ (by unfold ivs; rw [List.getElem?_map, List.getElem?_eq_getElem hk]; rfl)⟩

theorem flat_len {α : Type} (f : α → List Value) (k : Nat) (hf : ∀ a, (f a).length = k) (L : List α) : (L.flatMap f).length = L.length * k := by
  induction L with
  | nil => simp
  | cons x xs ih => rw [List.flatMap_cons, List.length_append, hf, ih, List.length_cons, Nat.succ_mul, Nat.add_comm]
theorem flat_get {α : Type} (f : α → List Value) (k : Nat) (hf : ∀ a, (f a).length = k) (L : List α) : ∀ (i : Nat) (h : i < L.length) (j : Nat), j < k → (L.flatMap f)[i * k + j]? = (f L[i])[j]? := by
  induction L with
  | nil => intro i h; cases h
  | cons x xs ih =>
    intro i h j hj
    rw [List.flatMap_cons]
    cases i with
    | zero => rw [Nat.zero_mul, Nat.zero_add, List.getElem?_append_left (by rw [hf]; exact hj)]; rfl
    | succ i =>
      rw [List.length_cons] at h
      rw [List.getElem?_append_right (by rw [hf, Nat.succ_mul]; omega), hf, show (i + 1) * k + j - k = i * k + j from by rw [Nat.succ_mul]; omega]
      exact ih i (by omega) j hj
theorem flat_take {α : Type} (f : α → List Value) (k : Nat) (hf : ∀ a, (f a).length = k) (L : List α) : ∀ n, (L.flatMap f).take (n * k) = (L.take n).flatMap f := by
  induction L with
  | nil => intro n; simp
  | cons x xs ih =>
    intro n
    cases n with
    | zero => simp
    | succ n =>
      rw [List.flatMap_cons, List.take_succ_cons, List.flatMap_cons, List.take_append, hf, show (n + 1) * k - k = n * k from by rw [Nat.succ_mul]; omega, ih, List.take_of_length_le (by rw [hf, Nat.succ_mul]; omega)]
theorem flat_drop {α : Type} (f : α → List Value) (k : Nat) (hf : ∀ a, (f a).length = k) (L : List α) : ∀ n, (L.flatMap f).drop (n * k) = (L.drop n).flatMap f := by
  induction L with
  | nil => intro n; simp
  | cons x xs ih =>
    intro n
    cases n with
    | zero => simp
    | succ n =>
      rw [List.flatMap_cons, List.drop_succ_cons, List.drop_append, hf, show (n + 1) * k - k = n * k from by rw [Nat.succ_mul]; omega, ih, List.drop_eq_nil_of_le (by rw [hf, Nat.succ_mul]; omega), List.nil_append]
/-- A slip. -/
structure Slp where
  n : List UInt8
  p : List UInt8
  c : List UInt8
  e : Bool
  deriving DecidableEq
def Slp.cs (x : Slp) : List Value := [.string (S x.n), .string (S x.p), .string (S x.c), .bool x.e]
theorem Slp.cs_len (x : Slp) : x.cs.length = 4 := rfl
/-- Slips as values. -/
def svs (L : List Slp) : List Value := L.flatMap Slp.cs
theorem svs_len (L : List Slp) : (svs L).length = L.length * 4 := flat_len Slp.cs 4 Slp.cs_len L
theorem svs_snoc (L : List Slp) (x : Slp) : svs L ++ x.cs = svs (L ++ [x]) := by unfold svs; rw [List.flatMap_append, List.flatMap_singleton]
/-- A slice at A reads as slips. -/
abbrev RowP (w : World) (s : List Nat) (A : Option Addr) (L : List Slp) : Prop := RowC w s A (svs L)
theorem RowP.take' {w : World} {s : List Nat} {A : Option Addr} {L : List Slp} (h : RowP w s A L) (k : Nat) : RowP w s A (L.take k) := by
  have := RowC.take h (k * 4)
  unfold svs at this
  rwa [flat_take Slp.cs 4 Slp.cs_len] at this
theorem RowP.aft {w : World} {s : List Nat} {A : Option Addr} {L : List Slp} (h : RowP w s A L) (cap k : Nat) (hc : L.length ≤ cap) : RowP w s (aft A cap k 4) (L.drop k) := by
  have := RowC.drop h cap k 4 (by rw [svs_len]; omega)
  unfold svs at this
  rwa [flat_drop Slp.cs 4 Slp.cs_len] at this
/-- A slip lies at an offset of a block. -/
def PAt (W : World) (b o : Nat) (x : Slp) : Prop :=
  W.cell? ⟨b, o, none⟩ = some (.string (S x.n)) ∧ W.cell? ⟨b, o + 1, none⟩ = some (.string (S x.p)) ∧ W.cell? ⟨b, o + 2, none⟩ = some (.string (S x.c)) ∧ W.cell? ⟨b, o + 3, none⟩ = some (.bool x.e)
theorem RowP.get {w : World} {s : List Nat} {A : Option Addr} {L : List Slp} (h : RowP w s A L) (k : Nat) (hk : k < L.length) : ∃ b off, A = some ⟨b, off, none⟩ ∧ b < w.heap.size ∧ b ∉ s ∧ PAt w b (off + k * 4) (L[k]) := by
  obtain ⟨b, off, hA, hb, hn, hr⟩ := h (fun e => by
    have := svs_len L
    rw [e, List.length_nil] at this
    omega)
  have hg := fun j (hj : j < 4) => flat_get Slp.cs 4 Slp.cs_len L k hk j hj
  refine ⟨b, off, hA, hb, hn, ?_, ?_, ?_, ?_⟩
  · exact hr (k * 4) _ ((hg 0 (by omega)).trans rfl)
  · rw [Nat.add_assoc]; exact hr (k * 4 + 1) _ ((hg 1 (by omega)).trans rfl)
  · rw [Nat.add_assoc]; exact hr (k * 4 + 2) _ ((hg 2 (by omega)).trans rfl)
  · rw [Nat.add_assoc]; exact hr (k * 4 + 3) _ ((hg 3 (by omega)).trans rfl)
/-- Parts as values. -/
def pcs (p : Nat × Nat) : List Value := [.int .i64 (p.1 : Int), .int .i64 (p.2 : Int)]
def pvs (L : List (Nat × Nat)) : List Value := L.flatMap pcs
theorem pcs_len (x : Nat × Nat) : (pcs x).length = 2 := rfl
theorem pvs_len (L : List (Nat × Nat)) : (pvs L).length = L.length * 2 := flat_len pcs 2 pcs_len L
theorem pvs_app (L M : List (Nat × Nat)) : pvs L ++ pvs M = pvs (L ++ M) := by unfold pvs; rw [List.flatMap_append]
abbrev RowPt (w : World) (s : List Nat) (A : Option Addr) (L : List (Nat × Nat)) : Prop := RowC w s A (pvs L)
theorem RowPt.get {w : World} {s : List Nat} {A : Option Addr} {L : List (Nat × Nat)} (h : RowPt w s A L) (k : Nat) (hk : k < L.length) : ∃ b off, A = some ⟨b, off, none⟩ ∧ b < w.heap.size ∧ b ∉ s ∧ w.cell? ⟨b, off + k * 2, none⟩ = some (.int .i64 ((L[k]).1 : Int)) ∧ w.cell? ⟨b, off + k * 2 + 1, none⟩ = some (.int .i64 ((L[k]).2 : Int)) := by
  obtain ⟨b, off, hA, hb, hn, hr⟩ := h (fun e => by
    have := pvs_len L
    rw [e, List.length_nil] at this
    omega)
  have hg := fun j (hj : j < 2) => flat_get pcs 2 pcs_len L k hk j hj
  refine ⟨b, off, hA, hb, hn, ?_, ?_⟩
  · exact hr (k * 2) _ ((hg 0 (by omega)).trans rfl)
  · rw [Nat.add_assoc]; exact hr (k * 2 + 1) _ ((hg 1 (by omega)).trans rfl)
/-- A row of the call's own, read. -/
theorem own_rowC {w : World} {B e sz n : Nat} {v : Value} {cs : List Value} {s : List Nat} (h : w.ownsRow B e sz v n cs) (hs : ∀ x ∈ s, x < B) (hz : 0 < sz) : ∃ A cap, v = .slice A n cap ∧ n ≤ cap ∧ cap ≤ maxLen ∧ (A = none → cs = [] ∧ n = 0 ∧ cap = 0) ∧ cs.length = n * sz ∧ RowC w s A cs := by
  rcases h.2 with ⟨rfl, rfl⟩ | ⟨b, cap, cur, rfl, hb, hgg, hc, hcm, _⟩
  · refine ⟨none, 0, rfl, Nat.le_refl _, Nat.zero_le _, fun _ => ⟨List.eq_nil_of_length_eq_zero ?_, rfl, rfl⟩, h.1, fun hr => ?_⟩
    · rw [h.1, Nat.zero_mul]
    · exact absurd (List.eq_nil_of_length_eq_zero (by rw [h.1, Nat.zero_mul])) hr
  · refine ⟨some ⟨b, 0, none⟩, cap, rfl, hc, hcm, (fun e => by cases e), h.1, fun hr => ⟨b, 0, rfl, (Array.getElem?_eq_some_iff.1 hgg).1, fun hx => ?_, fun j u hu => ?_⟩⟩
    · have := hs b hx
      omega
    · have := h.cells (g := b) rfl j u hu
      rwa [add_flat'] at this
end Go.Proofs.Ytfcmkbeilpclmaa
