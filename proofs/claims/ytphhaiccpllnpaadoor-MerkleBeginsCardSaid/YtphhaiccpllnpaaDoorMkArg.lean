/-
  A slice of texts that came in, with its bounds; a new mill that stays behind a world.
-/
import Derived.Test.YtphhaiccpllnpaaDoorMkAwake
namespace Go.Proofs.YtphhaiccpllnpaaDoor
open Go.ChangeShapes Go.WideShapes Go.ChangeAt Go.RowKit
set_option linter.unusedVariables false

/-- A slice of texts that was there. -/
def RowA (w : World) (A : Option Addr) (L : List (List UInt8)) : Prop := L ≠ [] → ∃ b off, A = some ⟨b, off, none⟩ ∧ b < w.heap.size ∧ TRow w b off L
theorem RowA.take {w : World} {A : Option Addr} {L : List (List UInt8)} (h : RowA w A L) (k : Nat) : RowA w A (L.take k) := fun hl => by
  obtain ⟨b, off, hA, hb, hr⟩ := h (fun e => hl (by rw [e, List.take_nil]))
  exact ⟨b, off, hA, hb, hr.take k⟩
theorem RowA.at {w0 W : World} {A : Option Addr} {L : List (List UInt8)} (h : RowA w0 A L) (hb : Below w0.heap.size w0 W) {s : List Nat} (hs : ∀ x ∈ s, w0.heap.size ≤ x) : RowS W s A L := fun hl => by
  obtain ⟨b, off, hA, hbl, hr⟩ := h hl
  exact ⟨b, off, hA, Nat.lt_of_lt_of_le hbl hb.size, (fun hx => by have := hs b hx; omega), fun i hi => World.cell_block (hb.block b hbl) (hr i hi)⟩
/-- A mill that was made behind w0. -/
structure OneK (w0 W : World) (st : Mill.St) : Prop where
  m : MkW W (w0.heap.size + 1) w0.heap.size none [] st
  b : Below w0.heap.size w0 W
theorem OneK.made {w w1 : World} (hT : Tabs w) (h1 : MillTv w1 (w.heap.size + 1) w.heap.size none [] Mill.fresh) (hb1 : Below w.heap.size w w1) : OneK w w1 Mill.fresh :=
  ⟨⟨h1, hT.below hb1 hT.2.2, Nat.le_succ_of_le hT.2.2, hT.2.2⟩, hb1⟩
theorem OneK.below {w0 W W' : World} {st : Mill.St} (h : OneK w0 W st) (hb : Below W.heap.size W W') : OneK w0 W' st := ⟨h.m.below hb, h.b.trans (hb.mono h.b.size)⟩
theorem OneK.step {w0 W W' : World} {st st' : Mill.St} (h : OneK w0 W st) (hm : MkW W' (w0.heap.size + 1) w0.heap.size none [] st') (hv : Mv W W' [w0.heap.size + 1, w0.heap.size]) : OneK w0 W' st' :=
  ⟨hm, slip_tied hv (Nat.le_succ _) (Nat.le_refl _) h.b.size h.b⟩
theorem OneK.drew {w0 W : World} {st : Mill.St} (h : OneK w0 W st) : OneK w0 W.drew st := h.below (Below.drew (Below.refl _ _))
theorem OneK.awake {w0 W : World} {st : Mill.St} (h : OneK w0 W st) : Calls Tryd.prog 20 #[] W fun e w' => e = .returned (.bool true) ∧ Below w0.heap.size w0 w' :=
  (awakeMk_any W h.m.t).mono fun e w' ⟨he, hb⟩ => ⟨he, h.b.trans (hb.mono h.b.size)⟩
theorem two_low {w0 : World} : ∀ x ∈ [w0.heap.size + 1, w0.heap.size], w0.heap.size ≤ x := fun x hx => by
  simp only [List.mem_cons, List.not_mem_nil, or_false] at hx; omega

section
variable {H : Type} {enc : TypeId × Value → H} {W : World}
theorem mktexts_open {fuel : Nat} {A : Option Addr} {len cap : Nat} {x : DataW H × List MemPlace} (h : DataW.trod enc Tryd.prog W 0 (fun _ => true) true fuel 22 [.slice A len cap] = some x)
    (hw : ∀ n ∈ x.1.weights Tryd.prog 22, n ≤ 1000000000000000) :
    ∃ l : List (List UInt8), len = l.length ∧ l.length ≤ cap ∧ cap ≤ 9223372036854775807 ∧ RowA W A l ∧ (∀ s ∈ l, s.length ≤ 1000000000000000) := by
  have hx := texts_args h hw
  rcases open_strings Tryd.underlying22 Tryd.underlying9 (by kernel_rfl) h with ⟨hcs, rfl⟩ | ⟨a, len', cap', ss, hcs, _, hlc, _, hz, rfl, hcell, _⟩
  · injection hcs with hcs _; injection hcs with h1 h2 h3
    subst h1; subst h2; subst h3
    exact ⟨[], rfl, Nat.zero_le _, Nat.zero_le _, (fun h => absurd rfl h), (fun s hs => by cases hs)⟩
  · injection hcs with hcs _; injection hcs with h1 h2 h3
    subst h1; subst h2; subst h3
    obtain ⟨l, hl, hr, hb, _⟩ := hx
    refine ⟨l, hl.symm, by rw [hl]; exact hlc, ?_, hr, hb⟩
    have hlen : ss.length = cap := by rw [hz]; simp
    have hby : Tryd.prog.bytesOf 9 = 16 := by kernel_rfl
    have := hw (((strs (ss.take len)).length + (strs (ss.drop len)).length) * 16) (by rw [DataW.weights, Tryd.underlying22, ← hby]; exact List.mem_cons.2 (Or.inl rfl))
    simp only [strs, List.length_map, List.length_take, List.length_drop] at this
    omega
end
end Go.Proofs.YtphhaiccpllnpaaDoor
