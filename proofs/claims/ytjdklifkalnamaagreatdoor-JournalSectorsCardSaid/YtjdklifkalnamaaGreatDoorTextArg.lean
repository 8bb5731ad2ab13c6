/-
  A slice of texts that came in.
-/
import Derived.Test.YtjdklifkalnamaaGreatDoorMemOne
import Derived.Test.YtjdklifkalnamaaGreatDoorChecked
import Derived.Deep.Slices
import Derived.SliceStrings
import Derived.SizedLaws
namespace Go.Proofs.YtjdklifkalnamaaGreatDoor
open Go.ChangeShapes Go.WideShapes Go.ChangeAt Go.RowKit
set_option linter.unusedVariables false

/-- A row of texts, in one old block. -/
def TRow (w : World) (b off : Nat) (l : List (List UInt8)) : Prop := ∀ i (h : i < l.length), w.cell? ⟨b, off + i, none⟩ = some (.string (S (l[i]'h)))
theorem addr_plain {w : World} {a : Addr} {v : Value} (h : w.cell? a = some v) : a = ⟨a.block, a.off, none⟩ := by
  obtain ⟨b, o, s⟩ := a
  cases s with
  | none => rfl
  | some x => exfalso; unfold World.cell? at h; split at h <;> simp at h
theorem add_plain (b off i : Nat) : (⟨b, off, none⟩ : Addr).add i = ⟨b, off + i, none⟩ := by
  unfold Addr.add; split <;> simp_all
theorem weights_in {H : Type} {P : Program} {e : TypeId} {d : DataW H} {n : Nat} (hn : n ∈ d.weights P e) : ∀ {l : List (DataW H)}, d ∈ l → n ∈ DataW.weightsAll P e l
  | x :: r, h => by
    rw [DataW.weightsAll, List.mem_append]
    rcases List.mem_cons.1 h with rfl | h
    · exact Or.inl hn
    · exact Or.inr (weights_in hn h)

section
variable {H : Type} {enc : TypeId × Value → H} {W : World}
/-- A slice of texts that came in. -/
theorem texts_in {fuel : Nat} {A : Option Addr} {len cap : Nat} {x : DataW H × List MemPlace} (h : DataW.trod enc Tryz.prog W 0 (fun _ => true) true fuel 28 [.slice A len cap] = some x) :
    len = 0 ∨ ∃ (b off : Nat) (l : List (List UInt8)) (sp : List (DataW H)), A = some ⟨b, off, none⟩ ∧ l.length = len ∧ b < W.heap.size ∧ TRow W b off l ∧ x.1 = .slice (l.map fun s => .lit (.string s)) sp := by
  rcases open_strings Tryz.underlying28 Tryz.underlying9 (by kernel_rfl) h with ⟨hcs, rfl⟩ | ⟨a, len', cap', ss, hcs, _, hlc, _, hz, rfl, hcell, _⟩
  · left; injection hcs with hcs _; injection hcs
  · injection hcs with hcs _; injection hcs with h1 h2 h3
    subst h1; subst h2; subst h3
    rcases Nat.eq_zero_or_pos len with h0 | hpos
    · exact Or.inl h0
    · right
      have hlen : ss.length = cap := by rw [hz]; simp
      have hc0 := hcell 0 (by omega)
      have ha : a = ⟨a.block, a.off, none⟩ := addr_plain (by simpa [Addr.add] using hc0)
      have hblt : a.block < W.heap.size := World.block_lt_of_cell? W a (by simpa [Addr.add] using hc0)
      generalize a.block = b at ha hblt
      generalize a.off = off at ha
      subst ha
      refine ⟨b, off, (ss.take len).map (·.data.toList), strs (ss.drop len), rfl, by simp [hlen, hlc], hblt, fun i hi => ?_, ?_⟩
      · have hi' : i < ss.length := by simp at hi; omega
        have := hcell i hi'
        rw [add_plain] at this
        rw [this]
        simp [List.getD, hi', S_of]
      · show DataW.slice (strs (ss.take len)) (strs (ss.drop len)) = _
        congr 1
        simp [strs, List.map_map, Function.comp_def]
/-- .. with its bounds. -/
theorem texts_args {fuel : Nat} {A : Option Addr} {len cap : Nat} {x : DataW H × List MemPlace} (h : DataW.trod enc Tryz.prog W 0 (fun _ => true) true fuel 28 [.slice A len cap] = some x)
    (hw : ∀ n ∈ x.1.weights Tryz.prog 28, n ≤ 1000000000000000) :
    ∃ l : List (List UInt8), l.length = len ∧ (l ≠ [] → ∃ b off, A = some ⟨b, off, none⟩ ∧ b < W.heap.size ∧ TRow W b off l) ∧ (∀ s ∈ l, s.length ≤ 1000000000000000) ∧ l.length ≤ 1000000000000000 := by
  rcases texts_in h with rfl | ⟨b, off, l, sp, rfl, rfl, hb, hrow, hd⟩
  · exact ⟨[], rfl, fun h => absurd rfl h, (fun s hs => by cases hs), Nat.zero_le _⟩
  · rw [hd] at hw
    refine ⟨l, rfl, fun _ => ⟨b, off, rfl, hb, hrow⟩, fun s hs => hw _ ?_, ?_⟩
    · rw [DataW.weights, Tryz.underlying28]
      exact List.mem_cons_of_mem _ (List.mem_append_left _ (weights_in (d := .lit (.string s)) (by simp [DataW.weights]) (List.mem_map.2 ⟨s, hs, rfl⟩)))
    · have hby : Tryz.prog.bytesOf 9 = 16 := by kernel_rfl
      have := hw ((l.length + sp.length) * 16) (by rw [DataW.weights, Tryz.underlying28, ← hby]; simp)
      omega
end
end Go.Proofs.YtjdklifkalnamaaGreatDoor
