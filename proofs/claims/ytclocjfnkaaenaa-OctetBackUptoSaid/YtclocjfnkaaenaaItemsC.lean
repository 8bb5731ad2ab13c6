/-
  A slice of items that came in, opened.
-/
import Derived.Test.YtclocjfnkaaenaaWrites
import Derived.Test.YtclocjfnkaaenaaLaw
import Derived.Test.YtclocjfnkaaenaaBulk
import Derived.Deep.Slices
import Derived.SliceStrings
namespace Go.Proofs.Ytclocjfnkaaenaa
open Go.ChangeShapes Go.WideShapes Go.ChangeAt Go.RowKit
open Go.ChangeMaps (open_string shut_string)
set_option linter.unusedVariables false

theorem addr_plain {w : World} {a : Addr} {v : Value} (h : w.cell? a = some v) : a = ⟨a.block, a.off, none⟩ := by
  obtain ⟨b, o, s⟩ := a
  cases s with
  | none => rfl
  | some x => exfalso; unfold World.cell? at h; split at h <;> simp at h
theorem add_plain (b off i : Nat) : (⟨b, off, none⟩ : Addr).add i = ⟨b, off + i, none⟩ := by
  unfold Addr.add; split <;> simp_all

section
variable {H : Type} {enc : TypeId × Value → H} {W : World}

/-- A slice of texts that came in. -/
theorem texts_open {fuel : Nat} {v : Value} {x : DataW H × List MemPlace} (h : DataW.trod enc Try.prog W 0 (fun _ => true) true fuel 29 [v] = some x) :
    ∃ (A : Option Addr) (cap : Nat) (l : List (List UInt8)), v = .slice A l.length cap ∧ SSl W W.heap.size A l ∧ (l.map fun s => s.length + 1).sum ≤ Rows.uptoBulk x.1 := by
  rcases open_strings Try.underlying29 Try.underlying9 (by kernel_rfl) h with ⟨hcs, rfl⟩ | ⟨a, len, cap, ss, hcs, _, hlc, _, hz, rfl, hcell, _⟩
  · injection hcs with hcs _
    subst hcs
    exact ⟨none, 0, [], rfl, fun hl => absurd rfl hl, by simp⟩
  · injection hcs with hcs _
    subst hcs
    have hlen : ss.length = cap := by rw [hz]; simp
    refine ⟨some a, cap, (ss.take len).map (·.data.toList), by simp [hlen, hlc], fun hl => ?_, ?_⟩
    · have h0 : 0 < ss.length := by
        refine Nat.pos_of_ne_zero fun e => hl ?_
        simp [List.eq_nil_of_length_eq_zero e]
      have hc0 := hcell 0 h0
      have ha : a = ⟨a.block, a.off, none⟩ := addr_plain (by simpa [Addr.add] using hc0)
      have hblt : a.block < W.heap.size := World.block_lt_of_cell? W a (by simpa [Addr.add] using hc0)
      generalize a.block = b at ha hblt
      generalize a.off = off at ha
      subst ha
      refine ⟨b, off, rfl, hblt, fun i hi => ?_⟩
      have hi' : i < ss.length := by simp at hi; omega
      have := hcell i hi'
      rw [add_plain] at this
      rw [this]
      simp [List.getD, hi', S_of]
    · rw [Bulk.slice]
      have key : ∀ l : List ByteArray, (l.map fun s => s.data.toList.length + 1).sum = Rows.uptoBulkAll (strs (H := H) l) := by
        intro l
        induction l with
        | nil => simp [strs, Rows.uptoBulkAll]
        | cons s l ih =>
          have e : strs (H := H) (s :: l) = .lit (.string s.data.toList) :: strs l := rfl
          rw [e, Rows.uptoBulkAll, Bulk.str, List.map_cons, List.sum_cons, ih]
      have := key (ss.take len)
      rw [List.map_map]
      show ((ss.take len).map fun s => s.data.toList.length + 1).sum ≤ _
      rw [this]
      show _ ≤ Rows.uptoBulkAll (strs (ss.take len)) + _ + 1
      omega

theorem item_open {fuel : Nat} {cs : List Value} {x : DataW H × List MemPlace} (a : Addr) (hc : W.cells? 0 a 5 = some cs) (h : DataW.trod enc Try.prog W 0 (fun _ => true) true fuel 31 cs = some x) :
    ∃ it : Item, ItemAt W W.heap.size a.block a.off it ∧ it.bulk ≤ Rows.uptoBulk x.1 ∧ a = ⟨a.block, a.off, none⟩ ∧ a.block < W.heap.size := by
  obtain ⟨_, hcl, hat⟩ := World.cells?_some hc
  obtain ⟨ys, n', hn', hy, hlen, hyl, hf⟩ := DataW.trod_struct Try.underlying31 h
  match cs, hcl with
  | [c0, c1, c2, c3, c4], _ =>
    match ys, hyl with
    | [y0, y1, y2, y3, y4], _ =>
      have C1 : Try.prog.cellsOf 3 = 1 := by kernel_rfl
      have C2 : Try.prog.cellsOf 9 = 1 := by kernel_rfl
      have C3 : Try.prog.cellsOf 4 = 1 := by kernel_rfl
      have C4 : Try.prog.cellsOf 29 = 1 := by kernel_rfl
      have f0 : DataW.trod enc Try.prog W 0 (fun _ => true) true n' 3 (List.take (Try.prog.cellsOf 3) (List.drop 0 [c0, c1, c2, c3, c4])) = some y0 := hf 0 _ rfl
      have f1 : DataW.trod enc Try.prog W 0 (fun _ => true) true n' 3 (List.take (Try.prog.cellsOf 3) (List.drop 1 [c0, c1, c2, c3, c4])) = some y1 := hf 1 _ rfl
      have f2 : DataW.trod enc Try.prog W 0 (fun _ => true) true n' 9 (List.take (Try.prog.cellsOf 9) (List.drop 2 [c0, c1, c2, c3, c4])) = some y2 := hf 2 _ rfl
      have f3 : DataW.trod enc Try.prog W 0 (fun _ => true) true n' 4 (List.take (Try.prog.cellsOf 4) (List.drop 3 [c0, c1, c2, c3, c4])) = some y3 := hf 3 _ rfl
      have f4 : DataW.trod enc Try.prog W 0 (fun _ => true) true n' 29 (List.take (Try.prog.cellsOf 29) (List.drop 4 [c0, c1, c2, c3, c4])) = some y4 := hf 4 _ rfl
      rw [C1] at f0 f1
      rw [C2] at f2
      rw [C3] at f3
      rw [C4] at f4
      obtain ⟨K, e0, x0, _⟩ := DataW.trod_int Try.underlying3 f0
      obtain ⟨N, e1, x1, _⟩ := DataW.trod_int Try.underlying3 f1
      obtain ⟨T, e2, x2, _⟩ := DataW.trod_string Try.underlying9 f2
      obtain ⟨F, e3, x3⟩ := DataW.trod_bool Try.underlying4 f3
      obtain ⟨A, cap, l, e4, hsl, hlb⟩ := texts_open (v := c4) f4
      have g0 := hat 0 (by omega)
      have g1 := hat 1 (by omega)
      have g2 := hat 2 (by omega)
      have g3 := hat 3 (by omega)
      have g4 := hat 4 (by omega)
      simp at e0 e1 e2 e3 g0 g1 g2 g3 g4
      subst e0; subst e1; subst e2; subst e3; subst e4
      have ha : a = ⟨a.block, a.off, none⟩ := addr_plain (by simpa [Addr.add] using g0)
      have hblt : a.block < W.heap.size := World.block_lt_of_cell? W a (by simpa [Addr.add] using g0)
      refine ⟨⟨K, N, T.data.toList, F, l⟩, ?_, ?_, ha, hblt⟩
      · generalize a.block = b at ha
        generalize a.off = off at ha
        subst ha
        rw [add_plain] at g1 g2 g3 g4
        refine ⟨A, cap, by simpa [Addr.add] using g0, g1, ?_, g3, g4, hsl⟩
        rw [g2]; simp [S_of]
      · rw [hy]
        show T.data.toList.length + _ ≤ Rows.uptoBulk (DataW.agg [y0.1, y1.1, y2.1, y3.1, y4.1])
        rw [Bulk.agg]
        simp only [Rows.uptoBulkAll]
        have h2 : Rows.uptoBulk y2.1 = T.data.toList.length + 1 := by rw [x2]; exact Bulk.str _
        rw [h2]
        omega

theorem items_open {A : Option Addr} {len cap fuel : Nat} {x : DataW H × List MemPlace} (h : DataW.trod enc Try.prog W 0 (fun _ => true) true fuel 22 [.slice A len cap] = some x) (hk : Rows.uptoBulk x.1 ≤ 1048576) :
    len = 0 ∨ ∃ b off, A = some ⟨b, off, none⟩ ∧ b < W.heap.size ∧ ∃ xs : List Item, xs.length = len ∧ ItemsIn W W.heap.size b off xs ∧ (∀ x ∈ xs, x.bulk ≤ 1048576) ∧ len ≤ 1048576 := by
  rcases Deep.open_slice Try.underlying22 h with ⟨h0, _⟩ | ⟨a, len', cap', m, n, D, Pl, hcs, _, hlc, _, hm, hx, hi⟩
  · left; injection h0 with h0 _; injection h0
  · injection hcs with hcs _; injection hcs with hA hlen hcap
    subst hA; subst hlen; subst hcap
    rcases Nat.eq_zero_or_pos len with h0 | hpos
    · exact Or.inl h0
    · right
      have hm' : len ≤ m := by rw [hm]; simp; omega
      have hC : Try.prog.cellsOf 31 = 5 := by kernel_rfl
      have hone : ∀ i, i < len → ∃ it : Item, ItemAt W W.heap.size (a.add (i * 5)).block (a.add (i * 5)).off it ∧ it.bulk ≤ Rows.uptoBulk (D i) ∧ (a.add (i * 5)) = ⟨(a.add (i * 5)).block, (a.add (i * 5)).off, none⟩ ∧ (a.add (i * 5)).block < W.heap.size := by
        intro i hil
        obtain ⟨cs', hc, ht⟩ := hi i (by omega)
        rw [hC] at hc
        exact item_open _ hc ht
      have hblk : Rows.uptoBulkAll ((List.range len).map D) ≤ 1048576 := by
        rw [hx, Bulk.slice] at hk
        omega
      obtain ⟨it0, _, _, h00, hblt⟩ := hone 0 hpos
      have ha0 : a.add (0 * 5) = a := by simp [Addr.add]
      rw [ha0] at h00 hblt
      generalize a.block = b at h00 hblt
      generalize a.off = off at h00
      subst h00
      have hone' : ∀ i : Fin len, ∃ it : Item, ItemAt W W.heap.size b (off + i.1 * 5) it ∧ it.bulk ≤ 1048576 := by
        intro i
        obtain ⟨it, hit, hb, _, _⟩ := hone i.1 i.2
        rw [add_plain] at hit
        refine ⟨it, hit, Nat.le_trans hb (Nat.le_trans (Bulk.mem (List.mem_map.2 ⟨i.1, List.mem_range.2 i.2, rfl⟩)) hblk)⟩
      refine ⟨b, off, rfl, hblt, List.ofFn fun i => Classical.choose (hone' i), by simp, ?_, ?_, ?_⟩
      · intro i hi
        have hi' : i < len := by simpa using hi
        have := (Classical.choose_spec (hone' ⟨i, hi'⟩)).1
        simpa using this
      · intro x hx
        obtain ⟨i, rfl⟩ := (List.mem_ofFn ..).1 hx
        exact (Classical.choose_spec (hone' i)).2
      · have := Bulk.len ((List.range len).map D)
        simp at this
        omega
end
end Go.Proofs.Ytclocjfnkaaenaa
