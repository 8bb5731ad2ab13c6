/-
  A queue in memory: Drop.
-/
import Derived.Test.YtjmdpepghnhpkaaQueC
import Derived.Shelf.Abstract
namespace Go.Proofs.Ytjmdpepghnhpkaa
open Go.RowKit Go.Shelf
set_option linter.unusedVariables false

/-- What a Drop leaves of a heap, and what it tells. -/
def Dropped (h : List Du) (seq : Int) (b : Bool) (h' : List Du) : Prop := (b = true ∧ ∃ d ∈ h, d.seq = seq ∧ h.Perm (d :: h')) ∨ (b = false ∧ (∀ x ∈ h, x.seq ≠ seq) ∧ h' = h)
set_option maxRecDepth 100000 in
set_option maxHeartbeats 4000000 in
theorem qrdrop_any {w : World} {q : Nat} {s : List Nat} {h : List Du} (H : QRep w q s h) (hh : Du.Heap h) (hl : h.length ≤ 1000000) (hfit : ∀ x ∈ h, x.due ≤ 9223372036854775807) (seq : Int) :
    Calls Try.prog 20 #[.pointer (some ⟨q, 0, none⟩), .int .i64 seq] w fun r w' => ∃ b h', r = .returned (.bool b) ∧ Dropped h seq b h' ∧ Du.Heap h' ∧ QRep w' q s h' ∧ Mv w w' (q :: s) := by
  have hb : Below w.heap.size w (w.alloc (.cells #[.int .i64 seq] 3)) := (Below.refl _ w).alloc (Nat.le_refl _) _
  have hz := Has.made w 3 #[.int .i64 seq]
  have HQ := Lib.hid (H.below hb)
  have HP := Lib.hid hh
  have HLL := Lib.hid hl
  clear H hh hl
  go_enter Try.func20, Try.ntmps20
  go_upto_region 1 with fail
  generalize w.alloc (.cells #[.int .i64 seq] 3) = W0 at hb hz HQ ⊢
  generalize w.heap.size = b0 at hz ⊢
  have HB := Lib.hid hb
  have hX : ∀ (a b : Int) (W : World), Below W0.heap.size W0 W → Calls Try.prog 33 (#[.agg #[.int .i64 a, .int .i64 b]] ++ #[.pointer (some ⟨b0, 0, none⟩)]) W fun r w' => r = .returned (.bool ((fun d : Du => d.seq == seq) ⟨a, b⟩)) ∧ Below W.heap.size W w' :=
    fun a b W hW => dropIs_any a b seq b0 W ((hW.cell (p := ⟨b0, 0, none⟩) hz.lt).trans (hz.cell 0)) (Nat.lt_of_lt_of_le hz.lt hW.size)
  have HFI := Lib.hid (find_any HQ.out HP.out HLL.out 9223372036854775807 (fun d => d.seq == seq) 33 #[.pointer (some ⟨b0, 0, none⟩)] (enters_of Try.func33 (by kernel_rfl) rfl) hX)
  have HFT := Lib.hid hfit
  clear hb hz hX hfit
  go_wp2_with fail
  refine HFI.out.mono ?_
  rintro r w1 ⟨⟨v, rfl, hf⟩, hb1⟩
  have HB1 := Lib.hid (HB.out.trans (hb1.mono HB.out.size))
  have HQ1 := Lib.hid (HQ.out.below hb1)
  clear hb1 HFI HB HQ
  rcases hf with ⟨rfl, hn⟩ | ⟨i, hi, rfl, he, -⟩
  rotate_left
  · have hneg : ¬ (i : Int) < 0 := by omega
    obtain ⟨B, cap, rfl, hat⟩ : ∃ B cap, s = [B] ∧ HAt w1 q B h cap := by
      rcases HQ1.out with ⟨e, _⟩ | ⟨B, cap, e, hat⟩
      · rw [e] at hi; cases hi
      · exact ⟨B, cap, e, hat⟩
    have HRM := Lib.hid (dremove_any hat HP.out hi HLL.out)
    have HE : Hid (Du.g h i ∈ h ∧ (Du.g h i).seq = seq) := Lib.hid (by rw [Du.g_at hi]; refine ⟨List.getElem_mem hi, ?_⟩; have h2 := (Bool.and_eq_true _ _ ▸ he : _ ∧ _).2; exact beq_iff_eq.1 h2)
    clear hat HQ1 he hi
    go_wp2_with fail
    refine HRM.out.mono ?_
    rintro r w2 ⟨rfl, h', hp2, hd2, hat2, hm2⟩
    have HFIN := Lib.hid (And.intro hp2 (And.intro hd2 (And.intro hat2 ((Mv.of_below HB1.out [q, B]).trans hm2))))
    clear hp2 hd2 hat2 hm2 HRM
    go_wp2_with fail
    go_ret
    obtain ⟨e1, e2, e3, e4⟩ := HFIN.out
    exact ⟨true, h', rfl, .inl ⟨rfl, _, HE.out.1, HE.out.2, e1⟩, e2, .inr ⟨B, cap, rfl, e3⟩, e4⟩
  · have HN : Hid (∀ x ∈ h, x.seq ≠ seq) := Lib.hid (fun x hx e => by
      have h1 := hn x hx
      have h2 : (decide (x.due ≤ 9223372036854775807) && (x.seq == seq)) = false := h1
      rw [decide_eq_true (HFT.out x hx), e] at h2
      simp at h2)
    clear hn
    go_wp2_with fail
    go_ret
    exact ⟨false, h, rfl, .inr ⟨rfl, HN.out, rfl⟩, HP.out, HQ1.out, Mv.of_below HB1.out _⟩
end Go.Proofs.Ytjmdpepghnhpkaa
