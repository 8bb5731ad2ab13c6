/-
  A queue in memory: All.
-/
import Derived.Test.YtjmdpepghnhpkaaQueL
import Derived.Test.YtjmdpepghnhpkaaPolSort
namespace Go.Proofs.Ytjmdpepghnhpkaa
open Go.RowKit Go.Shelf
set_option linter.unusedVariables false

/-- What slices.Values reads of a queue. -/
theorem QRep.feeds {w : World} {q : Nat} {s : List Nat} {h : List Du} (H : QRep w q s h) : ∃ A cap, Has w q 32 #[.slice A h.length cap] ∧ h.length ≤ cap ∧ ∀ k (hk : k < h.length), ∃ b off, A = some ⟨b, off, none⟩ ∧ b < w.heap.size ∧ w.cell? ⟨b, off + k * 2, none⟩ = some (.int .i64 h[k].seq) ∧ w.cell? ⟨b, off + k * 2 + 1, none⟩ = some (.int .i64 h[k].due) := by
  rcases H with ⟨rfl, _, h1⟩ | ⟨B, cap, _, hat⟩
  · exact ⟨none, 0, h1, Nat.le_refl _, fun k hk => by cases hk⟩
  · refine ⟨some ⟨B, 0, none⟩, cap, hat.qh, hat.le, fun k hk => ⟨B, 0, rfl, hat.lt.2, ?_⟩⟩
    rw [Nat.zero_add]
    exact hat.cells k hk
set_option maxRecDepth 100000 in
set_option maxHeartbeats 2000000 in
theorem qall_any {w : World} {q : Nat} {s : List Nat} {l : List Du} (h : QAt w q s l) (hl : l.length ≤ 1000) :
    Calls Try.prog 17 #[.pointer (some ⟨q, 0, none⟩)] w fun r w' => ∃ A cap, r = .returned (.slice A l.length cap) ∧ l.length ≤ cap ∧ cap ≤ 9223372036854775807 ∧ (∀ t : List Nat, (∀ x ∈ t, x < w.heap.size) → RowD w' t A l) ∧ Below w.heap.size w w' := by
  obtain ⟨hp, h1, h2, h3⟩ := h.rep
  obtain ⟨A, cap, hq, hcap, hr⟩ := h3.feeds
  have hsl : w.cell? ⟨q, 0, none⟩ = some (.slice A hp.length cap) := hq.cell 0
  have hlen := h1.length_eq
  have hord : Du.ord hp = l := (Du.ord_eq h1.symm h.sorted).symm
  have HV := Lib.hid (valuesD_any A hp.length cap w)
  have hb1 : Below w.heap.size w (w.alloc (.cells #[.slice A hp.length cap] 30)) := (Below.refl _ w).alloc (Nat.le_refl _) _
  have hbx := Has.made w 30 #[.slice A hp.length cap]
  have hfe : Feeds Fence.wide 2 Try.prog 40 #[.pointer (some ⟨w.heap.size, 0, none⟩)] (hp.map Du.val) (w.alloc (.cells #[.slice A hp.length cap] 30)).heap.size (w.alloc (.cells #[.slice A hp.length cap] 30)) :=
    feedsD Fence.wide 2 trivial rfl (by omega) (hbx.cell 0) hbx.lt (fun k hk => by
      obtain ⟨b, off, hA, hb, c1, c2⟩ := hr k hk
      exact ⟨b, off, hA, Nat.lt_of_lt_of_le hb hb1.size, (hb1.cell (p := ⟨b, off + k * 2, none⟩) hb).trans c1, (hb1.cell (p := ⟨b, off + k * 2 + 1, none⟩) hb).trans c2⟩) (by omega) hcap
  have HS := Lib.hid (sortedD_any (L := hp) (by omega) hfe)
  have HB := Lib.hid hb1
  rw [hord, hlen] at HS
  rw [hlen] at HV hsl HB
  clear hfe hb1 hbx hr hq h3 h2
  generalize l.length = n at *
  clear hcap hlen h1 hord
  go_enter Try.func17, Try.ntmps17
  go_wp2_with fail
  refine HV.out.mono ?_
  rintro r w1 ⟨rfl, e1⟩
  rw [e1]
  clear e1 w1 HV
  have HSZ : Hid (∀ x, x < w.heap.size → x < (w.alloc (.cells #[.slice A n cap] 30)).heap.size) := Lib.hid (fun x hx => by rw [asize]; omega)
  generalize w.alloc (.cells #[.slice A n cap] 30) = W1 at HS HB HSZ ⊢
  generalize hb0 : w.heap.size = b0 at HS HSZ ⊢
  clear hsl
  go_wp2_with fail
  refine HS.out.mono ?_
  rintro r w2 ⟨⟨A2, cap2, rfl, g1, g2, g3⟩, hb2⟩
  have HF := Lib.hid (And.intro g1 (And.intro g2 (And.intro g3 (HB.out.trans (hb2.mono HB.out.size)))))
  clear g1 g2 g3 hb2 HS
  go_wp2_with fail
  go_ret
  rw [← hb0] at HSZ ⊢
  exact ⟨A2, cap2, rfl, HF.out.1, HF.out.2.1, fun t ht => HF.out.2.2.1 t (fun x hx => HSZ.out x (ht x hx)), HF.out.2.2.2⟩
end Go.Proofs.Ytjmdpepghnhpkaa
