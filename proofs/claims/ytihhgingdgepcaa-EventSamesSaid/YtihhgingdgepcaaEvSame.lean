/-
  Event's Same.
-/
import Derived.Test.YtihhgingdgepcaaEvX
import Derived.Test.YtihhgingdgepcaaEvRead
import Derived.Test.YtihhgingdgepcaaEvLd
import Derived.Test.YtihhgingdgepcaaEvRefG
namespace Go.Proofs.Ytihhgingdgepcaa
open Go.RowKit
set_option linter.unusedVariables false

set_option maxRecDepth 100000 in
set_option maxHeartbeats 4000000 in
theorem sameV_any {w : World} {u v : Evt} {A B C D : Option Addr} {ca cb cc cd : Nat} (h1 : EntIn w [] u.ent A ca B cb) (h2 : EntIn w [] v.ent C cc D cd) (f1 : EvtFew u) (f2 : EvtFew v) :
    Calls Try.prog 15 #[u.val A ca B cb, v.val C cc D cd] w fun r w' => r = .returned (.bool (decide (Ev.bytes u ≠ []) && decide (Ev.bytes u = Ev.bytes v))) ∧ Below w.heap.size w w' := by
  have hB1 := fun (W : World) (hb : Below w.heap.size w W) => bytesV_any (v := u) (EntIn.at h1 hb (s := []) (fun x hx => by cases hx)) f1
  have hB2 := fun (W : World) (hb : Below w.heap.size w W) => bytesV_any (v := v) (EntIn.at h2 hb (s := []) (fun x hx => by cases hx)) f2
  obtain ⟨C1, e1, s1, -⟩ := evtOpen u A ca B cb
  obtain ⟨C2, e2, s2, -⟩ := evtOpen v C cc D cd
  rw [e1] at hB1 ⊢
  rw [e2] at hB2 ⊢
  have HB1 := Lib.hid hB1
  have HB2 := Lib.hid hB2
  have HS := Lib.hid (And.intro s1 s2)
  clear hB1 hB2 h1 h2 f1 f2 e1 e2 s1 s2
  generalize Ev.bytes u = l at *
  generalize Ev.bytes v = m at *
  have hp := entTwo w 29 C1 C2
  have hup : Below w.heap.size w ((w.alloc (.cells C1 29)).alloc (.cells C2 29)) := entPair
  have hsz : ((w.alloc (.cells C1 29)).alloc (.cells C2 29)).heap.size = w.heap.size + 1 + 1 := by rw [asize, asize]
  go_enter Try.func15, Try.ntmps15
  go_upto_region 1 with fail
  generalize (w.alloc (.cells C1 29)).alloc (.cells C2 29) = W0 at hp hup hsz ⊢
  obtain ⟨b0, hq0⟩ : ∃ b0, w.heap.size = b0 := ⟨_, rfl⟩
  rw [hq0] at hp hsz ⊢
  have HP := Lib.hid hp
  have HU := Lib.hid hup
  clear hp hup hq0
  refine wp_region_lit ?_
  refine wpList_evLoad (by rfl) (.tmp 2) rfl b0 C1 ?e1 HP.out.1 HS.out.1 ?_
  case e1 => rfl
  go_wp2_with fail
  refine (HB1.out _ HU.out).mono ?_
  rintro r w1 ⟨rfl, hb1⟩
  have HP1 := Lib.hid (HP.out.2.below hb1 (by omega))
  have HU1 := Lib.hid (HU.out.trans (hb1.mono HU.out.size))
  clear hb1 HP HU HB1 hsz
  by_cases hl : l = []
  · subst hl
    go_wp2_with fail
    go_ret
    exact ⟨rfl, HU1.out⟩
  · have hlb : (l == []) = false := by rw [beq_eq_false_iff_ne]; exact hl
    have HD := Lib.hid (decide_eq_true hl)
    have HQ : Hid (decide (l = m) = (l == m)) := Lib.hid (by rw [Bool.eq_iff_iff, beq_iff_eq, decide_eq_true_iff])
    clear hl
    go_wp2_with (refine wpList_evLoad (by rfl) (.tmp 3) rfl (b0 + 1) C2 ?e1 HP1.out HS.out.2 ?_; (case e1 => rfl))
    refine (HB2.out _ HU1.out).mono ?_
    rintro r w2 ⟨rfl, hb2⟩
    go_wp2_with fail
    go_ret
    exact ⟨by rw [HD.out, Bool.true_and, HQ.out]; rfl, HU1.out.trans (hb2.mono HU1.out.size)⟩
end Go.Proofs.Ytihhgingdgepcaa
