/-
  Two new mills, side by side.
-/
import Derived.Test.YtlbdpadifhgloaaDoorPlgLaw
import Derived.Test.YtlbdpadifhgloaaDoorTake
namespace Go.Proofs.YtlbdpadifhgloaaDoor
open Go.RowKit
set_option linter.unusedVariables false

theorem take300 (s : List UInt8) : (s.take 300).length ≤ 300 := by rw [List.length_take]; omega

/-- Two mills that were made one behind the other behind w0. -/
structure TwoM (w0 W : World) (stm stn : Mill.St) : Prop where
  m : MillTv W (w0.heap.size + 1) w0.heap.size none [] stm
  n : MillTv W (w0.heap.size + 2 + 1) (w0.heap.size + 2) none [] stn
  t : Tabs W
  b : Below w0.heap.size w0 W
  two : 2 ≤ w0.heap.size
theorem TwoM.made {w w1 w2 : World} (hT : Tabs w) (h1 : MillTv w1 (w.heap.size + 1) w.heap.size none [] Mill.fresh) (hb1 : Below w.heap.size w w1) (hs1 : w1.heap.size = w.heap.size + 2)
    (h2 : MillTv w2 (w1.heap.size + 1) w1.heap.size none [] Mill.fresh) (hb2 : Below w1.heap.size w1 w2) : TwoM w w2 Mill.fresh Mill.fresh := by
  rw [hs1] at h2
  exact ⟨h1.below hb2, h2, (hT.below hb1 hT.2.2).below hb2 (by have := hT.2.2; omega), hb1.trans (hb2.mono (by omega)), hT.2.2⟩
theorem TwoM.below {w0 W W' : World} {stm stn : Mill.St} (h : TwoM w0 W stm stn) (hb : Below W.heap.size W W') : TwoM w0 W' stm stn :=
  ⟨h.m.below hb, h.n.below hb, h.t.below hb h.t.2.2, h.b.trans (hb.mono h.b.size), h.two⟩
theorem TwoM.stepM {w0 W W' : World} {stm stn stm' : Mill.St} (h : TwoM w0 W stm stn) (hm : MillTv W' (w0.heap.size + 1) w0.heap.size none [] stm') (hv : Mv W W' [w0.heap.size + 1, w0.heap.size]) : TwoM w0 W' stm' stn := by
  have h2 := h.two
  refine ⟨hm, h.n.mv hv ?_ ?_ (fun b hb => by cases hb), hv.tabs2 h.t (by omega) (by omega), slip_tied hv (by omega) (by omega) h.b.size h.b, h2⟩
  · simp only [List.mem_cons, List.not_mem_nil, or_false]; omega
  · simp only [List.mem_cons, List.not_mem_nil, or_false]; omega
theorem TwoM.stepN {w0 W W' : World} {stm stn stn' : Mill.St} (h : TwoM w0 W stm stn) (hm : MillTv W' (w0.heap.size + 2 + 1) (w0.heap.size + 2) none [] stn') (hv : Mv W W' [w0.heap.size + 2 + 1, w0.heap.size + 2]) : TwoM w0 W' stm stn' := by
  have h2 := h.two
  refine ⟨h.m.mv hv ?_ ?_ (fun b hb => by cases hb), hm, hv.tabs2 h.t (by omega) (by omega), slip_tied hv (by omega) (by omega) h.b.size h.b, h2⟩
  · simp only [List.mem_cons, List.not_mem_nil, or_false]; omega
  · simp only [List.mem_cons, List.not_mem_nil, or_false]; omega
theorem TwoM.drew {w0 W : World} {stm stn : Mill.St} (h : TwoM w0 W stm stn) : TwoM w0 W.drew stm stn := ⟨h.m, h.n, h.t, h.b.drew, h.two⟩
/-- Nothing that is held. -/
abbrev STrue (W : World) : Prop := True
theorem TwoM.awake {w0 W : World} {stm stn : Mill.St} (h : TwoM w0 W stm stn) : Calls Tryd.prog 18 #[] W fun e w' => e = .returned (.bool true) ∧ Below w0.heap.size w0 w' :=
  (awakePlg_any W h.t).mono fun e w' ⟨he, hb⟩ => ⟨he, h.b.trans (hb.mono h.b.size)⟩
end Go.Proofs.YtlbdpadifhgloaaDoor
