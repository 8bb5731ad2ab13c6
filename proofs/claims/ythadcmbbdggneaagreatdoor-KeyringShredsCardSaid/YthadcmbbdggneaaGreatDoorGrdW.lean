/-
  A guard that a call has made itself, with its disk.
-/
import Derived.Test.YthadcmbbdggneaaGreatDoorGrdN
namespace Go.Proofs.YthadcmbbdggneaaGreatDoor
open Go.RowKit
set_option linter.unusedVariables false

/-- Behind w0 a guard was made, with its disk: nothing that was there has turned. -/
structure GW (w0 W : World) (gg g bd mb boot wr : Nat) (d : Dsk.St) : Prop where
  at_ : GuardAt W gg g bd mb boot wr d
  bel : Below w0.heap.size w0 W
  lo : ∀ k ∈ [gg, g, bd, mb], w0.heap.size ≤ k
theorem GW.below {w0 W W' : World} {gg g bd mb boot wr : Nat} {d : Dsk.St} (h : GW w0 W gg g bd mb boot wr d) (hb : Below W.heap.size W W') : GW w0 W' gg g bd mb boot wr d :=
  ⟨h.at_.below hb, h.bel.trans (hb.mono h.bel.size), h.lo⟩
theorem GW.mv {w0 W W' : World} {gg g bd mb boot wr wr' : Nat} {d d' : Dsk.St} (h : GW w0 W gg g bd mb boot wr d) (hg : GuardAt W' gg g bd mb boot wr' d') (hm : Mv W W' [gg, g, bd, mb]) : GW w0 W' gg g bd mb boot wr' d' :=
  ⟨hg, hm.below h.bel h.bel.size h.lo, h.lo⟩
theorem GW.mvd {w0 W W' : World} {gg g bd mb boot wr : Nat} {d d' : Dsk.St} (h : GW w0 W gg g bd mb boot wr d) (hg : GuardAt W' gg g bd mb boot wr d') (hm : Mv W W' [g, bd, mb]) : GW w0 W' gg g bd mb boot wr d' :=
  h.mv hg (hm.wide (by simp))
theorem GW.dsk {w0 W W' : World} {gg g bd mb boot wr : Nat} {d d' : Dsk.St} (h : GW w0 W gg g bd mb boot wr d) (hd : DiskAt W' g bd mb d') (hm : Mv W W' [g, bd, mb]) : GW w0 W' gg g bd mb boot wr d' :=
  h.mvd (h.at_.turn hd hm) hm
theorem GW.drew {w0 W : World} {gg g bd mb boot wr : Nat} {d : Dsk.St} (h : GW w0 W gg g bd mb boot wr d) : GW w0 W.drew gg g bd mb boot wr d := h.below (Below.refl _ W).drew
end Go.Proofs.YthadcmbbdggneaaGreatDoor
