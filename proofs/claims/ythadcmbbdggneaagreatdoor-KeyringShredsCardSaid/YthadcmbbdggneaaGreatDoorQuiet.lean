/-
  A region that draws its order, whose operations only read, and whose calls make new blocks alone: walked once.
-/
import Derived.Test.YthadcmbbdggneaaGreatDoorMv
import Derived.Deep.QuietTactic
namespace Go.Proofs.YthadcmbbdggneaaGreatDoor
open Go.RowKit
set_option linter.unusedVariables false

/-- Worlds that have grown out of one. -/
structure Grew (w W : World) : Prop where
  bel : Below w.heap.size w W
theorem wp_region_grew {P : Program} {id : Nat} {Q : Exit → Act → World → Prop} {a : Act} {w w0 : World} {l : List Oper} (hm : P.follows .mixedOrders = true) (hB : Region.lexB .any l.toArray = true) (h0 : Below w0.heap.size w0 w)
    (h : wpQuiet P l.toArray (Grew w0) (fun a' => ∀ w', Grew w0 w' → Q .normal a' w') l a) : (Code.region id l.toArray true).wp P Q a w :=
  wp_region_quiet (C := Grew w0) hm hB ⟨h0.trans (Below.refl _ w).drew |> fun x => x⟩ (by simpa using h)
theorem Calls.grew_of {P : Program} {f : FuncId} {args : Array Value} {w W : World} {v : Value} (hg : Grew w W) (h : Calls P f args W fun e w' => e = .returned v ∧ Below W.heap.size W w') :
    Calls P f args W fun e w'' => e = .returned v ∧ Grew w w'' :=
  h.mono fun _ _ ⟨he, hb⟩ => ⟨he, ⟨hg.bel.trans (hb.mono hg.bel.size)⟩⟩
end Go.Proofs.YthadcmbbdggneaaGreatDoor
