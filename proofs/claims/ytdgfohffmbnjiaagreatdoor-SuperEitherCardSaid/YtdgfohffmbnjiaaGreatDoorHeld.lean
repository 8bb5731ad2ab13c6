/-
  Two may come up, in a held region.
-/
import Derived.Test.YtdgfohffmbnjiaaGreatDoorCopy
namespace Go.Proofs.YtdgfohffmbnjiaaGreatDoor
open Go.RowKit
section
variable {P : Program} {ops : Array Oper} {Q : Exit → Act → World → Prop} {md : Region.Mode} {S : World → Prop}
theorem heldTwo {i j : Nat} {oi oj : Oper} {fuel : Nat} {listed : Array Bool} {a : Act} {w : World} (hr : Region.ready md ops listed = [i, j]) (hi : ops[i]? = some oi) (hj : ops[j]? = some oj)
    (hwi : Region.wanted oi (yielded ops a.tmps) = true) (hwj : Region.wanted oj (yielded ops a.tmps) = true)
    (h1 : ∀ K : Act → World → Prop, Shut (∀ a w, S w → (S w → wpAnyH P md ops Q S fuel (listed.setIfInBounds i true) a w) → K a w) → Oper.wp P oi a w K Q)
    (h2 : ∀ K : Act → World → Prop, Shut (∀ a w, S w → (S w → wpAnyH P md ops Q S fuel (listed.setIfInBounds j true) a w) → K a w) → Oper.wp P oj a w K Q) : wpAnyH P md ops Q S (fuel + 1) listed a w :=
  wpAnyH_ready hr (by simp) (AllReadyH.cons hi (fun K hK => by rw [if_pos hwi]; exact h1 K hK) (AllReadyH.cons hj (fun K hK => by rw [if_pos hwj]; exact h2 K hK) AllReadyH.nil))
/-- What is listed, as a letter. -/
theorem listedAs {fuel : Nat} {listed : Array Bool} {a : Act} {w : World} (h : ∀ L, L = listed → wpAnyH P md ops Q S fuel L a w) : wpAnyH P md ops Q S fuel listed a w := h listed rfl
end
/-- Ways that differ in a block, a world and the order of what is listed meet. -/
theorem merge3 {G : Prop} {T : Nat → World → Array Bool → Prop} {H : World → Prop} {L0 : Array Bool} (h1 : (∀ k W L, H W → L = L0 → T k W L) → G) (h2 : ∀ k W, H W → T k W L0) : G :=
  h1 (fun k W L hW e => by subst e; exact h2 k W hW)
end Go.Proofs.YtdgfohffmbnjiaaGreatDoor
