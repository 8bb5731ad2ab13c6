/-
  An iterator's value that feeds a list of values to a round. No program stands here.
-/
import Derived.Shelf.SlIter.Collect
import Derived.RangeFuncLeaves
import Derived.Shelf.Abstract
import Derived.WalkKit
import Derived.OwnWalkIn
import Derived.TacticsInMore
import Derived.LoopNIn
import Derived.LoopIn
import Derived.Test.YtjmdpepghnhpkaaDueMem
namespace Go.Proofs.Ytjmdpepghnhpkaa
open Go.RowKit Go.Shelf
set_option linter.unusedVariables false

/-- The iterator's value hands xs to the rounds, one by one; the rounds keep what lies below N0. -/
def Feeds (F : Fence) (n : Nat) (P : Program) (g : Nat) (lb : Array Value) (xs : List Value) (N0 : Nat) (w : World) : Prop :=
  ∀ (l : Nat) (J : Nat → World → Prop) (W : World), Below N0 w W → (∀ k W1, J k W1 → Below N0 w W1) → (∀ k W1 o, J k W1 → J k (W1.alloc o)) →
    (∀ k x W1, xs[k]? = some x → J k W1 → YieldAt F (n - 1) P l #[x] W1 fun e W' => e = .returned (.bool true) ∧ J (k + 1) W') →
    J 0 W → CallsIn F n P g (#[.func (.yield l) #[] #[]] ++ lb) W fun e W' => (∃ v, e = .returned v) ∧ J xs.length W'
theorem Feeds.later {F : Fence} {n : Nat} {P : Program} {g : Nat} {lb : Array Value} {xs : List Value} {N0 : Nat} {w w' : World} (h : Feeds F n P g lb xs N0 w) (hb : Below N0 w w') : Feeds F n P g lb xs N0 w' :=
  fun l J W hW hJ hA hY h0 => h l J W (hb.trans hW) (fun k W1 hk => hb.trans (hJ k W1 hk)) hA hY h0
/-- A due as a value. -/
def Du.val (d : Du) : Value := .agg #[.int .i64 d.seq, .int .i64 d.due]
end Go.Proofs.Ytjmdpepghnhpkaa
