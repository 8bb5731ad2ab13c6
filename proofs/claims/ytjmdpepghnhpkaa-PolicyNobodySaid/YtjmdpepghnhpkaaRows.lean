/-
  No cell of these rows narrows 'for every input' (looked for: loops, veiled, ifaces, maps, wideKeys, modest, calm, conditions, laid).
  DERIVED. THE GIVEN ROWS OF THIS SEAT. 4 by the template 'for every input the law returns true; each argument reads behind the call as it read before'; 0 by the template 'total and deterministic' (their statements: YtjmdpepghnhpkaaTotals.lean).
  GIVEN WITH THE SEED: the statements are not yours to turn. If you find one false, say at which input.
  Laid BY PROGRAM, IN A SANDBOX (cutbox-rows.mjs): the forced cells as the released guide's own fill.sh prints them over the translation fc40d92fceb59471… (all of the seat's roots in one cut). By AI agents, Wed Nov 11 2026. No macro, syntax, notation, axiom, sorry.
-/
import Derived.Test.YtjmdpepghnhpkaaChecked
import GoSem.Claim
import GoSem.ClaimJoined
import GoSem.ClaimMapViews
import Derived.JoinedTies
import Derived.KernelRfl
namespace Go.Proofs.Ytjmdpepghnhpkaa
/- THE CELL 'sum', in the pinned program and in every row, IS THE sha256 OF THE DUMP (.gsa) THAT YtjmdpepghnhpkaaProg.lean LOADS. Nothing in Lean hashes anything: it is a label: what it is worth is what the hold of that sum in a sandbox is worth. -/
noncomputable def Try.pinned : Pinned := { name := "ytjmdpepghnhpkaa", sum := "fc40d92fceb59471e9ef6d08e7a2a9e7ee17b63923c161adbbab339ad7db073c", checked := Try.checked }
namespace Rows
def none {H : Type} : Left H := { results := [], args := [] }

/-- 'chartularylaw15.PolicyDeadlines': WHATEVER THE INPUT: true; the input reads as it did. -/
def policyDeadlinesSpec : ChangeSpec := { name := "policyDeadlines", fn := fun _ => fun
  | [d1, d2, d3] => { results := [.lit (.bool true)], args := [d1, d2, d3] }
  | _ => none }
def policyDeadlinesRow : OpenClaim := { program := "ytjmdpepghnhpkaa", sum := "fc40d92fceb59471e9ef6d08e7a2a9e7ee17b63923c161adbbab339ad7db073c", func := "chartulary/chartularylaw15.PolicyDeadlines", spec := "policyDeadlines", apart := false }
def PolicyDeadlinesSaid : Prop := policyDeadlinesRow.holds Try.pinned (OpenSpec.ofChange policyDeadlinesSpec)

/-- ITS FALSE NEIGHBOUR: 'it returns false'. Refute it at one input. -/
def policyDeadlinesWrong : ChangeSpec := { name := "policyDeadlines", fn := fun _ => fun
  | [d1, d2, d3] => { results := [.lit (.bool false)], args := [d1, d2, d3] }
  | _ => none }
def PolicyDeadlinesWrongFalsely : Prop := policyDeadlinesRow.holds Try.pinned (OpenSpec.ofChange policyDeadlinesWrong)

/-- 'chartularylaw15.PolicyPlays': WHATEVER THE INPUT: true; the input reads as it did. -/
def policyPlaysSpec : ChangeSpec := { name := "policyPlays", fn := fun _ => fun
  | [d] => { results := [.lit (.bool true)], args := [d] }
  | _ => none }
def policyPlaysRow : OpenClaim := { program := "ytjmdpepghnhpkaa", sum := "fc40d92fceb59471e9ef6d08e7a2a9e7ee17b63923c161adbbab339ad7db073c", func := "chartulary/chartularylaw15.PolicyPlays", spec := "policyPlays", unfollowed := true, recurses := true, apart := false }
def PolicyPlaysSaid : Prop := policyPlaysRow.holds Try.pinned (OpenSpec.ofChange policyPlaysSpec)

/-- ITS FALSE NEIGHBOUR: 'it returns false'. Refute it at one input. -/
def policyPlaysWrong : ChangeSpec := { name := "policyPlays", fn := fun _ => fun
  | [d] => { results := [.lit (.bool false)], args := [d] }
  | _ => none }
def PolicyPlaysWrongFalsely : Prop := policyPlaysRow.holds Try.pinned (OpenSpec.ofChange policyPlaysWrong)

/-- 'chartularylaw15.PolicyReady': WHATEVER THE INPUT: true; the input reads as it did. -/
def policyReadySpec : ChangeSpec := { name := "policyReady", fn := fun _ => fun
  | [d1, d2, d3] => { results := [.lit (.bool true)], args := [d1, d2, d3] }
  | _ => none }
def policyReadyRow : OpenClaim := { program := "ytjmdpepghnhpkaa", sum := "fc40d92fceb59471e9ef6d08e7a2a9e7ee17b63923c161adbbab339ad7db073c", func := "chartulary/chartularylaw15.PolicyReady", spec := "policyReady", unfollowed := true, recurses := true, apart := false }
def PolicyReadySaid : Prop := policyReadyRow.holds Try.pinned (OpenSpec.ofChange policyReadySpec)

/-- ITS FALSE NEIGHBOUR: 'it returns false'. Refute it at one input. -/
def policyReadyWrong : ChangeSpec := { name := "policyReady", fn := fun _ => fun
  | [d1, d2, d3] => { results := [.lit (.bool false)], args := [d1, d2, d3] }
  | _ => none }
def PolicyReadyWrongFalsely : Prop := policyReadyRow.holds Try.pinned (OpenSpec.ofChange policyReadyWrong)

/-- 'chartularylaw15.PolicyNobody': WHATEVER THE INPUT: true; the input reads as it did. -/
def policyNobodySpec : ChangeSpec := { name := "policyNobody", fn := fun _ => fun
  | [d] => { results := [.lit (.bool true)], args := [d] }
  | _ => none }
def policyNobodyRow : OpenClaim := { program := "ytjmdpepghnhpkaa", sum := "fc40d92fceb59471e9ef6d08e7a2a9e7ee17b63923c161adbbab339ad7db073c", func := "chartulary/chartularylaw15.PolicyNobody", spec := "policyNobody", unfollowed := true, recurses := true, apart := false }
def PolicyNobodySaid : Prop := policyNobodyRow.holds Try.pinned (OpenSpec.ofChange policyNobodySpec)

/-- ITS FALSE NEIGHBOUR: 'it returns false'. Refute it at one input. -/
def policyNobodyWrong : ChangeSpec := { name := "policyNobody", fn := fun _ => fun
  | [d] => { results := [.lit (.bool false)], args := [d] }
  | _ => none }
def PolicyNobodyWrongFalsely : Prop := policyNobodyRow.holds Try.pinned (OpenSpec.ofChange policyNobodyWrong)

/- THE SECOND FORM. 'bulk': how many values and letters a reading holds, each counted each time it is reached (what is shared counts as often as it is met; a slice's spare places count too). A statement '..UptoSaid' is the law's where the arguments, and the package variables that the reading takes, are together of bulk at most 1048576: NARROWER than '..Said'. Prove '..Said' where nothing that the law and all that it calls make is longer than what came in: it says more and counts as full. Else prove '..UptoSaid'. A law counts once. -/
mutual
def uptoBulk {H : Type} : DataW H → Nat
  | .lit (.string bytes) => bytes.length + 1
  | .lit _ => 1
  | .nil => 1
  | .ptr d => uptoBulk d + 1
  | .slice elems spare => uptoBulkAll elems + uptoBulkAll spare + 1
  | .agg parts => uptoBulkAll parts + 1
  | .iface _ d => uptoBulk d + 1
  | .map entries => uptoBulkEntries entries + 1
  | .held _ => 1
def uptoBulkAll {H : Type} : List (DataW H) → Nat
  | [] => 0
  | d :: r => uptoBulk d + uptoBulkAll r
def uptoBulkEntries {H : Type} : List (Lit × DataW H) → Nat
  | [] => 0
  | x :: r => uptoBulkEntry x + uptoBulkEntries r
def uptoBulkEntry {H : Type} : Lit × DataW H → Nat
  | (.string bytes, d) => bytes.length + uptoBulk d + 1
  | (_, d) => uptoBulk d + 1
 end
def uptoSmall : (H : Type) → List (DataW H) → Bool := fun _ ds => decide (uptoBulkAll ds ≤ 1048576)
def OpenSpec.upto (s : _root_.Go.ChangeSpec) : _root_.Go.OpenSpec := { _root_.Go.OpenSpec.ofChange s with cond := some uptoSmall }

/-- 'chartularylaw15.PolicyDeadlines', WHERE WHAT IT READS IS OF BULK AT MOST 1048576: true; the input reads as it did. -/
def policyDeadlinesUptoRow : OpenClaim := { program := "ytjmdpepghnhpkaa", sum := "fc40d92fceb59471e9ef6d08e7a2a9e7ee17b63923c161adbbab339ad7db073c", func := "chartulary/chartularylaw15.PolicyDeadlines", spec := "policyDeadlines", apart := false, narrowed := true }
def PolicyDeadlinesUptoSaid : Prop := policyDeadlinesUptoRow.holds Try.pinned (OpenSpec.upto policyDeadlinesSpec)

/-- 'chartularylaw15.PolicyPlays', WHERE WHAT IT READS IS OF BULK AT MOST 1048576: true; the input reads as it did. -/
def policyPlaysUptoRow : OpenClaim := { program := "ytjmdpepghnhpkaa", sum := "fc40d92fceb59471e9ef6d08e7a2a9e7ee17b63923c161adbbab339ad7db073c", func := "chartulary/chartularylaw15.PolicyPlays", spec := "policyPlays", unfollowed := true, recurses := true, apart := false, narrowed := true }
def PolicyPlaysUptoSaid : Prop := policyPlaysUptoRow.holds Try.pinned (OpenSpec.upto policyPlaysSpec)

/-- 'chartularylaw15.PolicyReady', WHERE WHAT IT READS IS OF BULK AT MOST 1048576: true; the input reads as it did. -/
def policyReadyUptoRow : OpenClaim := { program := "ytjmdpepghnhpkaa", sum := "fc40d92fceb59471e9ef6d08e7a2a9e7ee17b63923c161adbbab339ad7db073c", func := "chartulary/chartularylaw15.PolicyReady", spec := "policyReady", unfollowed := true, recurses := true, apart := false, narrowed := true }
def PolicyReadyUptoSaid : Prop := policyReadyUptoRow.holds Try.pinned (OpenSpec.upto policyReadySpec)

/-- 'chartularylaw15.PolicyNobody', WHERE WHAT IT READS IS OF BULK AT MOST 1048576: true; the input reads as it did. -/
def policyNobodyUptoRow : OpenClaim := { program := "ytjmdpepghnhpkaa", sum := "fc40d92fceb59471e9ef6d08e7a2a9e7ee17b63923c161adbbab339ad7db073c", func := "chartulary/chartularylaw15.PolicyNobody", spec := "policyNobody", unfollowed := true, recurses := true, apart := false, narrowed := true }
def PolicyNobodyUptoSaid : Prop := policyNobodyUptoRow.holds Try.pinned (OpenSpec.upto policyNobodySpec)

end Rows
end Go.Proofs.Ytjmdpepghnhpkaa
