/-
  No cell of these rows narrows 'for every input' (looked for: loops, veiled, ifaces, maps, wideKeys, modest, calm, conditions, laid).
  DERIVED. THE GIVEN ROWS OF THIS SEAT. 3 by the template 'for every input the law returns true; each argument reads behind the call as it read before'; 0 by the template 'total and deterministic' (their statements: YtfppobnfajkmmaaTotals.lean).
  GIVEN WITH THE SEED: the statements are not yours to turn. If you find one false, say at which input.
  Laid BY PROGRAM, IN A SANDBOX (cutbox-rows.mjs): the forced cells as the released guide's own fill.sh prints them over the translation 5a35e954b8fc330d… (all of the seat's roots in one cut). By AI agents, Wed Nov 11 2026. No macro, syntax, notation, axiom, sorry.
-/
import Derived.Test.YtfppobnfajkmmaaChecked
import GoSem.Claim
import GoSem.ClaimJoined
import GoSem.ClaimMapViews
import Derived.JoinedTies
import Derived.KernelRfl
namespace Go.Proofs.Ytfppobnfajkmmaa
/- THE CELL 'sum', in the pinned program and in every row, IS THE sha256 OF THE DUMP (.gsa) THAT YtfppobnfajkmmaaProg.lean LOADS. Nothing in Lean hashes anything: it is a label: what it is worth is what the hold of that sum in a sandbox is worth. -/
noncomputable def Try.pinned : Pinned := { name := "ytfppobnfajkmmaa", sum := "5a35e954b8fc330d1c9de36cab45f0e16eea7282697ad9ce916eb688fab24cf8", checked := Try.checked }
namespace Rows
def none {H : Type} : Left H := { results := [], args := [] }

/-- 'chartularylaw05.PaperChecks': WHATEVER THE INPUT: true; the input reads as it did. -/
def paperChecksSpec : ChangeSpec := { name := "paperChecks", fn := fun _ => fun
  | [d] => { results := [.lit (.bool true)], args := [d] }
  | _ => none }
def paperChecksRow : OpenClaim := { program := "ytfppobnfajkmmaa", sum := "5a35e954b8fc330d1c9de36cab45f0e16eea7282697ad9ce916eb688fab24cf8", func := "chartulary/chartularylaw05.PaperChecks", spec := "paperChecks", inPlace := ["internal/bytealg.abigen_runtime_cmpstring"], unfollowed := true, recurses := true, apart := false }
def PaperChecksSaid : Prop := paperChecksRow.holds Try.pinned (OpenSpec.ofChange paperChecksSpec)

/-- ITS FALSE NEIGHBOUR: 'it returns false'. Refute it at one input. -/
def paperChecksWrong : ChangeSpec := { name := "paperChecks", fn := fun _ => fun
  | [d] => { results := [.lit (.bool false)], args := [d] }
  | _ => none }
def PaperChecksWrongFalsely : Prop := paperChecksRow.holds Try.pinned (OpenSpec.ofChange paperChecksWrong)

/-- 'chartularylaw05.PaperBytes': WHATEVER THE INPUT: true; the input reads as it did. -/
def paperBytesSpec : ChangeSpec := { name := "paperBytes", fn := fun _ => fun
  | [d] => { results := [.lit (.bool true)], args := [d] }
  | _ => none }
def paperBytesRow : OpenClaim := { program := "ytfppobnfajkmmaa", sum := "5a35e954b8fc330d1c9de36cab45f0e16eea7282697ad9ce916eb688fab24cf8", func := "chartulary/chartularylaw05.PaperBytes", spec := "paperBytes", inPlace := ["internal/bytealg.abigen_runtime_cmpstring"], unfollowed := true, recurses := true, apart := false }
def PaperBytesSaid : Prop := paperBytesRow.holds Try.pinned (OpenSpec.ofChange paperBytesSpec)

/-- ITS FALSE NEIGHBOUR: 'it returns false'. Refute it at one input. -/
def paperBytesWrong : ChangeSpec := { name := "paperBytes", fn := fun _ => fun
  | [d] => { results := [.lit (.bool false)], args := [d] }
  | _ => none }
def PaperBytesWrongFalsely : Prop := paperBytesRow.holds Try.pinned (OpenSpec.ofChange paperBytesWrong)

/-- 'chartularylaw05.PaperSames': WHATEVER THE INPUT: true; the input reads as it did. -/
def paperSamesSpec : ChangeSpec := { name := "paperSames", fn := fun _ => fun
  | [d1, d2, d3] => { results := [.lit (.bool true)], args := [d1, d2, d3] }
  | _ => none }
def paperSamesRow : OpenClaim := { program := "ytfppobnfajkmmaa", sum := "5a35e954b8fc330d1c9de36cab45f0e16eea7282697ad9ce916eb688fab24cf8", func := "chartulary/chartularylaw05.PaperSames", spec := "paperSames", inPlace := ["internal/bytealg.abigen_runtime_cmpstring"], unfollowed := true, recurses := true, apart := false }
def PaperSamesSaid : Prop := paperSamesRow.holds Try.pinned (OpenSpec.ofChange paperSamesSpec)

/-- ITS FALSE NEIGHBOUR: 'it returns false'. Refute it at one input. -/
def paperSamesWrong : ChangeSpec := { name := "paperSames", fn := fun _ => fun
  | [d1, d2, d3] => { results := [.lit (.bool false)], args := [d1, d2, d3] }
  | _ => none }
def PaperSamesWrongFalsely : Prop := paperSamesRow.holds Try.pinned (OpenSpec.ofChange paperSamesWrong)

/- THE SECOND FORM. 'bulk': how many values and letters a reading holds, each counted each time it is reached (what is shared counts as often as it is met; a slice's spare places count too). A statement '..UptoSaid' is the law's where the arguments, and the package variables that the reading takes, are together of bulk at most 1048576: NARROWER than '..Said'. Prove '..Said' where nothing that the law and all that it calls make is longer than what came in: it says more and counts as full. Else prove '..UptoSaid'. A law counts once. -/
mutual
def uptoBulk {H : Type} : DataW H → Nat
  | .lit (.string bytes) => bytes.length + 1
  | .lit _ => 1
  | .nil => 1
  | .ptr d => uptoBulk d + 1
  | .slice elems spare => uptoBulkAll elems + uptoBulkAll spare + 1
  | .agg parts => uptoBulkAll parts + 1
  | .iface _ d => uptoBulk d + 1
  | .map entries => uptoBulkEntries entries + 1
  | .held _ => 1
def uptoBulkAll {H : Type} : List (DataW H) → Nat
  | [] => 0
  | d :: r => uptoBulk d + uptoBulkAll r
def uptoBulkEntries {H : Type} : List (Lit × DataW H) → Nat
  | [] => 0
  | x :: r => uptoBulkEntry x + uptoBulkEntries r
def uptoBulkEntry {H : Type} : Lit × DataW H → Nat
  | (.string bytes, d) => bytes.length + uptoBulk d + 1
  | (_, d) => uptoBulk d + 1
 end
def uptoSmall : (H : Type) → List (DataW H) → Bool := fun _ ds => decide (uptoBulkAll ds ≤ 1048576)
def OpenSpec.upto (s : _root_.Go.ChangeSpec) : _root_.Go.OpenSpec := { _root_.Go.OpenSpec.ofChange s with cond := some uptoSmall }

/-- 'chartularylaw05.PaperChecks', WHERE WHAT IT READS IS OF BULK AT MOST 1048576: true; the input reads as it did. -/
def paperChecksUptoRow : OpenClaim := { program := "ytfppobnfajkmmaa", sum := "5a35e954b8fc330d1c9de36cab45f0e16eea7282697ad9ce916eb688fab24cf8", func := "chartulary/chartularylaw05.PaperChecks", spec := "paperChecks", inPlace := ["internal/bytealg.abigen_runtime_cmpstring"], unfollowed := true, recurses := true, apart := false, narrowed := true }
def PaperChecksUptoSaid : Prop := paperChecksUptoRow.holds Try.pinned (OpenSpec.upto paperChecksSpec)

/-- 'chartularylaw05.PaperBytes', WHERE WHAT IT READS IS OF BULK AT MOST 1048576: true; the input reads as it did. -/
def paperBytesUptoRow : OpenClaim := { program := "ytfppobnfajkmmaa", sum := "5a35e954b8fc330d1c9de36cab45f0e16eea7282697ad9ce916eb688fab24cf8", func := "chartulary/chartularylaw05.PaperBytes", spec := "paperBytes", inPlace := ["internal/bytealg.abigen_runtime_cmpstring"], unfollowed := true, recurses := true, apart := false, narrowed := true }
def PaperBytesUptoSaid : Prop := paperBytesUptoRow.holds Try.pinned (OpenSpec.upto paperBytesSpec)

/-- 'chartularylaw05.PaperSames', WHERE WHAT IT READS IS OF BULK AT MOST 1048576: true; the input reads as it did. -/
def paperSamesUptoRow : OpenClaim := { program := "ytfppobnfajkmmaa", sum := "5a35e954b8fc330d1c9de36cab45f0e16eea7282697ad9ce916eb688fab24cf8", func := "chartulary/chartularylaw05.PaperSames", spec := "paperSames", inPlace := ["internal/bytealg.abigen_runtime_cmpstring"], unfollowed := true, recurses := true, apart := false, narrowed := true }
def PaperSamesUptoSaid : Prop := paperSamesUptoRow.holds Try.pinned (OpenSpec.upto paperSamesSpec)

end Rows
end Go.Proofs.Ytfppobnfajkmmaa
