/-
  No cell of these rows narrows 'for every input' (looked for: loops, veiled, ifaces, maps, wideKeys, modest, calm, conditions, laid).
  DERIVED. THE GIVEN ROWS OF THIS SEAT. 6 by the template 'for every input the law returns true; each argument reads behind the call as it read before'; 0 by the template 'total and deterministic' (their statements: YtojemaaljjibiaaTotals.lean).
  GIVEN WITH THE SEED: the statements are not yours to turn. If you find one false, say at which input.
  Laid BY PROGRAM, IN A SANDBOX (cutbox-rows.mjs): the forced cells as the released guide's own fill.sh prints them over the translation 3bb85ca5ea5a129b… (all of the seat's roots in one cut). By AI agents, Wed Nov 11 2026. No macro, syntax, notation, axiom, sorry.
-/
import Derived.Test.YtojemaaljjibiaaChecked
import GoSem.Claim
import GoSem.ClaimJoined
import GoSem.ClaimMapViews
import Derived.JoinedTies
import Derived.KernelRfl
namespace Go.Proofs.Ytojemaaljjibiaa
/- THE CELL 'sum', in the pinned program and in every row, IS THE sha256 OF THE DUMP (.gsa) THAT YtojemaaljjibiaaProg.lean LOADS. Nothing in Lean hashes anything: it is a label: what it is worth is what the hold of that sum in a sandbox is worth. -/
noncomputable def Try.pinned : Pinned := { name := "ytojemaaljjibiaa", sum := "3bb85ca5ea5a129b9965ab190dc681a5f7bcfaf78350aa43261a04aaafea9e77", checked := Try.checked }
namespace Rows
def none {H : Type} : Left H := { results := [], args := [] }

/-- 'chartularylaw16.StatePlays': WHATEVER THE INPUT: true; the input reads as it did. -/
def statePlaysSpec : ChangeSpec := { name := "statePlays", fn := fun _ => fun
  | [d] => { results := [.lit (.bool true)], args := [d] }
  | _ => none }
def statePlaysRow : OpenClaim := { program := "ytojemaaljjibiaa", sum := "3bb85ca5ea5a129b9965ab190dc681a5f7bcfaf78350aa43261a04aaafea9e77", func := "chartulary/chartularylaw16.StatePlays", spec := "statePlays", unfollowed := true, recurses := true, apart := false }
def StatePlaysSaid : Prop := statePlaysRow.holds Try.pinned (OpenSpec.ofChange statePlaysSpec)

/-- ITS FALSE NEIGHBOUR: 'it returns false'. Refute it at one input. -/
def statePlaysWrong : ChangeSpec := { name := "statePlays", fn := fun _ => fun
  | [d] => { results := [.lit (.bool false)], args := [d] }
  | _ => none }
def StatePlaysWrongFalsely : Prop := statePlaysRow.holds Try.pinned (OpenSpec.ofChange statePlaysWrong)

/-- 'chartularylaw16.StateSnapshots': WHATEVER THE INPUT: true; the input reads as it did. -/
def stateSnapshotsSpec : ChangeSpec := { name := "stateSnapshots", fn := fun _ => fun
  | [d] => { results := [.lit (.bool true)], args := [d] }
  | _ => none }
def stateSnapshotsRow : OpenClaim := { program := "ytojemaaljjibiaa", sum := "3bb85ca5ea5a129b9965ab190dc681a5f7bcfaf78350aa43261a04aaafea9e77", func := "chartulary/chartularylaw16.StateSnapshots", spec := "stateSnapshots", unfollowed := true, recurses := true, apart := false }
def StateSnapshotsSaid : Prop := stateSnapshotsRow.holds Try.pinned (OpenSpec.ofChange stateSnapshotsSpec)

/-- ITS FALSE NEIGHBOUR: 'it returns false'. Refute it at one input. -/
def stateSnapshotsWrong : ChangeSpec := { name := "stateSnapshots", fn := fun _ => fun
  | [d] => { results := [.lit (.bool false)], args := [d] }
  | _ => none }
def StateSnapshotsWrongFalsely : Prop := stateSnapshotsRow.holds Try.pinned (OpenSpec.ofChange stateSnapshotsWrong)

/-- 'chartularylaw16.StatePledges': WHATEVER THE INPUT: true; the input reads as it did. -/
def statePledgesSpec : ChangeSpec := { name := "statePledges", fn := fun _ => fun
  | [d1, d2] => { results := [.lit (.bool true)], args := [d1, d2] }
  | _ => none }
def statePledgesRow : OpenClaim := { program := "ytojemaaljjibiaa", sum := "3bb85ca5ea5a129b9965ab190dc681a5f7bcfaf78350aa43261a04aaafea9e77", func := "chartulary/chartularylaw16.StatePledges", spec := "statePledges", unfollowed := true, recurses := true, apart := false }
def StatePledgesSaid : Prop := statePledgesRow.holds Try.pinned (OpenSpec.ofChange statePledgesSpec)

/-- ITS FALSE NEIGHBOUR: 'it returns false'. Refute it at one input. -/
def statePledgesWrong : ChangeSpec := { name := "statePledges", fn := fun _ => fun
  | [d1, d2] => { results := [.lit (.bool false)], args := [d1, d2] }
  | _ => none }
def StatePledgesWrongFalsely : Prop := statePledgesRow.holds Try.pinned (OpenSpec.ofChange statePledgesWrong)

/-- 'chartularylaw16.StateHolds': WHATEVER THE INPUT: true; the input reads as it did. -/
def stateHoldsSpec : ChangeSpec := { name := "stateHolds", fn := fun _ => fun
  | [d] => { results := [.lit (.bool true)], args := [d] }
  | _ => none }
def stateHoldsRow : OpenClaim := { program := "ytojemaaljjibiaa", sum := "3bb85ca5ea5a129b9965ab190dc681a5f7bcfaf78350aa43261a04aaafea9e77", func := "chartulary/chartularylaw16.StateHolds", spec := "stateHolds", unfollowed := true, recurses := true, apart := false }
def StateHoldsSaid : Prop := stateHoldsRow.holds Try.pinned (OpenSpec.ofChange stateHoldsSpec)

/-- ITS FALSE NEIGHBOUR: 'it returns false'. Refute it at one input. -/
def stateHoldsWrong : ChangeSpec := { name := "stateHolds", fn := fun _ => fun
  | [d] => { results := [.lit (.bool false)], args := [d] }
  | _ => none }
def StateHoldsWrongFalsely : Prop := stateHoldsRow.holds Try.pinned (OpenSpec.ofChange stateHoldsWrong)

/-- 'chartularylaw16.StateSames': WHATEVER THE INPUT: true; the input reads as it did. -/
def stateSamesSpec : ChangeSpec := { name := "stateSames", fn := fun _ => fun
  | [d1, d2] => { results := [.lit (.bool true)], args := [d1, d2] }
  | _ => none }
def stateSamesRow : OpenClaim := { program := "ytojemaaljjibiaa", sum := "3bb85ca5ea5a129b9965ab190dc681a5f7bcfaf78350aa43261a04aaafea9e77", func := "chartulary/chartularylaw16.StateSames", spec := "stateSames", unfollowed := true, recurses := true, apart := false }
def StateSamesSaid : Prop := stateSamesRow.holds Try.pinned (OpenSpec.ofChange stateSamesSpec)

/-- ITS FALSE NEIGHBOUR: 'it returns false'. Refute it at one input. -/
def stateSamesWrong : ChangeSpec := { name := "stateSames", fn := fun _ => fun
  | [d1, d2] => { results := [.lit (.bool false)], args := [d1, d2] }
  | _ => none }
def StateSamesWrongFalsely : Prop := stateSamesRow.holds Try.pinned (OpenSpec.ofChange stateSamesWrong)

/-- 'chartularylaw16.StateNobody': WHATEVER THE INPUT: true; the input reads as it did. -/
def stateNobodySpec : ChangeSpec := { name := "stateNobody", fn := fun _ => fun
  | [d1, d2] => { results := [.lit (.bool true)], args := [d1, d2] }
  | _ => none }
def stateNobodyRow : OpenClaim := { program := "ytojemaaljjibiaa", sum := "3bb85ca5ea5a129b9965ab190dc681a5f7bcfaf78350aa43261a04aaafea9e77", func := "chartulary/chartularylaw16.StateNobody", spec := "stateNobody", unfollowed := true, recurses := true, apart := false }
def StateNobodySaid : Prop := stateNobodyRow.holds Try.pinned (OpenSpec.ofChange stateNobodySpec)

/-- ITS FALSE NEIGHBOUR: 'it returns false'. Refute it at one input. -/
def stateNobodyWrong : ChangeSpec := { name := "stateNobody", fn := fun _ => fun
  | [d1, d2] => { results := [.lit (.bool false)], args := [d1, d2] }
  | _ => none }
def StateNobodyWrongFalsely : Prop := stateNobodyRow.holds Try.pinned (OpenSpec.ofChange stateNobodyWrong)

/- THE SECOND FORM. 'bulk': how many values and letters a reading holds, each counted each time it is reached (what is shared counts as often as it is met; a slice's spare places count too). A statement '..UptoSaid' is the law's where the arguments, and the package variables that the reading takes, are together of bulk at most 1048576: NARROWER than '..Said'. Prove '..Said' where nothing that the law and all that it calls make is longer than what came in: it says more and counts as full. Else prove '..UptoSaid'. A law counts once. -/
mutual
def uptoBulk {H : Type} : DataW H → Nat
  | .lit (.string bytes) => bytes.length + 1
  | .lit _ => 1
  | .nil => 1
  | .ptr d => uptoBulk d + 1
  | .slice elems spare => uptoBulkAll elems + uptoBulkAll spare + 1
  | .agg parts => uptoBulkAll parts + 1
  | .iface _ d => uptoBulk d + 1
  | .map entries => uptoBulkEntries entries + 1
  | .held _ => 1
def uptoBulkAll {H : Type} : List (DataW H) → Nat
  | [] => 0
  | d :: r => uptoBulk d + uptoBulkAll r
def uptoBulkEntries {H : Type} : List (Lit × DataW H) → Nat
  | [] => 0
  | x :: r => uptoBulkEntry x + uptoBulkEntries r
def uptoBulkEntry {H : Type} : Lit × DataW H → Nat
  | (.string bytes, d) => bytes.length + uptoBulk d + 1
  | (_, d) => uptoBulk d + 1
 end
def uptoSmall : (H : Type) → List (DataW H) → Bool := fun _ ds => decide (uptoBulkAll ds ≤ 1048576)
def OpenSpec.upto (s : _root_.Go.ChangeSpec) : _root_.Go.OpenSpec := { _root_.Go.OpenSpec.ofChange s with cond := some uptoSmall }

/-- 'chartularylaw16.StatePlays', WHERE WHAT IT READS IS OF BULK AT MOST 1048576: true; the input reads as it did. -/
def statePlaysUptoRow : OpenClaim := { program := "ytojemaaljjibiaa", sum := "3bb85ca5ea5a129b9965ab190dc681a5f7bcfaf78350aa43261a04aaafea9e77", func := "chartulary/chartularylaw16.StatePlays", spec := "statePlays", unfollowed := true, recurses := true, apart := false, narrowed := true }
def StatePlaysUptoSaid : Prop := statePlaysUptoRow.holds Try.pinned (OpenSpec.upto statePlaysSpec)

/-- 'chartularylaw16.StateSnapshots', WHERE WHAT IT READS IS OF BULK AT MOST 1048576: true; the input reads as it did. -/
def stateSnapshotsUptoRow : OpenClaim := { program := "ytojemaaljjibiaa", sum := "3bb85ca5ea5a129b9965ab190dc681a5f7bcfaf78350aa43261a04aaafea9e77", func := "chartulary/chartularylaw16.StateSnapshots", spec := "stateSnapshots", unfollowed := true, recurses := true, apart := false, narrowed := true }
def StateSnapshotsUptoSaid : Prop := stateSnapshotsUptoRow.holds Try.pinned (OpenSpec.upto stateSnapshotsSpec)

/-- 'chartularylaw16.StatePledges', WHERE WHAT IT READS IS OF BULK AT MOST 1048576: true; the input reads as it did. -/
def statePledgesUptoRow : OpenClaim := { program := "ytojemaaljjibiaa", sum := "3bb85ca5ea5a129b9965ab190dc681a5f7bcfaf78350aa43261a04aaafea9e77", func := "chartulary/chartularylaw16.StatePledges", spec := "statePledges", unfollowed := true, recurses := true, apart := false, narrowed := true }
def StatePledgesUptoSaid : Prop := statePledgesUptoRow.holds Try.pinned (OpenSpec.upto statePledgesSpec)

/-- 'chartularylaw16.StateHolds', WHERE WHAT IT READS IS OF BULK AT MOST 1048576: true; the input reads as it did. -/
def stateHoldsUptoRow : OpenClaim := { program := "ytojemaaljjibiaa", sum := "3bb85ca5ea5a129b9965ab190dc681a5f7bcfaf78350aa43261a04aaafea9e77", func := "chartulary/chartularylaw16.StateHolds", spec := "stateHolds", unfollowed := true, recurses := true, apart := false, narrowed := true }
def StateHoldsUptoSaid : Prop := stateHoldsUptoRow.holds Try.pinned (OpenSpec.upto stateHoldsSpec)

/-- 'chartularylaw16.StateSames', WHERE WHAT IT READS IS OF BULK AT MOST 1048576: true; the input reads as it did. -/
def stateSamesUptoRow : OpenClaim := { program := "ytojemaaljjibiaa", sum := "3bb85ca5ea5a129b9965ab190dc681a5f7bcfaf78350aa43261a04aaafea9e77", func := "chartulary/chartularylaw16.StateSames", spec := "stateSames", unfollowed := true, recurses := true, apart := false, narrowed := true }
def StateSamesUptoSaid : Prop := stateSamesUptoRow.holds Try.pinned (OpenSpec.upto stateSamesSpec)

/-- 'chartularylaw16.StateNobody', WHERE WHAT IT READS IS OF BULK AT MOST 1048576: true; the input reads as it did. -/
def stateNobodyUptoRow : OpenClaim := { program := "ytojemaaljjibiaa", sum := "3bb85ca5ea5a129b9965ab190dc681a5f7bcfaf78350aa43261a04aaafea9e77", func := "chartulary/chartularylaw16.StateNobody", spec := "stateNobody", unfollowed := true, recurses := true, apart := false, narrowed := true }
def StateNobodyUptoSaid : Prop := stateNobodyUptoRow.holds Try.pinned (OpenSpec.upto stateNobodySpec)

end Rows
end Go.Proofs.Ytojemaaljjibiaa
