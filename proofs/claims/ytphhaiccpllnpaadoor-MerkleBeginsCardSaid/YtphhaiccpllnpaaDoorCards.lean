/-
  DERIVED. GIVEN WITH THE SEED: THE CARDS: each row of YtphhaiccpllnpaaDoorRows.lean that lists a variable, with what it lists TIED to the program's text (the seventh form; the later family's looks); each row that meets fmt, with fmt's text TOLD by the authors' own Lean function (tested against real Go, not proved from fmt's source: count such statements apart). THE CARD IS WHAT COUNTS. Prove the row's statement (the work); the ties are given (YtphhaiccpllnpaaDoorTie.lean); close each card by the builder's one call (the guide's Derived/Test/ToyasCard.lean, 'card_holds'). Laid BY PROGRAM, IN A SANDBOX (cutbox-door.mjs). By AI agents, Wed Nov 11 2026. No macro, syntax, notation, axiom, sorry.
-/
import Derived.Test.YtphhaiccpllnpaaDoorRows
import GoSem.ClaimSeven
namespace Go.Proofs.YtphhaiccpllnpaaDoor
namespace Rows

/-- THE TIED CARD OF 'chartularylaw07.MerkleRoots'. -/
def merkleRootsCard : Claim7 := { stood := { row := merkleRootsRow, standIns := [], harness := (true, "8a88b875db79bf32b767ee5cf7d5c8be8e772c1830ad3f1e5b5abbbcad5073c5"), looks := false }, kinds := [], alts := [], laidByText := true, laidKinds := [.data, .data, .data, .data], laidTests := true, laidLooks := .later }
def MerkleRootsCardSaid : Prop := Claim7.holds Tryd.pinned (.plain (OpenSpec.ofChange merkleRootsSpec)) merkleRootsCard

/-- THE TIED CARD OF 'chartularylaw07.MerklePaths'. -/
def merklePathsCard : Claim7 := { stood := { row := merklePathsRow, standIns := [], harness := (true, "8a88b875db79bf32b767ee5cf7d5c8be8e772c1830ad3f1e5b5abbbcad5073c5"), looks := false }, kinds := [], alts := [], laidByText := true, laidKinds := [.data, .data], laidTests := true, laidLooks := .later }
def MerklePathsCardSaid : Prop := Claim7.holds Tryd.pinned (.plain (OpenSpec.ofChange merklePathsSpec)) merklePathsCard

/-- THE TIED CARD OF 'chartularylaw07.MerkleClimbs'. -/
def merkleClimbsCard : Claim7 := { stood := { row := merkleClimbsRow, standIns := [], harness := (true, "8a88b875db79bf32b767ee5cf7d5c8be8e772c1830ad3f1e5b5abbbcad5073c5"), looks := false }, kinds := [], alts := [], laidByText := true, laidKinds := [.data, .data], laidTests := true, laidLooks := .later }
def MerkleClimbsCardSaid : Prop := Claim7.holds Tryd.pinned (.plain (OpenSpec.ofChange merkleClimbsSpec)) merkleClimbsCard

/-- THE TIED CARD OF 'chartularylaw07.MerkleGrowths'. -/
def merkleGrowthsCard : Claim7 := { stood := { row := merkleGrowthsRow, standIns := [], harness := (true, "8a88b875db79bf32b767ee5cf7d5c8be8e772c1830ad3f1e5b5abbbcad5073c5"), looks := false }, kinds := [], alts := [], laidByText := true, laidKinds := [.data, .data], laidTests := true, laidLooks := .later }
def MerkleGrowthsCardSaid : Prop := Claim7.holds Tryd.pinned (.plain (OpenSpec.ofChange merkleGrowthsSpec)) merkleGrowthsCard

/-- THE TIED CARD OF 'chartularylaw07.MerkleGrowns'. -/
def merkleGrownsCard : Claim7 := { stood := { row := merkleGrownsRow, standIns := [], harness := (true, "8a88b875db79bf32b767ee5cf7d5c8be8e772c1830ad3f1e5b5abbbcad5073c5"), looks := false }, kinds := [], alts := [], laidByText := true, laidKinds := [.data, .data], laidTests := true, laidLooks := .later }
def MerkleGrownsCardSaid : Prop := Claim7.holds Tryd.pinned (.plain (OpenSpec.ofChange merkleGrownsSpec)) merkleGrownsCard

/-- THE TIED CARD OF 'chartularylaw07.MerkleLeaf'. -/
def merkleLeafCard : Claim7 := { stood := { row := merkleLeafRow, standIns := [], harness := (true, "8a88b875db79bf32b767ee5cf7d5c8be8e772c1830ad3f1e5b5abbbcad5073c5"), looks := false }, kinds := [], alts := [], laidByText := true, laidKinds := [.data, .data], laidTests := true, laidLooks := .later }
def MerkleLeafCardSaid : Prop := Claim7.holds Tryd.pinned (.plain (OpenSpec.ofChange merkleLeafSpec)) merkleLeafCard

/-- THE TIED CARD OF 'chartularylaw07.MerkleBegins'. -/
def merkleBeginsCard : Claim7 := { stood := { row := merkleBeginsRow, standIns := [], harness := (true, "8a88b875db79bf32b767ee5cf7d5c8be8e772c1830ad3f1e5b5abbbcad5073c5"), looks := false }, kinds := [], alts := [], laidByText := true, laidKinds := [.data, .data], laidTests := true, laidLooks := .later }
def MerkleBeginsCardSaid : Prop := Claim7.holds Tryd.pinned (.plain (OpenSpec.ofChange merkleBeginsSpec)) merkleBeginsCard

/-- THE TIED CARD OF 'chartularylaw07.MerkleNobody'. -/
def merkleNobodyCard : Claim7 := { stood := { row := merkleNobodyRow, standIns := [], harness := (true, "8a88b875db79bf32b767ee5cf7d5c8be8e772c1830ad3f1e5b5abbbcad5073c5"), looks := false }, kinds := [], alts := [], laidByText := true, laidKinds := [.data, .data, .data, .data], laidTests := true, laidLooks := .later }
def MerkleNobodyCardSaid : Prop := Claim7.holds Tryd.pinned (.plain (OpenSpec.ofChange merkleNobodySpec)) merkleNobodyCard

/-- THE SECOND FORM's CARD OF 'chartularylaw07.MerkleRoots'. -/
def merkleRootsUptoCard : Claim7 := { stood := { row := merkleRootsUptoRow, standIns := [], harness := (true, "8a88b875db79bf32b767ee5cf7d5c8be8e772c1830ad3f1e5b5abbbcad5073c5"), looks := false }, kinds := [], alts := [], laidByText := true, laidKinds := [.data, .data, .data, .data], laidTests := true, laidLooks := .later }
def MerkleRootsUptoCardSaid : Prop := Claim7.holds Tryd.pinned (.plain (OpenSpec.upto merkleRootsSpec)) merkleRootsUptoCard

/-- THE SECOND FORM's CARD OF 'chartularylaw07.MerklePaths'. -/
def merklePathsUptoCard : Claim7 := { stood := { row := merklePathsUptoRow, standIns := [], harness := (true, "8a88b875db79bf32b767ee5cf7d5c8be8e772c1830ad3f1e5b5abbbcad5073c5"), looks := false }, kinds := [], alts := [], laidByText := true, laidKinds := [.data, .data], laidTests := true, laidLooks := .later }
def MerklePathsUptoCardSaid : Prop := Claim7.holds Tryd.pinned (.plain (OpenSpec.upto merklePathsSpec)) merklePathsUptoCard

/-- THE SECOND FORM's CARD OF 'chartularylaw07.MerkleClimbs'. -/
def merkleClimbsUptoCard : Claim7 := { stood := { row := merkleClimbsUptoRow, standIns := [], harness := (true, "8a88b875db79bf32b767ee5cf7d5c8be8e772c1830ad3f1e5b5abbbcad5073c5"), looks := false }, kinds := [], alts := [], laidByText := true, laidKinds := [.data, .data], laidTests := true, laidLooks := .later }
def MerkleClimbsUptoCardSaid : Prop := Claim7.holds Tryd.pinned (.plain (OpenSpec.upto merkleClimbsSpec)) merkleClimbsUptoCard

/-- THE SECOND FORM's CARD OF 'chartularylaw07.MerkleGrowths'. -/
def merkleGrowthsUptoCard : Claim7 := { stood := { row := merkleGrowthsUptoRow, standIns := [], harness := (true, "8a88b875db79bf32b767ee5cf7d5c8be8e772c1830ad3f1e5b5abbbcad5073c5"), looks := false }, kinds := [], alts := [], laidByText := true, laidKinds := [.data, .data], laidTests := true, laidLooks := .later }
def MerkleGrowthsUptoCardSaid : Prop := Claim7.holds Tryd.pinned (.plain (OpenSpec.upto merkleGrowthsSpec)) merkleGrowthsUptoCard

/-- THE SECOND FORM's CARD OF 'chartularylaw07.MerkleGrowns'. -/
def merkleGrownsUptoCard : Claim7 := { stood := { row := merkleGrownsUptoRow, standIns := [], harness := (true, "8a88b875db79bf32b767ee5cf7d5c8be8e772c1830ad3f1e5b5abbbcad5073c5"), looks := false }, kinds := [], alts := [], laidByText := true, laidKinds := [.data, .data], laidTests := true, laidLooks := .later }
def MerkleGrownsUptoCardSaid : Prop := Claim7.holds Tryd.pinned (.plain (OpenSpec.upto merkleGrownsSpec)) merkleGrownsUptoCard

/-- THE SECOND FORM's CARD OF 'chartularylaw07.MerkleLeaf'. -/
def merkleLeafUptoCard : Claim7 := { stood := { row := merkleLeafUptoRow, standIns := [], harness := (true, "8a88b875db79bf32b767ee5cf7d5c8be8e772c1830ad3f1e5b5abbbcad5073c5"), looks := false }, kinds := [], alts := [], laidByText := true, laidKinds := [.data, .data], laidTests := true, laidLooks := .later }
def MerkleLeafUptoCardSaid : Prop := Claim7.holds Tryd.pinned (.plain (OpenSpec.upto merkleLeafSpec)) merkleLeafUptoCard

/-- THE SECOND FORM's CARD OF 'chartularylaw07.MerkleBegins'. -/
def merkleBeginsUptoCard : Claim7 := { stood := { row := merkleBeginsUptoRow, standIns := [], harness := (true, "8a88b875db79bf32b767ee5cf7d5c8be8e772c1830ad3f1e5b5abbbcad5073c5"), looks := false }, kinds := [], alts := [], laidByText := true, laidKinds := [.data, .data], laidTests := true, laidLooks := .later }
def MerkleBeginsUptoCardSaid : Prop := Claim7.holds Tryd.pinned (.plain (OpenSpec.upto merkleBeginsSpec)) merkleBeginsUptoCard

/-- THE SECOND FORM's CARD OF 'chartularylaw07.MerkleNobody'. -/
def merkleNobodyUptoCard : Claim7 := { stood := { row := merkleNobodyUptoRow, standIns := [], harness := (true, "8a88b875db79bf32b767ee5cf7d5c8be8e772c1830ad3f1e5b5abbbcad5073c5"), looks := false }, kinds := [], alts := [], laidByText := true, laidKinds := [.data, .data, .data, .data], laidTests := true, laidLooks := .later }
def MerkleNobodyUptoCardSaid : Prop := Claim7.holds Tryd.pinned (.plain (OpenSpec.upto merkleNobodySpec)) merkleNobodyUptoCard
end Rows
end Go.Proofs.YtphhaiccpllnpaaDoor
