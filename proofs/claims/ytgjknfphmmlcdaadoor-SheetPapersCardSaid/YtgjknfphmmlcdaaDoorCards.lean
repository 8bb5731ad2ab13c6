/-
  DERIVED. GIVEN WITH THE SEED: THE CARDS: each row of YtgjknfphmmlcdaaDoorRows.lean that lists a variable, with what it lists TIED to the program's text (the seventh form; the later family's looks); each row that meets fmt, with fmt's text TOLD by the authors' own Lean function (tested against real Go, not proved from fmt's source: count such statements apart). THE CARD IS WHAT COUNTS. Prove the row's statement (the work); the ties are given (YtgjknfphmmlcdaaDoorTie.lean); close each card by the builder's one call (the guide's Derived/Test/ToyasCard.lean, 'card_holds'). Laid BY PROGRAM, IN A SANDBOX (cutbox-door.mjs). By AI agents, Wed Nov 11 2026. No macro, syntax, notation, axiom, sorry.
-/
import Derived.Test.YtgjknfphmmlcdaaDoorRows
import GoSem.ClaimSeven
namespace Go.Proofs.YtgjknfphmmlcdaaDoor
namespace Rows

/-- THE TIED CARD OF 'chartularylaw08.SheetRoots'. -/
def sheetRootsCard : Claim7 := { stood := { row := sheetRootsRow, standIns := [], harness := (true, "77984b5987faee0cb863520218f2fab330a8c3f0c27609975b3db89bb6c70c5b"), looks := false }, kinds := [], alts := [], laidByText := true, laidKinds := [.data, .data], laidTests := true, laidLooks := .later }
def SheetRootsCardSaid : Prop := Claim7.holds Tryd.pinned (.plain (OpenSpec.ofChange sheetRootsSpec)) sheetRootsCard

/-- THE TIED CARD OF 'chartularylaw08.SheetPapers'. -/
def sheetPapersCard : Claim7 := { stood := { row := sheetPapersRow, standIns := [], harness := (true, "77984b5987faee0cb863520218f2fab330a8c3f0c27609975b3db89bb6c70c5b"), looks := false }, kinds := [], alts := [], laidByText := true, laidKinds := [.data, .data], laidTests := true, laidLooks := .later }
def SheetPapersCardSaid : Prop := Claim7.holds Tryd.pinned (.plain (OpenSpec.ofChange sheetPapersSpec)) sheetPapersCard

/-- THE TIED CARD OF 'chartularylaw08.SheetNodes'. -/
def sheetNodesCard : Claim7 := { stood := { row := sheetNodesRow, standIns := [], harness := (true, "77984b5987faee0cb863520218f2fab330a8c3f0c27609975b3db89bb6c70c5b"), looks := false }, kinds := [], alts := [], laidByText := true, laidKinds := [.data, .data], laidTests := true, laidLooks := .later }
def SheetNodesCardSaid : Prop := Claim7.holds Tryd.pinned (.plain (OpenSpec.ofChange sheetNodesSpec)) sheetNodesCard

/-- THE TIED CARD OF 'chartularylaw08.SheetBuilds'. -/
def sheetBuildsCard : Claim7 := { stood := { row := sheetBuildsRow, standIns := [], harness := (true, "77984b5987faee0cb863520218f2fab330a8c3f0c27609975b3db89bb6c70c5b"), looks := false }, kinds := [], alts := [], laidByText := true, laidKinds := [.data, .data], laidTests := true, laidLooks := .later }
def SheetBuildsCardSaid : Prop := Claim7.holds Tryd.pinned (.plain (OpenSpec.ofChange sheetBuildsSpec)) sheetBuildsCard

/-- THE TIED CARD OF 'chartularylaw08.SheetApart'. -/
def sheetApartCard : Claim7 := { stood := { row := sheetApartRow, standIns := [], harness := (true, "77984b5987faee0cb863520218f2fab330a8c3f0c27609975b3db89bb6c70c5b"), looks := false }, kinds := [], alts := [], laidByText := true, laidKinds := [.data, .data], laidTests := true, laidLooks := .later }
def SheetApartCardSaid : Prop := Claim7.holds Tryd.pinned (.plain (OpenSpec.ofChange sheetApartSpec)) sheetApartCard

/-- THE SECOND FORM's CARD OF 'chartularylaw08.SheetRoots'. -/
def sheetRootsUptoCard : Claim7 := { stood := { row := sheetRootsUptoRow, standIns := [], harness := (true, "77984b5987faee0cb863520218f2fab330a8c3f0c27609975b3db89bb6c70c5b"), looks := false }, kinds := [], alts := [], laidByText := true, laidKinds := [.data, .data], laidTests := true, laidLooks := .later }
def SheetRootsUptoCardSaid : Prop := Claim7.holds Tryd.pinned (.plain (OpenSpec.upto sheetRootsSpec)) sheetRootsUptoCard

/-- THE SECOND FORM's CARD OF 'chartularylaw08.SheetPapers'. -/
def sheetPapersUptoCard : Claim7 := { stood := { row := sheetPapersUptoRow, standIns := [], harness := (true, "77984b5987faee0cb863520218f2fab330a8c3f0c27609975b3db89bb6c70c5b"), looks := false }, kinds := [], alts := [], laidByText := true, laidKinds := [.data, .data], laidTests := true, laidLooks := .later }
def SheetPapersUptoCardSaid : Prop := Claim7.holds Tryd.pinned (.plain (OpenSpec.upto sheetPapersSpec)) sheetPapersUptoCard

/-- THE SECOND FORM's CARD OF 'chartularylaw08.SheetNodes'. -/
def sheetNodesUptoCard : Claim7 := { stood := { row := sheetNodesUptoRow, standIns := [], harness := (true, "77984b5987faee0cb863520218f2fab330a8c3f0c27609975b3db89bb6c70c5b"), looks := false }, kinds := [], alts := [], laidByText := true, laidKinds := [.data, .data], laidTests := true, laidLooks := .later }
def SheetNodesUptoCardSaid : Prop := Claim7.holds Tryd.pinned (.plain (OpenSpec.upto sheetNodesSpec)) sheetNodesUptoCard

/-- THE SECOND FORM's CARD OF 'chartularylaw08.SheetBuilds'. -/
def sheetBuildsUptoCard : Claim7 := { stood := { row := sheetBuildsUptoRow, standIns := [], harness := (true, "77984b5987faee0cb863520218f2fab330a8c3f0c27609975b3db89bb6c70c5b"), looks := false }, kinds := [], alts := [], laidByText := true, laidKinds := [.data, .data], laidTests := true, laidLooks := .later }
def SheetBuildsUptoCardSaid : Prop := Claim7.holds Tryd.pinned (.plain (OpenSpec.upto sheetBuildsSpec)) sheetBuildsUptoCard

/-- THE SECOND FORM's CARD OF 'chartularylaw08.SheetApart'. -/
def sheetApartUptoCard : Claim7 := { stood := { row := sheetApartUptoRow, standIns := [], harness := (true, "77984b5987faee0cb863520218f2fab330a8c3f0c27609975b3db89bb6c70c5b"), looks := false }, kinds := [], alts := [], laidByText := true, laidKinds := [.data, .data], laidTests := true, laidLooks := .later }
def SheetApartUptoCardSaid : Prop := Claim7.holds Tryd.pinned (.plain (OpenSpec.upto sheetApartSpec)) sheetApartUptoCard
end Rows
end Go.Proofs.YtgjknfphmmlcdaaDoor
