/-
  DERIVED. GIVEN WITH THE SEED: THE CARDS: each row of YtjajlofcpfgjhaaDoorRows.lean that lists a variable, with what it lists TIED to the program's text (the seventh form; the later family's looks); each row that meets fmt, with fmt's text TOLD by the authors' own Lean function (tested against real Go, not proved from fmt's source: count such statements apart). THE CARD IS WHAT COUNTS. Prove the row's statement (the work); the ties are given (YtjajlofcpfgjhaaDoorTie.lean); close each card by the builder's one call (the guide's Derived/Test/ToyasCard.lean, 'card_holds'). Laid BY PROGRAM, IN A SANDBOX (cutbox-door.mjs). By AI agents, Wed Nov 11 2026. No macro, syntax, notation, axiom, sorry.
-/
import Derived.Test.YtjajlofcpfgjhaaDoorRows
import GoSem.ClaimSeven
namespace Go.Proofs.YtjajlofcpfgjhaaDoor
namespace Rows

/-- THE TIED CARD OF 'chartularylaw02.ShaSums'. -/
def shaSumsCard : Claim7 := { stood := { row := shaSumsRow, standIns := [], harness := (true, "e2efc074f06447f56bef5579f2cb9d9fbc2ee4bed5066a965e8e18ad0d0e5b4e"), looks := false }, kinds := [], alts := [], laidByText := true, laidKinds := [.data, .data], laidTests := true, laidLooks := .later }
def ShaSumsCardSaid : Prop := Claim7.holds Tryd.pinned (.plain (OpenSpec.ofChange shaSumsSpec)) shaSumsCard

/-- THE TIED CARD OF 'chartularylaw03.MillSums'. -/
def millSumsCard : Claim7 := { stood := { row := millSumsRow, standIns := [], harness := (true, "e2efc074f06447f56bef5579f2cb9d9fbc2ee4bed5066a965e8e18ad0d0e5b4e"), looks := false }, kinds := [], alts := [], laidByText := true, laidKinds := [.data, .data], laidTests := true, laidLooks := .later }
def MillSumsCardSaid : Prop := Claim7.holds Tryd.pinned (.plain (OpenSpec.ofChange millSumsSpec)) millSumsCard

/-- THE TIED CARD OF 'chartularylaw03.MillTags'. -/
def millTagsCard : Claim7 := { stood := { row := millTagsRow, standIns := [], harness := (true, "e2efc074f06447f56bef5579f2cb9d9fbc2ee4bed5066a965e8e18ad0d0e5b4e"), looks := false }, kinds := [], alts := [], laidByText := true, laidKinds := [.data, .data], laidTests := true, laidLooks := .later }
def MillTagsCardSaid : Prop := Claim7.holds Tryd.pinned (.plain (OpenSpec.ofChange millTagsSpec)) millTagsCard

/-- THE TIED CARD OF 'chartularylaw03.MillStreams'. -/
def millStreamsCard : Claim7 := { stood := { row := millStreamsRow, standIns := [], harness := (true, "e2efc074f06447f56bef5579f2cb9d9fbc2ee4bed5066a965e8e18ad0d0e5b4e"), looks := false }, kinds := [], alts := [], laidByText := true, laidKinds := [.data, .data], laidTests := true, laidLooks := .later }
def MillStreamsCardSaid : Prop := Claim7.holds Tryd.pinned (.plain (OpenSpec.ofChange millStreamsSpec)) millStreamsCard

/-- THE TIED CARD OF 'chartularylaw03.MillFull'. -/
def millFullCard : Claim7 := { stood := { row := millFullRow, standIns := [], harness := (true, "e2efc074f06447f56bef5579f2cb9d9fbc2ee4bed5066a965e8e18ad0d0e5b4e"), looks := false }, kinds := [], alts := [], laidByText := true, laidKinds := [.data, .data], laidTests := true, laidLooks := .later }
def MillFullCardSaid : Prop := Claim7.holds Tryd.pinned (.plain (OpenSpec.ofChange millFullSpec)) millFullCard

/-- THE TIED CARD OF 'chartularylaw03.MillNobody'. -/
def millNobodyCard : Claim7 := { stood := { row := millNobodyRow, standIns := [], harness := (true, "e2efc074f06447f56bef5579f2cb9d9fbc2ee4bed5066a965e8e18ad0d0e5b4e"), looks := false }, kinds := [], alts := [], laidByText := true, laidKinds := [.data, .data], laidTests := true, laidLooks := .later }
def MillNobodyCardSaid : Prop := Claim7.holds Tryd.pinned (.plain (OpenSpec.ofChange millNobodySpec)) millNobodyCard

/-- THE SECOND FORM's CARD OF 'chartularylaw02.ShaSums'. -/
def shaSumsUptoCard : Claim7 := { stood := { row := shaSumsUptoRow, standIns := [], harness := (true, "e2efc074f06447f56bef5579f2cb9d9fbc2ee4bed5066a965e8e18ad0d0e5b4e"), looks := false }, kinds := [], alts := [], laidByText := true, laidKinds := [.data, .data], laidTests := true, laidLooks := .later }
def ShaSumsUptoCardSaid : Prop := Claim7.holds Tryd.pinned (.plain (OpenSpec.upto shaSumsSpec)) shaSumsUptoCard

/-- THE SECOND FORM's CARD OF 'chartularylaw03.MillSums'. -/
def millSumsUptoCard : Claim7 := { stood := { row := millSumsUptoRow, standIns := [], harness := (true, "e2efc074f06447f56bef5579f2cb9d9fbc2ee4bed5066a965e8e18ad0d0e5b4e"), looks := false }, kinds := [], alts := [], laidByText := true, laidKinds := [.data, .data], laidTests := true, laidLooks := .later }
def MillSumsUptoCardSaid : Prop := Claim7.holds Tryd.pinned (.plain (OpenSpec.upto millSumsSpec)) millSumsUptoCard

/-- THE SECOND FORM's CARD OF 'chartularylaw03.MillTags'. -/
def millTagsUptoCard : Claim7 := { stood := { row := millTagsUptoRow, standIns := [], harness := (true, "e2efc074f06447f56bef5579f2cb9d9fbc2ee4bed5066a965e8e18ad0d0e5b4e"), looks := false }, kinds := [], alts := [], laidByText := true, laidKinds := [.data, .data], laidTests := true, laidLooks := .later }
def MillTagsUptoCardSaid : Prop := Claim7.holds Tryd.pinned (.plain (OpenSpec.upto millTagsSpec)) millTagsUptoCard

/-- THE SECOND FORM's CARD OF 'chartularylaw03.MillStreams'. -/
def millStreamsUptoCard : Claim7 := { stood := { row := millStreamsUptoRow, standIns := [], harness := (true, "e2efc074f06447f56bef5579f2cb9d9fbc2ee4bed5066a965e8e18ad0d0e5b4e"), looks := false }, kinds := [], alts := [], laidByText := true, laidKinds := [.data, .data], laidTests := true, laidLooks := .later }
def MillStreamsUptoCardSaid : Prop := Claim7.holds Tryd.pinned (.plain (OpenSpec.upto millStreamsSpec)) millStreamsUptoCard

/-- THE SECOND FORM's CARD OF 'chartularylaw03.MillFull'. -/
def millFullUptoCard : Claim7 := { stood := { row := millFullUptoRow, standIns := [], harness := (true, "e2efc074f06447f56bef5579f2cb9d9fbc2ee4bed5066a965e8e18ad0d0e5b4e"), looks := false }, kinds := [], alts := [], laidByText := true, laidKinds := [.data, .data], laidTests := true, laidLooks := .later }
def MillFullUptoCardSaid : Prop := Claim7.holds Tryd.pinned (.plain (OpenSpec.upto millFullSpec)) millFullUptoCard

/-- THE SECOND FORM's CARD OF 'chartularylaw03.MillNobody'. -/
def millNobodyUptoCard : Claim7 := { stood := { row := millNobodyUptoRow, standIns := [], harness := (true, "e2efc074f06447f56bef5579f2cb9d9fbc2ee4bed5066a965e8e18ad0d0e5b4e"), looks := false }, kinds := [], alts := [], laidByText := true, laidKinds := [.data, .data], laidTests := true, laidLooks := .later }
def MillNobodyUptoCardSaid : Prop := Claim7.holds Tryd.pinned (.plain (OpenSpec.upto millNobodySpec)) millNobodyUptoCard
end Rows
end Go.Proofs.YtjajlofcpfgjhaaDoor
