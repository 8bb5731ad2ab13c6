/-
  DERIVED. GIVEN WITH THE SEED: THE CARDS: each row of YtcgdjljfgjoliaaDoorRows.lean that lists a variable, with what it lists TIED to the program's text (the seventh form; the later family's looks); each row that meets fmt, with fmt's text TOLD by the authors' own Lean function (tested against real Go, not proved from fmt's source: count such statements apart). THE CARD IS WHAT COUNTS. Prove the row's statement (the work); the ties are given (YtcgdjljfgjoliaaDoorTie.lean); close each card by the builder's one call (the guide's Derived/Test/ToyasCard.lean, 'card_holds'). Laid BY PROGRAM, IN A SANDBOX (cutbox-door.mjs). By AI agents, Wed Nov 11 2026. No macro, syntax, notation, axiom, sorry.
-/
import Derived.Test.YtcgdjljfgjoliaaDoorRows
import GoSem.ClaimSeven
namespace Go.Proofs.YtcgdjljfgjoliaaDoor
namespace Rows

/-- THE TIED CARD OF 'chartularylaw10.GuardPuts'. -/
def guardPutsCard : Claim7 := { stood := { row := guardPutsRow, standIns := [], harness := (true, "ae9b0a439b0a5404ad98b3153aeeb8a49eb39057744bb3fa540733c81279e849"), looks := false }, kinds := [], alts := [], laidByText := true, laidKinds := [.data, .pinned], laidTests := true, laidLooks := .later }
def GuardPutsCardSaid : Prop := Claim7.holds Tryd.pinned (.plain (OpenSpec.ofChange guardPutsSpec)) guardPutsCard

/-- THE TIED CARD OF 'chartularylaw10.GuardReads'. -/
def guardReadsCard : Claim7 := { stood := { row := guardReadsRow, standIns := [], harness := (true, "ae9b0a439b0a5404ad98b3153aeeb8a49eb39057744bb3fa540733c81279e849"), looks := false }, kinds := [], alts := [], laidByText := true, laidKinds := [.data, .pinned], laidTests := true, laidLooks := .later }
def GuardReadsCardSaid : Prop := Claim7.holds Tryd.pinned (.plain (OpenSpec.ofChange guardReadsSpec)) guardReadsCard

/-- THE TIED CARD OF 'chartularylaw10.GuardNumbers'. -/
def guardNumbersCard : Claim7 := { stood := { row := guardNumbersRow, standIns := [], harness := (true, "ae9b0a439b0a5404ad98b3153aeeb8a49eb39057744bb3fa540733c81279e849"), looks := false }, kinds := [], alts := [], laidByText := true, laidKinds := [.data, .pinned], laidTests := true, laidLooks := .later }
def GuardNumbersCardSaid : Prop := Claim7.holds Tryd.pinned (.plain (OpenSpec.ofChange guardNumbersSpec)) guardNumbersCard

/-- THE TIED CARD OF 'chartularylaw10.GuardWhole'. -/
def guardWholeCard : Claim7 := { stood := { row := guardWholeRow, standIns := [], harness := (true, "ae9b0a439b0a5404ad98b3153aeeb8a49eb39057744bb3fa540733c81279e849"), looks := false }, kinds := [], alts := [], laidByText := true, laidKinds := [.data, .pinned], laidTests := true, laidLooks := .later }
def GuardWholeCardSaid : Prop := Claim7.holds Tryd.pinned (.plain (OpenSpec.ofChange guardWholeSpec)) guardWholeCard

/-- THE TIED CARD OF 'chartularylaw10.GuardNobody'. -/
def guardNobodyCard : Claim7 := { stood := { row := guardNobodyRow, standIns := [], harness := (true, "ae9b0a439b0a5404ad98b3153aeeb8a49eb39057744bb3fa540733c81279e849"), looks := false }, kinds := [], alts := [], laidByText := true, laidKinds := [.data, .pinned], laidTests := true, laidLooks := .later }
def GuardNobodyCardSaid : Prop := Claim7.holds Tryd.pinned (.plain (OpenSpec.ofChange guardNobodySpec)) guardNobodyCard

/-- THE SECOND FORM's CARD OF 'chartularylaw10.GuardPuts'. -/
def guardPutsUptoCard : Claim7 := { stood := { row := guardPutsUptoRow, standIns := [], harness := (true, "ae9b0a439b0a5404ad98b3153aeeb8a49eb39057744bb3fa540733c81279e849"), looks := false }, kinds := [], alts := [], laidByText := true, laidKinds := [.data, .pinned], laidTests := true, laidLooks := .later }
def GuardPutsUptoCardSaid : Prop := Claim7.holds Tryd.pinned (.plain (OpenSpec.upto guardPutsSpec)) guardPutsUptoCard

/-- THE SECOND FORM's CARD OF 'chartularylaw10.GuardReads'. -/
def guardReadsUptoCard : Claim7 := { stood := { row := guardReadsUptoRow, standIns := [], harness := (true, "ae9b0a439b0a5404ad98b3153aeeb8a49eb39057744bb3fa540733c81279e849"), looks := false }, kinds := [], alts := [], laidByText := true, laidKinds := [.data, .pinned], laidTests := true, laidLooks := .later }
def GuardReadsUptoCardSaid : Prop := Claim7.holds Tryd.pinned (.plain (OpenSpec.upto guardReadsSpec)) guardReadsUptoCard

/-- THE SECOND FORM's CARD OF 'chartularylaw10.GuardNumbers'. -/
def guardNumbersUptoCard : Claim7 := { stood := { row := guardNumbersUptoRow, standIns := [], harness := (true, "ae9b0a439b0a5404ad98b3153aeeb8a49eb39057744bb3fa540733c81279e849"), looks := false }, kinds := [], alts := [], laidByText := true, laidKinds := [.data, .pinned], laidTests := true, laidLooks := .later }
def GuardNumbersUptoCardSaid : Prop := Claim7.holds Tryd.pinned (.plain (OpenSpec.upto guardNumbersSpec)) guardNumbersUptoCard

/-- THE SECOND FORM's CARD OF 'chartularylaw10.GuardWhole'. -/
def guardWholeUptoCard : Claim7 := { stood := { row := guardWholeUptoRow, standIns := [], harness := (true, "ae9b0a439b0a5404ad98b3153aeeb8a49eb39057744bb3fa540733c81279e849"), looks := false }, kinds := [], alts := [], laidByText := true, laidKinds := [.data, .pinned], laidTests := true, laidLooks := .later }
def GuardWholeUptoCardSaid : Prop := Claim7.holds Tryd.pinned (.plain (OpenSpec.upto guardWholeSpec)) guardWholeUptoCard

/-- THE SECOND FORM's CARD OF 'chartularylaw10.GuardNobody'. -/
def guardNobodyUptoCard : Claim7 := { stood := { row := guardNobodyUptoRow, standIns := [], harness := (true, "ae9b0a439b0a5404ad98b3153aeeb8a49eb39057744bb3fa540733c81279e849"), looks := false }, kinds := [], alts := [], laidByText := true, laidKinds := [.data, .pinned], laidTests := true, laidLooks := .later }
def GuardNobodyUptoCardSaid : Prop := Claim7.holds Tryd.pinned (.plain (OpenSpec.upto guardNobodySpec)) guardNobodyUptoCard
end Rows
end Go.Proofs.YtcgdjljfgjoliaaDoor
