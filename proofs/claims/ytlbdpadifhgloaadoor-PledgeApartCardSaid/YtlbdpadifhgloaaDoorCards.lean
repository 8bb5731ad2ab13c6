/-
  DERIVED. GIVEN WITH THE SEED: THE CARDS: each row of YtlbdpadifhgloaaDoorRows.lean that lists a variable, with what it lists TIED to the program's text (the seventh form; the later family's looks); each row that meets fmt, with fmt's text TOLD by the authors' own Lean function (tested against real Go, not proved from fmt's source: count such statements apart). THE CARD IS WHAT COUNTS. Prove the row's statement (the work); the ties are given (YtlbdpadifhgloaaDoorTie.lean); close each card by the builder's one call (the guide's Derived/Test/ToyasCard.lean, 'card_holds'). Laid BY PROGRAM, IN A SANDBOX (cutbox-door.mjs). By AI agents, Wed Nov 11 2026. No macro, syntax, notation, axiom, sorry.
-/
import Derived.Test.YtlbdpadifhgloaaDoorRows
import GoSem.ClaimSeven
namespace Go.Proofs.YtlbdpadifhgloaaDoor
namespace Rows

/-- THE TIED CARD OF 'chartularylaw06.PledgeSums'. -/
def pledgeSumsCard : Claim7 := { stood := { row := pledgeSumsRow, standIns := [], harness := (true, "1d3984e0b0a56a6e1b1bcc66a7d559271c767012d0e3988fd213150214fccffb"), looks := false }, kinds := [], alts := [], laidByText := true, laidKinds := [.data, .data], laidTests := true, laidLooks := .later }
def PledgeSumsCardSaid : Prop := Claim7.holds Tryd.pinned (.plain (OpenSpec.ofChange pledgeSumsSpec)) pledgeSumsCard

/-- THE TIED CARD OF 'chartularylaw06.PledgeKeys'. -/
def pledgeKeysCard : Claim7 := { stood := { row := pledgeKeysRow, standIns := [], harness := (true, "1d3984e0b0a56a6e1b1bcc66a7d559271c767012d0e3988fd213150214fccffb"), looks := false }, kinds := [], alts := [], laidByText := true, laidKinds := [.data, .data], laidTests := true, laidLooks := .later }
def PledgeKeysCardSaid : Prop := Claim7.holds Tryd.pinned (.plain (OpenSpec.ofChange pledgeKeysSpec)) pledgeKeysCard

/-- THE TIED CARD OF 'chartularylaw06.PledgeShuts'. -/
def pledgeShutsCard : Claim7 := { stood := { row := pledgeShutsRow, standIns := [], harness := (true, "1d3984e0b0a56a6e1b1bcc66a7d559271c767012d0e3988fd213150214fccffb"), looks := false }, kinds := [], alts := [], laidByText := true, laidKinds := [.data, .data], laidTests := true, laidLooks := .later }
def PledgeShutsCardSaid : Prop := Claim7.holds Tryd.pinned (.plain (OpenSpec.ofChange pledgeShutsSpec)) pledgeShutsCard

/-- THE TIED CARD OF 'chartularylaw06.PledgeSlips'. -/
def pledgeSlipsCard : Claim7 := { stood := { row := pledgeSlipsRow, standIns := [], harness := (true, "1d3984e0b0a56a6e1b1bcc66a7d559271c767012d0e3988fd213150214fccffb"), looks := false }, kinds := [], alts := [], laidByText := true, laidKinds := [.data, .data], laidTests := true, laidLooks := .later }
def PledgeSlipsCardSaid : Prop := Claim7.holds Tryd.pinned (.plain (OpenSpec.ofChange pledgeSlipsSpec)) pledgeSlipsCard

/-- THE TIED CARD OF 'chartularylaw06.PledgeKepts'. -/
def pledgeKeptsCard : Claim7 := { stood := { row := pledgeKeptsRow, standIns := [], harness := (true, "1d3984e0b0a56a6e1b1bcc66a7d559271c767012d0e3988fd213150214fccffb"), looks := false }, kinds := [], alts := [], laidByText := true, laidKinds := [.data, .data], laidTests := true, laidLooks := .later }
def PledgeKeptsCardSaid : Prop := Claim7.holds Tryd.pinned (.plain (OpenSpec.ofChange pledgeKeptsSpec)) pledgeKeptsCard

/-- THE TIED CARD OF 'chartularylaw06.PledgeApart'. -/
def pledgeApartCard : Claim7 := { stood := { row := pledgeApartRow, standIns := [], harness := (true, "1d3984e0b0a56a6e1b1bcc66a7d559271c767012d0e3988fd213150214fccffb"), looks := false }, kinds := [], alts := [], laidByText := true, laidKinds := [.data, .data], laidTests := true, laidLooks := .later }
def PledgeApartCardSaid : Prop := Claim7.holds Tryd.pinned (.plain (OpenSpec.ofChange pledgeApartSpec)) pledgeApartCard

/-- THE TIED CARD OF 'chartularylaw06.PledgeNobody'. -/
def pledgeNobodyCard : Claim7 := { stood := { row := pledgeNobodyRow, standIns := [], harness := (true, "1d3984e0b0a56a6e1b1bcc66a7d559271c767012d0e3988fd213150214fccffb"), looks := false }, kinds := [], alts := [], laidByText := true, laidKinds := [.data, .data], laidTests := true, laidLooks := .later }
def PledgeNobodyCardSaid : Prop := Claim7.holds Tryd.pinned (.plain (OpenSpec.ofChange pledgeNobodySpec)) pledgeNobodyCard

/-- THE SECOND FORM's CARD OF 'chartularylaw06.PledgeSums'. -/
def pledgeSumsUptoCard : Claim7 := { stood := { row := pledgeSumsUptoRow, standIns := [], harness := (true, "1d3984e0b0a56a6e1b1bcc66a7d559271c767012d0e3988fd213150214fccffb"), looks := false }, kinds := [], alts := [], laidByText := true, laidKinds := [.data, .data], laidTests := true, laidLooks := .later }
def PledgeSumsUptoCardSaid : Prop := Claim7.holds Tryd.pinned (.plain (OpenSpec.upto pledgeSumsSpec)) pledgeSumsUptoCard

/-- THE SECOND FORM's CARD OF 'chartularylaw06.PledgeKeys'. -/
def pledgeKeysUptoCard : Claim7 := { stood := { row := pledgeKeysUptoRow, standIns := [], harness := (true, "1d3984e0b0a56a6e1b1bcc66a7d559271c767012d0e3988fd213150214fccffb"), looks := false }, kinds := [], alts := [], laidByText := true, laidKinds := [.data, .data], laidTests := true, laidLooks := .later }
def PledgeKeysUptoCardSaid : Prop := Claim7.holds Tryd.pinned (.plain (OpenSpec.upto pledgeKeysSpec)) pledgeKeysUptoCard

/-- THE SECOND FORM's CARD OF 'chartularylaw06.PledgeShuts'. -/
def pledgeShutsUptoCard : Claim7 := { stood := { row := pledgeShutsUptoRow, standIns := [], harness := (true, "1d3984e0b0a56a6e1b1bcc66a7d559271c767012d0e3988fd213150214fccffb"), looks := false }, kinds := [], alts := [], laidByText := true, laidKinds := [.data, .data], laidTests := true, laidLooks := .later }
def PledgeShutsUptoCardSaid : Prop := Claim7.holds Tryd.pinned (.plain (OpenSpec.upto pledgeShutsSpec)) pledgeShutsUptoCard

/-- THE SECOND FORM's CARD OF 'chartularylaw06.PledgeSlips'. -/
def pledgeSlipsUptoCard : Claim7 := { stood := { row := pledgeSlipsUptoRow, standIns := [], harness := (true, "1d3984e0b0a56a6e1b1bcc66a7d559271c767012d0e3988fd213150214fccffb"), looks := false }, kinds := [], alts := [], laidByText := true, laidKinds := [.data, .data], laidTests := true, laidLooks := .later }
def PledgeSlipsUptoCardSaid : Prop := Claim7.holds Tryd.pinned (.plain (OpenSpec.upto pledgeSlipsSpec)) pledgeSlipsUptoCard

/-- THE SECOND FORM's CARD OF 'chartularylaw06.PledgeKepts'. -/
def pledgeKeptsUptoCard : Claim7 := { stood := { row := pledgeKeptsUptoRow, standIns := [], harness := (true, "1d3984e0b0a56a6e1b1bcc66a7d559271c767012d0e3988fd213150214fccffb"), looks := false }, kinds := [], alts := [], laidByText := true, laidKinds := [.data, .data], laidTests := true, laidLooks := .later }
def PledgeKeptsUptoCardSaid : Prop := Claim7.holds Tryd.pinned (.plain (OpenSpec.upto pledgeKeptsSpec)) pledgeKeptsUptoCard

/-- THE SECOND FORM's CARD OF 'chartularylaw06.PledgeApart'. -/
def pledgeApartUptoCard : Claim7 := { stood := { row := pledgeApartUptoRow, standIns := [], harness := (true, "1d3984e0b0a56a6e1b1bcc66a7d559271c767012d0e3988fd213150214fccffb"), looks := false }, kinds := [], alts := [], laidByText := true, laidKinds := [.data, .data], laidTests := true, laidLooks := .later }
def PledgeApartUptoCardSaid : Prop := Claim7.holds Tryd.pinned (.plain (OpenSpec.upto pledgeApartSpec)) pledgeApartUptoCard

/-- THE SECOND FORM's CARD OF 'chartularylaw06.PledgeNobody'. -/
def pledgeNobodyUptoCard : Claim7 := { stood := { row := pledgeNobodyUptoRow, standIns := [], harness := (true, "1d3984e0b0a56a6e1b1bcc66a7d559271c767012d0e3988fd213150214fccffb"), looks := false }, kinds := [], alts := [], laidByText := true, laidKinds := [.data, .data], laidTests := true, laidLooks := .later }
def PledgeNobodyUptoCardSaid : Prop := Claim7.holds Tryd.pinned (.plain (OpenSpec.upto pledgeNobodySpec)) pledgeNobodyUptoCard
end Rows
end Go.Proofs.YtlbdpadifhgloaaDoor
