/-
  NARROWER THAN 'FOR EVERY INPUT', by the rows' own cells (each row's printed sentence says how): KeyringPlays: laid · KeyringNews: laid · KeyringShreds: laid · KeyringNobody: laid.
  DERIVED. THE GIVEN ROWS OF THIS SEAT. 4 by the template 'for every input the law returns true; each argument reads behind the call as it read before'; 0 by the template 'total and deterministic' (their statements: YthadcmbbdggneaaGreatDoorTotals.lean).
  GIVEN WITH THE SEED: the statements are not yours to turn. If you find one false, say at which input.
  Laid BY PROGRAM, IN A SANDBOX (cutbox-rows.mjs): the forced cells as the released guide's own fill.sh prints them over the translation c5971385fe70ad02… (all of the seat's roots in one cut). By AI agents, Wed Nov 11 2026. No macro, syntax, notation, axiom, sorry.
-/
import Derived.Test.YthadcmbbdggneaaGreatDoorChecked
import GoSem.PinnedTables
import GoSem.Claim
import GoSem.ClaimJoined
import GoSem.ClaimMapViews
import Derived.JoinedTies
import Derived.KernelRfl
namespace Go.Proofs.YthadcmbbdggneaaGreatDoor
/- THE CELL 'sum', in the pinned program and in every row, IS THE sha256 OF THE DUMP (.gsa) THAT YthadcmbbdggneaaGreatDoorProg.lean LOADS. Nothing in Lean hashes anything: it is a label: what it is worth is what the hold of that sum in a sandbox is worth. -/
noncomputable def Tryz.pinned : Pinned := { name := "ythadcmbbdggneaagreatdoor", sum := "c5971385fe70ad02c276ea63220434dba05c0400511d132f40bf528c9650de59", checked := Tryz.checked }
namespace Rows
def none {H : Type} : Left H := { results := [], args := [] }

/- WHAT THE LISTED PACKAGE-LEVEL VARIABLES READ AS WHEN THE CALL BEGINS. Each datum BY PROGRAM (the guide's laid-datum.mjs) off the statement by which the dump's own 'gosem.cut.vars' lays the variable. In a bare row this is a premise. The card (YthadcmbbdggneaaGreatDoorCards.lean) ties it to the program's text. -/
def laid_unicode_utf8_acceptRanges {H : Type} : DataW H := .agg [.agg [.lit (.int .u8 128), .lit (.int .u8 191)], .agg [.lit (.int .u8 160), .lit (.int .u8 191)], .agg [.lit (.int .u8 128), .lit (.int .u8 159)], .agg [.lit (.int .u8 144), .lit (.int .u8 191)], .agg [.lit (.int .u8 128), .lit (.int .u8 143)], .agg [.lit (.int .u8 0), .lit (.int .u8 0)], .agg [.lit (.int .u8 0), .lit (.int .u8 0)], .agg [.lit (.int .u8 0), .lit (.int .u8 0)], .agg [.lit (.int .u8 0), .lit (.int .u8 0)], .agg [.lit (.int .u8 0), .lit (.int .u8 0)], .agg [.lit (.int .u8 0), .lit (.int .u8 0)], .agg [.lit (.int .u8 0), .lit (.int .u8 0)], .agg [.lit (.int .u8 0), .lit (.int .u8 0)], .agg [.lit (.int .u8 0), .lit (.int .u8 0)], .agg [.lit (.int .u8 0), .lit (.int .u8 0)], .agg [.lit (.int .u8 0), .lit (.int .u8 0)]]
/-- One of Go's own tables, pinned by name: the form's constant. -/
def laid_unicode_utf8_first : DataW Unit := Go.Pinned.utf8First

/-- 'chartularylaw13.KeyringPlays': WHATEVER THE INPUT: true; the input reads as it did. -/
def keyringPlaysSpec : ChangeSpec := { name := "keyringPlays", fn := fun _ => fun
  | [d] => { results := [.lit (.bool true)], args := [d] }
  | _ => none }
def keyringPlaysRow : OpenClaim := { program := "ythadcmbbdggneaagreatdoor", sum := "c5971385fe70ad02c276ea63220434dba05c0400511d132f40bf528c9650de59", func := "chartulary/chartularylaw13.KeyringPlays", spec := "keyringPlays", inPlace := ["internal/bytealg.IndexByteString", "internal/bytealg.IndexString", "internal/abi.NoEscape", "internal/bytealg.MakeNoZero"], unfollowed := true, recurses := true, named := ["unicode/utf8.first", "unicode/utf8.acceptRanges", "internal/bytealg.MaxLen"], apart := false, laid := [("unicode/utf8.acceptRanges", laid_unicode_utf8_acceptRanges), ("unicode/utf8.first", laid_unicode_utf8_first)] }
def KeyringPlaysSaid : Prop := keyringPlaysRow.holds Tryz.pinned (OpenSpec.ofChange keyringPlaysSpec)

/-- ITS FALSE NEIGHBOUR: 'it returns false'. Refute it at one input. -/
def keyringPlaysWrong : ChangeSpec := { name := "keyringPlays", fn := fun _ => fun
  | [d] => { results := [.lit (.bool false)], args := [d] }
  | _ => none }
def KeyringPlaysWrongFalsely : Prop := keyringPlaysRow.holds Tryz.pinned (OpenSpec.ofChange keyringPlaysWrong)

/-- 'chartularylaw13.KeyringNews': WHATEVER THE INPUT: true; the input reads as it did. -/
def keyringNewsSpec : ChangeSpec := { name := "keyringNews", fn := fun _ => fun
  | [d1, d2, d3] => { results := [.lit (.bool true)], args := [d1, d2, d3] }
  | _ => none }
def keyringNewsRow : OpenClaim := { program := "ythadcmbbdggneaagreatdoor", sum := "c5971385fe70ad02c276ea63220434dba05c0400511d132f40bf528c9650de59", func := "chartulary/chartularylaw13.KeyringNews", spec := "keyringNews", inPlace := ["internal/bytealg.IndexByteString", "internal/bytealg.IndexString", "internal/abi.NoEscape", "internal/bytealg.MakeNoZero"], unfollowed := true, recurses := true, named := ["unicode/utf8.first", "unicode/utf8.acceptRanges", "internal/bytealg.MaxLen"], apart := false, laid := [("unicode/utf8.acceptRanges", laid_unicode_utf8_acceptRanges), ("unicode/utf8.first", laid_unicode_utf8_first)] }
def KeyringNewsSaid : Prop := keyringNewsRow.holds Tryz.pinned (OpenSpec.ofChange keyringNewsSpec)

/-- ITS FALSE NEIGHBOUR: 'it returns false'. Refute it at one input. -/
def keyringNewsWrong : ChangeSpec := { name := "keyringNews", fn := fun _ => fun
  | [d1, d2, d3] => { results := [.lit (.bool false)], args := [d1, d2, d3] }
  | _ => none }
def KeyringNewsWrongFalsely : Prop := keyringNewsRow.holds Tryz.pinned (OpenSpec.ofChange keyringNewsWrong)

/-- 'chartularylaw13.KeyringShreds': WHATEVER THE INPUT: true; the input reads as it did. -/
def keyringShredsSpec : ChangeSpec := { name := "keyringShreds", fn := fun _ => fun
  | [d1, d2, d3, d4] => { results := [.lit (.bool true)], args := [d1, d2, d3, d4] }
  | _ => none }
def keyringShredsRow : OpenClaim := { program := "ythadcmbbdggneaagreatdoor", sum := "c5971385fe70ad02c276ea63220434dba05c0400511d132f40bf528c9650de59", func := "chartulary/chartularylaw13.KeyringShreds", spec := "keyringShreds", inPlace := ["internal/bytealg.IndexByteString", "internal/bytealg.IndexString", "internal/abi.NoEscape", "internal/bytealg.MakeNoZero"], unfollowed := true, recurses := true, named := ["unicode/utf8.first", "unicode/utf8.acceptRanges", "internal/bytealg.MaxLen"], apart := false, laid := [("unicode/utf8.acceptRanges", laid_unicode_utf8_acceptRanges), ("unicode/utf8.first", laid_unicode_utf8_first)] }
def KeyringShredsSaid : Prop := keyringShredsRow.holds Tryz.pinned (OpenSpec.ofChange keyringShredsSpec)

/-- ITS FALSE NEIGHBOUR: 'it returns false'. Refute it at one input. -/
def keyringShredsWrong : ChangeSpec := { name := "keyringShreds", fn := fun _ => fun
  | [d1, d2, d3, d4] => { results := [.lit (.bool false)], args := [d1, d2, d3, d4] }
  | _ => none }
def KeyringShredsWrongFalsely : Prop := keyringShredsRow.holds Tryz.pinned (OpenSpec.ofChange keyringShredsWrong)

/-- 'chartularylaw13.KeyringNobody': WHATEVER THE INPUT: true; the input reads as it did. -/
def keyringNobodySpec : ChangeSpec := { name := "keyringNobody", fn := fun _ => fun
  | [d] => { results := [.lit (.bool true)], args := [d] }
  | _ => none }
def keyringNobodyRow : OpenClaim := { program := "ythadcmbbdggneaagreatdoor", sum := "c5971385fe70ad02c276ea63220434dba05c0400511d132f40bf528c9650de59", func := "chartulary/chartularylaw13.KeyringNobody", spec := "keyringNobody", inPlace := ["internal/bytealg.IndexByteString", "internal/bytealg.IndexString", "internal/abi.NoEscape", "internal/bytealg.MakeNoZero"], unfollowed := true, recurses := true, named := ["unicode/utf8.first", "unicode/utf8.acceptRanges", "internal/bytealg.MaxLen"], apart := false, laid := [("unicode/utf8.acceptRanges", laid_unicode_utf8_acceptRanges), ("unicode/utf8.first", laid_unicode_utf8_first)] }
def KeyringNobodySaid : Prop := keyringNobodyRow.holds Tryz.pinned (OpenSpec.ofChange keyringNobodySpec)

/-- ITS FALSE NEIGHBOUR: 'it returns false'. Refute it at one input. -/
def keyringNobodyWrong : ChangeSpec := { name := "keyringNobody", fn := fun _ => fun
  | [d] => { results := [.lit (.bool false)], args := [d] }
  | _ => none }
def KeyringNobodyWrongFalsely : Prop := keyringNobodyRow.holds Tryz.pinned (OpenSpec.ofChange keyringNobodyWrong)

/- THE SECOND FORM. 'bulk': how many values and letters a reading holds, each counted each time it is reached (what is shared counts as often as it is met; a slice's spare places count too). A statement '..UptoSaid' is the law's where the arguments, and the package variables that the reading takes, are together of bulk at most 1048576: NARROWER than '..Said'. Prove '..Said' where nothing that the law and all that it calls make is longer than what came in: it says more and counts as full. Else prove '..UptoSaid'. A law counts once. -/
mutual
def uptoBulk {H : Type} : DataW H → Nat
  | .lit (.string bytes) => bytes.length + 1
  | .lit _ => 1
  | .nil => 1
  | .ptr d => uptoBulk d + 1
  | .slice elems spare => uptoBulkAll elems + uptoBulkAll spare + 1
  | .agg parts => uptoBulkAll parts + 1
  | .iface _ d => uptoBulk d + 1
  | .map entries => uptoBulkEntries entries + 1
  | .held _ => 1
def uptoBulkAll {H : Type} : List (DataW H) → Nat
  | [] => 0
  | d :: r => uptoBulk d + uptoBulkAll r
def uptoBulkEntries {H : Type} : List (Lit × DataW H) → Nat
  | [] => 0
  | x :: r => uptoBulkEntry x + uptoBulkEntries r
def uptoBulkEntry {H : Type} : Lit × DataW H → Nat
  | (.string bytes, d) => bytes.length + uptoBulk d + 1
  | (_, d) => uptoBulk d + 1
 end
def uptoSmall : (H : Type) → List (DataW H) → Bool := fun _ ds => decide (uptoBulkAll ds ≤ 1048576)
def OpenSpec.upto (s : _root_.Go.ChangeSpec) : _root_.Go.OpenSpec := { _root_.Go.OpenSpec.ofChange s with cond := some uptoSmall }

/-- 'chartularylaw13.KeyringPlays', WHERE WHAT IT READS IS OF BULK AT MOST 1048576: true; the input reads as it did. -/
def keyringPlaysUptoRow : OpenClaim := { program := "ythadcmbbdggneaagreatdoor", sum := "c5971385fe70ad02c276ea63220434dba05c0400511d132f40bf528c9650de59", func := "chartulary/chartularylaw13.KeyringPlays", spec := "keyringPlays", inPlace := ["internal/bytealg.IndexByteString", "internal/bytealg.IndexString", "internal/abi.NoEscape", "internal/bytealg.MakeNoZero"], unfollowed := true, recurses := true, named := ["unicode/utf8.first", "unicode/utf8.acceptRanges", "internal/bytealg.MaxLen"], apart := false, laid := [("unicode/utf8.acceptRanges", laid_unicode_utf8_acceptRanges), ("unicode/utf8.first", laid_unicode_utf8_first)], narrowed := true }
def KeyringPlaysUptoSaid : Prop := keyringPlaysUptoRow.holds Tryz.pinned (OpenSpec.upto keyringPlaysSpec)

/-- 'chartularylaw13.KeyringNews', WHERE WHAT IT READS IS OF BULK AT MOST 1048576: true; the input reads as it did. -/
def keyringNewsUptoRow : OpenClaim := { program := "ythadcmbbdggneaagreatdoor", sum := "c5971385fe70ad02c276ea63220434dba05c0400511d132f40bf528c9650de59", func := "chartulary/chartularylaw13.KeyringNews", spec := "keyringNews", inPlace := ["internal/bytealg.IndexByteString", "internal/bytealg.IndexString", "internal/abi.NoEscape", "internal/bytealg.MakeNoZero"], unfollowed := true, recurses := true, named := ["unicode/utf8.first", "unicode/utf8.acceptRanges", "internal/bytealg.MaxLen"], apart := false, laid := [("unicode/utf8.acceptRanges", laid_unicode_utf8_acceptRanges), ("unicode/utf8.first", laid_unicode_utf8_first)], narrowed := true }
def KeyringNewsUptoSaid : Prop := keyringNewsUptoRow.holds Tryz.pinned (OpenSpec.upto keyringNewsSpec)

/-- 'chartularylaw13.KeyringShreds', WHERE WHAT IT READS IS OF BULK AT MOST 1048576: true; the input reads as it did. -/
def keyringShredsUptoRow : OpenClaim := { program := "ythadcmbbdggneaagreatdoor", sum := "c5971385fe70ad02c276ea63220434dba05c0400511d132f40bf528c9650de59", func := "chartulary/chartularylaw13.KeyringShreds", spec := "keyringShreds", inPlace := ["internal/bytealg.IndexByteString", "internal/bytealg.IndexString", "internal/abi.NoEscape", "internal/bytealg.MakeNoZero"], unfollowed := true, recurses := true, named := ["unicode/utf8.first", "unicode/utf8.acceptRanges", "internal/bytealg.MaxLen"], apart := false, laid := [("unicode/utf8.acceptRanges", laid_unicode_utf8_acceptRanges), ("unicode/utf8.first", laid_unicode_utf8_first)], narrowed := true }
def KeyringShredsUptoSaid : Prop := keyringShredsUptoRow.holds Tryz.pinned (OpenSpec.upto keyringShredsSpec)

/-- 'chartularylaw13.KeyringNobody', WHERE WHAT IT READS IS OF BULK AT MOST 1048576: true; the input reads as it did. -/
def keyringNobodyUptoRow : OpenClaim := { program := "ythadcmbbdggneaagreatdoor", sum := "c5971385fe70ad02c276ea63220434dba05c0400511d132f40bf528c9650de59", func := "chartulary/chartularylaw13.KeyringNobody", spec := "keyringNobody", inPlace := ["internal/bytealg.IndexByteString", "internal/bytealg.IndexString", "internal/abi.NoEscape", "internal/bytealg.MakeNoZero"], unfollowed := true, recurses := true, named := ["unicode/utf8.first", "unicode/utf8.acceptRanges", "internal/bytealg.MaxLen"], apart := false, laid := [("unicode/utf8.acceptRanges", laid_unicode_utf8_acceptRanges), ("unicode/utf8.first", laid_unicode_utf8_first)], narrowed := true }
def KeyringNobodyUptoSaid : Prop := keyringNobodyUptoRow.holds Tryz.pinned (OpenSpec.upto keyringNobodySpec)

end Rows
end Go.Proofs.YthadcmbbdggneaaGreatDoor
