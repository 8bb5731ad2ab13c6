/-
  NARROWER THAN 'FOR EVERY INPUT', by the rows' own cells (each row's printed sentence says how): PledgeSums: laid · PledgeKeys: laid · PledgeShuts: laid · PledgeSlips: laid · PledgeKepts: laid · PledgeApart: laid · PledgeNobody: laid.
  DERIVED. THE GIVEN ROWS OF THIS SEAT. 7 by the template 'for every input the law returns true; each argument reads behind the call as it read before'; 0 by the template 'total and deterministic' (their statements: YtlbdpadifhgloaaDoorTotals.lean).
  GIVEN WITH THE SEED: the statements are not yours to turn. If you find one false, say at which input.
  Laid BY PROGRAM, IN A SANDBOX (cutbox-rows.mjs): the forced cells as the released guide's own fill.sh prints them over the translation 38956f6fefba4c9b… (all of the seat's roots in one cut). By AI agents, Wed Nov 11 2026. No macro, syntax, notation, axiom, sorry.
-/
import Derived.Test.YtlbdpadifhgloaaDoorChecked
import GoSem.Claim
import GoSem.ClaimJoined
import GoSem.ClaimMapViews
import Derived.JoinedTies
import Derived.KernelRfl
namespace Go.Proofs.YtlbdpadifhgloaaDoor
/- THE CELL 'sum', in the pinned program and in every row, IS THE sha256 OF THE DUMP (.gsa) THAT YtlbdpadifhgloaaDoorProg.lean LOADS. Nothing in Lean hashes anything: it is a label: what it is worth is what the hold of that sum in a sandbox is worth. -/
noncomputable def Tryd.pinned : Pinned := { name := "ytlbdpadifhgloaadoor", sum := "38956f6fefba4c9b3001beacbe234c16f0139c6468a2315bdf982c4d85970b36", checked := Tryd.checked }
namespace Rows
def none {H : Type} : Left H := { results := [], args := [] }

/- WHAT THE LISTED PACKAGE-LEVEL VARIABLES READ AS WHEN THE CALL BEGINS. Each datum BY PROGRAM (the guide's laid-datum.mjs) off the statement by which the dump's own 'gosem.cut.vars' lays the variable. In a bare row this is a premise. The card (YtlbdpadifhgloaaDoorCards.lean) ties it to the program's text. -/
def laid_chartulary_sha_initial {H : Type} : DataW H := .agg [.lit (.int .u32 1779033703), .lit (.int .u32 3144134277), .lit (.int .u32 1013904242), .lit (.int .u32 2773480762), .lit (.int .u32 1359893119), .lit (.int .u32 2600822924), .lit (.int .u32 528734635), .lit (.int .u32 1541459225)]
def laid_chartulary_sha_added {H : Type} : DataW H := .agg [.lit (.int .u32 1116352408), .lit (.int .u32 1899447441), .lit (.int .u32 3049323471), .lit (.int .u32 3921009573), .lit (.int .u32 961987163), .lit (.int .u32 1508970993), .lit (.int .u32 2453635748), .lit (.int .u32 2870763221), .lit (.int .u32 3624381080), .lit (.int .u32 310598401), .lit (.int .u32 607225278), .lit (.int .u32 1426881987), .lit (.int .u32 1925078388), .lit (.int .u32 2162078206), .lit (.int .u32 2614888103), .lit (.int .u32 3248222580), .lit (.int .u32 3835390401), .lit (.int .u32 4022224774), .lit (.int .u32 264347078), .lit (.int .u32 604807628), .lit (.int .u32 770255983), .lit (.int .u32 1249150122), .lit (.int .u32 1555081692), .lit (.int .u32 1996064986), .lit (.int .u32 2554220882), .lit (.int .u32 2821834349), .lit (.int .u32 2952996808), .lit (.int .u32 3210313671), .lit (.int .u32 3336571891), .lit (.int .u32 3584528711), .lit (.int .u32 113926993), .lit (.int .u32 338241895), .lit (.int .u32 666307205), .lit (.int .u32 773529912), .lit (.int .u32 1294757372), .lit (.int .u32 1396182291), .lit (.int .u32 1695183700), .lit (.int .u32 1986661051), .lit (.int .u32 2177026350), .lit (.int .u32 2456956037), .lit (.int .u32 2730485921), .lit (.int .u32 2820302411), .lit (.int .u32 3259730800), .lit (.int .u32 3345764771), .lit (.int .u32 3516065817), .lit (.int .u32 3600352804), .lit (.int .u32 4094571909), .lit (.int .u32 275423344), .lit (.int .u32 430227734), .lit (.int .u32 506948616), .lit (.int .u32 659060556), .lit (.int .u32 883997877), .lit (.int .u32 958139571), .lit (.int .u32 1322822218), .lit (.int .u32 1537002063), .lit (.int .u32 1747873779), .lit (.int .u32 1955562222), .lit (.int .u32 2024104815), .lit (.int .u32 2227730452), .lit (.int .u32 2361852424), .lit (.int .u32 2428436474), .lit (.int .u32 2756734187), .lit (.int .u32 3204031479), .lit (.int .u32 3329325298)]

/-- 'chartularylaw06.PledgeSums': WHATEVER THE INPUT: true; the input reads as it did. -/
def pledgeSumsSpec : ChangeSpec := { name := "pledgeSums", fn := fun _ => fun
  | [d1, d2, d3, d4] => { results := [.lit (.bool true)], args := [d1, d2, d3, d4] }
  | _ => none }
def pledgeSumsRow : OpenClaim := { program := "ytlbdpadifhgloaadoor", sum := "38956f6fefba4c9b3001beacbe234c16f0139c6468a2315bdf982c4d85970b36", func := "chartulary/chartularylaw06.PledgeSums", spec := "pledgeSums", inPlace := ["internal/abi.NoEscape", "internal/bytealg.MakeNoZero"], named := ["chartulary/sha.initial", "chartulary/sha.added"], plainKeys := false, apart := false, laid := [("chartulary/sha.initial", laid_chartulary_sha_initial), ("chartulary/sha.added", laid_chartulary_sha_added)] }
def PledgeSumsSaid : Prop := pledgeSumsRow.holds Tryd.pinned (OpenSpec.ofChange pledgeSumsSpec)

/-- ITS FALSE NEIGHBOUR: 'it returns false'. Refute it at one input. -/
def pledgeSumsWrong : ChangeSpec := { name := "pledgeSums", fn := fun _ => fun
  | [d1, d2, d3, d4] => { results := [.lit (.bool false)], args := [d1, d2, d3, d4] }
  | _ => none }
def PledgeSumsWrongFalsely : Prop := pledgeSumsRow.holds Tryd.pinned (OpenSpec.ofChange pledgeSumsWrong)

/-- 'chartularylaw06.PledgeKeys': WHATEVER THE INPUT: true; the input reads as it did. -/
def pledgeKeysSpec : ChangeSpec := { name := "pledgeKeys", fn := fun _ => fun
  | [d1, d2] => { results := [.lit (.bool true)], args := [d1, d2] }
  | _ => none }
def pledgeKeysRow : OpenClaim := { program := "ytlbdpadifhgloaadoor", sum := "38956f6fefba4c9b3001beacbe234c16f0139c6468a2315bdf982c4d85970b36", func := "chartulary/chartularylaw06.PledgeKeys", spec := "pledgeKeys", inPlace := ["internal/abi.NoEscape", "internal/bytealg.MakeNoZero"], named := ["chartulary/sha.initial", "chartulary/sha.added"], plainKeys := false, apart := false, laid := [("chartulary/sha.initial", laid_chartulary_sha_initial), ("chartulary/sha.added", laid_chartulary_sha_added)] }
def PledgeKeysSaid : Prop := pledgeKeysRow.holds Tryd.pinned (OpenSpec.ofChange pledgeKeysSpec)

/-- ITS FALSE NEIGHBOUR: 'it returns false'. Refute it at one input. -/
def pledgeKeysWrong : ChangeSpec := { name := "pledgeKeys", fn := fun _ => fun
  | [d1, d2] => { results := [.lit (.bool false)], args := [d1, d2] }
  | _ => none }
def PledgeKeysWrongFalsely : Prop := pledgeKeysRow.holds Tryd.pinned (OpenSpec.ofChange pledgeKeysWrong)

/-- 'chartularylaw06.PledgeShuts': WHATEVER THE INPUT: true; the input reads as it did. -/
def pledgeShutsSpec : ChangeSpec := { name := "pledgeShuts", fn := fun _ => fun
  | [d1, d2, d3, d4] => { results := [.lit (.bool true)], args := [d1, d2, d3, d4] }
  | _ => none }
def pledgeShutsRow : OpenClaim := { program := "ytlbdpadifhgloaadoor", sum := "38956f6fefba4c9b3001beacbe234c16f0139c6468a2315bdf982c4d85970b36", func := "chartulary/chartularylaw06.PledgeShuts", spec := "pledgeShuts", inPlace := ["internal/abi.NoEscape", "internal/bytealg.MakeNoZero"], named := ["chartulary/sha.initial", "chartulary/sha.added"], plainKeys := false, apart := false, laid := [("chartulary/sha.initial", laid_chartulary_sha_initial), ("chartulary/sha.added", laid_chartulary_sha_added)] }
def PledgeShutsSaid : Prop := pledgeShutsRow.holds Tryd.pinned (OpenSpec.ofChange pledgeShutsSpec)

/-- ITS FALSE NEIGHBOUR: 'it returns false'. Refute it at one input. -/
def pledgeShutsWrong : ChangeSpec := { name := "pledgeShuts", fn := fun _ => fun
  | [d1, d2, d3, d4] => { results := [.lit (.bool false)], args := [d1, d2, d3, d4] }
  | _ => none }
def PledgeShutsWrongFalsely : Prop := pledgeShutsRow.holds Tryd.pinned (OpenSpec.ofChange pledgeShutsWrong)

/-- 'chartularylaw06.PledgeSlips': WHATEVER THE INPUT: true; the input reads as it did. -/
def pledgeSlipsSpec : ChangeSpec := { name := "pledgeSlips", fn := fun _ => fun
  | [d1, d2, d3, d4] => { results := [.lit (.bool true)], args := [d1, d2, d3, d4] }
  | _ => none }
def pledgeSlipsRow : OpenClaim := { program := "ytlbdpadifhgloaadoor", sum := "38956f6fefba4c9b3001beacbe234c16f0139c6468a2315bdf982c4d85970b36", func := "chartulary/chartularylaw06.PledgeSlips", spec := "pledgeSlips", inPlace := ["internal/abi.NoEscape", "internal/bytealg.MakeNoZero"], named := ["chartulary/sha.initial", "chartulary/sha.added"], plainKeys := false, apart := false, laid := [("chartulary/sha.initial", laid_chartulary_sha_initial), ("chartulary/sha.added", laid_chartulary_sha_added)] }
def PledgeSlipsSaid : Prop := pledgeSlipsRow.holds Tryd.pinned (OpenSpec.ofChange pledgeSlipsSpec)

/-- ITS FALSE NEIGHBOUR: 'it returns false'. Refute it at one input. -/
def pledgeSlipsWrong : ChangeSpec := { name := "pledgeSlips", fn := fun _ => fun
  | [d1, d2, d3, d4] => { results := [.lit (.bool false)], args := [d1, d2, d3, d4] }
  | _ => none }
def PledgeSlipsWrongFalsely : Prop := pledgeSlipsRow.holds Tryd.pinned (OpenSpec.ofChange pledgeSlipsWrong)

/-- 'chartularylaw06.PledgeKepts': WHATEVER THE INPUT: true; the input reads as it did. -/
def pledgeKeptsSpec : ChangeSpec := { name := "pledgeKepts", fn := fun _ => fun
  | [d1, d2, d3] => { results := [.lit (.bool true)], args := [d1, d2, d3] }
  | _ => none }
def pledgeKeptsRow : OpenClaim := { program := "ytlbdpadifhgloaadoor", sum := "38956f6fefba4c9b3001beacbe234c16f0139c6468a2315bdf982c4d85970b36", func := "chartulary/chartularylaw06.PledgeKepts", spec := "pledgeKepts", inPlace := ["internal/abi.NoEscape", "internal/bytealg.MakeNoZero"], named := ["chartulary/sha.initial", "chartulary/sha.added"], plainKeys := false, apart := false, laid := [("chartulary/sha.initial", laid_chartulary_sha_initial), ("chartulary/sha.added", laid_chartulary_sha_added)] }
def PledgeKeptsSaid : Prop := pledgeKeptsRow.holds Tryd.pinned (OpenSpec.ofChange pledgeKeptsSpec)

/-- ITS FALSE NEIGHBOUR: 'it returns false'. Refute it at one input. -/
def pledgeKeptsWrong : ChangeSpec := { name := "pledgeKepts", fn := fun _ => fun
  | [d1, d2, d3] => { results := [.lit (.bool false)], args := [d1, d2, d3] }
  | _ => none }
def PledgeKeptsWrongFalsely : Prop := pledgeKeptsRow.holds Tryd.pinned (OpenSpec.ofChange pledgeKeptsWrong)

/-- 'chartularylaw06.PledgeApart': WHATEVER THE INPUT: true; the input reads as it did. -/
def pledgeApartSpec : ChangeSpec := { name := "pledgeApart", fn := fun _ => fun
  | [d1, d2, d3] => { results := [.lit (.bool true)], args := [d1, d2, d3] }
  | _ => none }
def pledgeApartRow : OpenClaim := { program := "ytlbdpadifhgloaadoor", sum := "38956f6fefba4c9b3001beacbe234c16f0139c6468a2315bdf982c4d85970b36", func := "chartulary/chartularylaw06.PledgeApart", spec := "pledgeApart", inPlace := ["internal/abi.NoEscape", "internal/bytealg.MakeNoZero"], named := ["chartulary/sha.initial", "chartulary/sha.added"], plainKeys := false, apart := false, laid := [("chartulary/sha.initial", laid_chartulary_sha_initial), ("chartulary/sha.added", laid_chartulary_sha_added)] }
def PledgeApartSaid : Prop := pledgeApartRow.holds Tryd.pinned (OpenSpec.ofChange pledgeApartSpec)

/-- ITS FALSE NEIGHBOUR: 'it returns false'. Refute it at one input. -/
def pledgeApartWrong : ChangeSpec := { name := "pledgeApart", fn := fun _ => fun
  | [d1, d2, d3] => { results := [.lit (.bool false)], args := [d1, d2, d3] }
  | _ => none }
def PledgeApartWrongFalsely : Prop := pledgeApartRow.holds Tryd.pinned (OpenSpec.ofChange pledgeApartWrong)

/-- 'chartularylaw06.PledgeNobody': WHATEVER THE INPUT: true; the input reads as it did. -/
def pledgeNobodySpec : ChangeSpec := { name := "pledgeNobody", fn := fun _ => fun
  | [d] => { results := [.lit (.bool true)], args := [d] }
  | _ => none }
def pledgeNobodyRow : OpenClaim := { program := "ytlbdpadifhgloaadoor", sum := "38956f6fefba4c9b3001beacbe234c16f0139c6468a2315bdf982c4d85970b36", func := "chartulary/chartularylaw06.PledgeNobody", spec := "pledgeNobody", inPlace := ["internal/abi.NoEscape", "internal/bytealg.MakeNoZero"], named := ["chartulary/sha.initial", "chartulary/sha.added"], plainKeys := false, apart := false, laid := [("chartulary/sha.initial", laid_chartulary_sha_initial), ("chartulary/sha.added", laid_chartulary_sha_added)] }
def PledgeNobodySaid : Prop := pledgeNobodyRow.holds Tryd.pinned (OpenSpec.ofChange pledgeNobodySpec)

/-- ITS FALSE NEIGHBOUR: 'it returns false'. Refute it at one input. -/
def pledgeNobodyWrong : ChangeSpec := { name := "pledgeNobody", fn := fun _ => fun
  | [d] => { results := [.lit (.bool false)], args := [d] }
  | _ => none }
def PledgeNobodyWrongFalsely : Prop := pledgeNobodyRow.holds Tryd.pinned (OpenSpec.ofChange pledgeNobodyWrong)

/- THE SECOND FORM. 'bulk': how many values and letters a reading holds, each counted each time it is reached (what is shared counts as often as it is met; a slice's spare places count too). A statement '..UptoSaid' is the law's where the arguments, and the package variables that the reading takes, are together of bulk at most 1048576: NARROWER than '..Said'. Prove '..Said' where nothing that the law and all that it calls make is longer than what came in: it says more and counts as full. Else prove '..UptoSaid'. A law counts once. -/
mutual
def uptoBulk {H : Type} : DataW H → Nat
  | .lit (.string bytes) => bytes.length + 1
  | .lit _ => 1
  | .nil => 1
  | .ptr d => uptoBulk d + 1
  | .slice elems spare => uptoBulkAll elems + uptoBulkAll spare + 1
  | .agg parts => uptoBulkAll parts + 1
  | .iface _ d => uptoBulk d + 1
  | .map entries => uptoBulkEntries entries + 1
  | .held _ => 1
def uptoBulkAll {H : Type} : List (DataW H) → Nat
  | [] => 0
  | d :: r => uptoBulk d + uptoBulkAll r
def uptoBulkEntries {H : Type} : List (Lit × DataW H) → Nat
  | [] => 0
  | x :: r => uptoBulkEntry x + uptoBulkEntries r
def uptoBulkEntry {H : Type} : Lit × DataW H → Nat
  | (.string bytes, d) => bytes.length + uptoBulk d + 1
  | (_, d) => uptoBulk d + 1
 end
def uptoSmall : (H : Type) → List (DataW H) → Bool := fun _ ds => decide (uptoBulkAll ds ≤ 1048576)
def OpenSpec.upto (s : _root_.Go.ChangeSpec) : _root_.Go.OpenSpec := { _root_.Go.OpenSpec.ofChange s with cond := some uptoSmall }

/-- 'chartularylaw06.PledgeSums', WHERE WHAT IT READS IS OF BULK AT MOST 1048576: true; the input reads as it did. -/
def pledgeSumsUptoRow : OpenClaim := { program := "ytlbdpadifhgloaadoor", sum := "38956f6fefba4c9b3001beacbe234c16f0139c6468a2315bdf982c4d85970b36", func := "chartulary/chartularylaw06.PledgeSums", spec := "pledgeSums", inPlace := ["internal/abi.NoEscape", "internal/bytealg.MakeNoZero"], named := ["chartulary/sha.initial", "chartulary/sha.added"], plainKeys := false, apart := false, laid := [("chartulary/sha.initial", laid_chartulary_sha_initial), ("chartulary/sha.added", laid_chartulary_sha_added)], narrowed := true }
def PledgeSumsUptoSaid : Prop := pledgeSumsUptoRow.holds Tryd.pinned (OpenSpec.upto pledgeSumsSpec)

/-- 'chartularylaw06.PledgeKeys', WHERE WHAT IT READS IS OF BULK AT MOST 1048576: true; the input reads as it did. -/
def pledgeKeysUptoRow : OpenClaim := { program := "ytlbdpadifhgloaadoor", sum := "38956f6fefba4c9b3001beacbe234c16f0139c6468a2315bdf982c4d85970b36", func := "chartulary/chartularylaw06.PledgeKeys", spec := "pledgeKeys", inPlace := ["internal/abi.NoEscape", "internal/bytealg.MakeNoZero"], named := ["chartulary/sha.initial", "chartulary/sha.added"], plainKeys := false, apart := false, laid := [("chartulary/sha.initial", laid_chartulary_sha_initial), ("chartulary/sha.added", laid_chartulary_sha_added)], narrowed := true }
def PledgeKeysUptoSaid : Prop := pledgeKeysUptoRow.holds Tryd.pinned (OpenSpec.upto pledgeKeysSpec)

/-- 'chartularylaw06.PledgeShuts', WHERE WHAT IT READS IS OF BULK AT MOST 1048576: true; the input reads as it did. -/
def pledgeShutsUptoRow : OpenClaim := { program := "ytlbdpadifhgloaadoor", sum := "38956f6fefba4c9b3001beacbe234c16f0139c6468a2315bdf982c4d85970b36", func := "chartulary/chartularylaw06.PledgeShuts", spec := "pledgeShuts", inPlace := ["internal/abi.NoEscape", "internal/bytealg.MakeNoZero"], named := ["chartulary/sha.initial", "chartulary/sha.added"], plainKeys := false, apart := false, laid := [("chartulary/sha.initial", laid_chartulary_sha_initial), ("chartulary/sha.added", laid_chartulary_sha_added)], narrowed := true }
def PledgeShutsUptoSaid : Prop := pledgeShutsUptoRow.holds Tryd.pinned (OpenSpec.upto pledgeShutsSpec)

/-- 'chartularylaw06.PledgeSlips', WHERE WHAT IT READS IS OF BULK AT MOST 1048576: true; the input reads as it did. -/
def pledgeSlipsUptoRow : OpenClaim := { program := "ytlbdpadifhgloaadoor", sum := "38956f6fefba4c9b3001beacbe234c16f0139c6468a2315bdf982c4d85970b36", func := "chartulary/chartularylaw06.PledgeSlips", spec := "pledgeSlips", inPlace := ["internal/abi.NoEscape", "internal/bytealg.MakeNoZero"], named := ["chartulary/sha.initial", "chartulary/sha.added"], plainKeys := false, apart := false, laid := [("chartulary/sha.initial", laid_chartulary_sha_initial), ("chartulary/sha.added", laid_chartulary_sha_added)], narrowed := true }
def PledgeSlipsUptoSaid : Prop := pledgeSlipsUptoRow.holds Tryd.pinned (OpenSpec.upto pledgeSlipsSpec)

/-- 'chartularylaw06.PledgeKepts', WHERE WHAT IT READS IS OF BULK AT MOST 1048576: true; the input reads as it did. -/
def pledgeKeptsUptoRow : OpenClaim := { program := "ytlbdpadifhgloaadoor", sum := "38956f6fefba4c9b3001beacbe234c16f0139c6468a2315bdf982c4d85970b36", func := "chartulary/chartularylaw06.PledgeKepts", spec := "pledgeKepts", inPlace := ["internal/abi.NoEscape", "internal/bytealg.MakeNoZero"], named := ["chartulary/sha.initial", "chartulary/sha.added"], plainKeys := false, apart := false, laid := [("chartulary/sha.initial", laid_chartulary_sha_initial), ("chartulary/sha.added", laid_chartulary_sha_added)], narrowed := true }
def PledgeKeptsUptoSaid : Prop := pledgeKeptsUptoRow.holds Tryd.pinned (OpenSpec.upto pledgeKeptsSpec)

/-- 'chartularylaw06.PledgeApart', WHERE WHAT IT READS IS OF BULK AT MOST 1048576: true; the input reads as it did. -/
def pledgeApartUptoRow : OpenClaim := { program := "ytlbdpadifhgloaadoor", sum := "38956f6fefba4c9b3001beacbe234c16f0139c6468a2315bdf982c4d85970b36", func := "chartulary/chartularylaw06.PledgeApart", spec := "pledgeApart", inPlace := ["internal/abi.NoEscape", "internal/bytealg.MakeNoZero"], named := ["chartulary/sha.initial", "chartulary/sha.added"], plainKeys := false, apart := false, laid := [("chartulary/sha.initial", laid_chartulary_sha_initial), ("chartulary/sha.added", laid_chartulary_sha_added)], narrowed := true }
def PledgeApartUptoSaid : Prop := pledgeApartUptoRow.holds Tryd.pinned (OpenSpec.upto pledgeApartSpec)

/-- 'chartularylaw06.PledgeNobody', WHERE WHAT IT READS IS OF BULK AT MOST 1048576: true; the input reads as it did. -/
def pledgeNobodyUptoRow : OpenClaim := { program := "ytlbdpadifhgloaadoor", sum := "38956f6fefba4c9b3001beacbe234c16f0139c6468a2315bdf982c4d85970b36", func := "chartulary/chartularylaw06.PledgeNobody", spec := "pledgeNobody", inPlace := ["internal/abi.NoEscape", "internal/bytealg.MakeNoZero"], named := ["chartulary/sha.initial", "chartulary/sha.added"], plainKeys := false, apart := false, laid := [("chartulary/sha.initial", laid_chartulary_sha_initial), ("chartulary/sha.added", laid_chartulary_sha_added)], narrowed := true }
def PledgeNobodyUptoSaid : Prop := pledgeNobodyUptoRow.holds Tryd.pinned (OpenSpec.upto pledgeNobodySpec)

end Rows
end Go.Proofs.YtlbdpadifhgloaaDoor
