/-
  NARROWER THAN 'FOR EVERY INPUT', by the rows' own cells (each row's printed sentence says how): MerkleRoots: laid · MerklePaths: laid · MerkleClimbs: laid · MerkleGrowths: laid · MerkleGrowns: laid · MerkleLeaf: laid · MerkleBegins: laid · MerkleNobody: laid.
  DERIVED. THE GIVEN ROWS OF THIS SEAT. 8 by the template 'for every input the law returns true; each argument reads behind the call as it read before'; 0 by the template 'total and deterministic' (their statements: YtphhaiccpllnpaaDoorTotals.lean).
  GIVEN WITH THE SEED: the statements are not yours to turn. If you find one false, say at which input.
  Laid BY PROGRAM, IN A SANDBOX (cutbox-rows.mjs): the forced cells as the released guide's own fill.sh prints them over the translation 14fdb3bb09976dbe… (all of the seat's roots in one cut). By AI agents, Wed Nov 11 2026. No macro, syntax, notation, axiom, sorry.
-/
import Derived.Test.YtphhaiccpllnpaaDoorChecked
import GoSem.Claim
import GoSem.ClaimJoined
import GoSem.ClaimMapViews
import Derived.JoinedTies
import Derived.KernelRfl
namespace Go.Proofs.YtphhaiccpllnpaaDoor
/- THE CELL 'sum', in the pinned program and in every row, IS THE sha256 OF THE DUMP (.gsa) THAT YtphhaiccpllnpaaDoorProg.lean LOADS. Nothing in Lean hashes anything: it is a label: what it is worth is what the hold of that sum in a sandbox is worth. -/
noncomputable def Tryd.pinned : Pinned := { name := "ytphhaiccpllnpaadoor", sum := "14fdb3bb09976dbe1514159d532424e69e9f7aa82d75065f43e25e7bc58e9b1e", checked := Tryd.checked }
namespace Rows
def none {H : Type} : Left H := { results := [], args := [] }

/- WHAT THE LISTED PACKAGE-LEVEL VARIABLES READ AS WHEN THE CALL BEGINS. Each datum BY PROGRAM (the guide's laid-datum.mjs) off the statement by which the dump's own 'gosem.cut.vars' lays the variable. In a bare row this is a premise. The card (YtphhaiccpllnpaaDoorCards.lean) ties it to the program's text. -/
def laid_chartulary_sha_initial {H : Type} : DataW H := .agg [.lit (.int .u32 1779033703), .lit (.int .u32 3144134277), .lit (.int .u32 1013904242), .lit (.int .u32 2773480762), .lit (.int .u32 1359893119), .lit (.int .u32 2600822924), .lit (.int .u32 528734635), .lit (.int .u32 1541459225)]
def laid_chartulary_sha_added {H : Type} : DataW H := .agg [.lit (.int .u32 1116352408), .lit (.int .u32 1899447441), .lit (.int .u32 3049323471), .lit (.int .u32 3921009573), .lit (.int .u32 961987163), .lit (.int .u32 1508970993), .lit (.int .u32 2453635748), .lit (.int .u32 2870763221), .lit (.int .u32 3624381080), .lit (.int .u32 310598401), .lit (.int .u32 607225278), .lit (.int .u32 1426881987), .lit (.int .u32 1925078388), .lit (.int .u32 2162078206), .lit (.int .u32 2614888103), .lit (.int .u32 3248222580), .lit (.int .u32 3835390401), .lit (.int .u32 4022224774), .lit (.int .u32 264347078), .lit (.int .u32 604807628), .lit (.int .u32 770255983), .lit (.int .u32 1249150122), .lit (.int .u32 1555081692), .lit (.int .u32 1996064986), .lit (.int .u32 2554220882), .lit (.int .u32 2821834349), .lit (.int .u32 2952996808), .lit (.int .u32 3210313671), .lit (.int .u32 3336571891), .lit (.int .u32 3584528711), .lit (.int .u32 113926993), .lit (.int .u32 338241895), .lit (.int .u32 666307205), .lit (.int .u32 773529912), .lit (.int .u32 1294757372), .lit (.int .u32 1396182291), .lit (.int .u32 1695183700), .lit (.int .u32 1986661051), .lit (.int .u32 2177026350), .lit (.int .u32 2456956037), .lit (.int .u32 2730485921), .lit (.int .u32 2820302411), .lit (.int .u32 3259730800), .lit (.int .u32 3345764771), .lit (.int .u32 3516065817), .lit (.int .u32 3600352804), .lit (.int .u32 4094571909), .lit (.int .u32 275423344), .lit (.int .u32 430227734), .lit (.int .u32 506948616), .lit (.int .u32 659060556), .lit (.int .u32 883997877), .lit (.int .u32 958139571), .lit (.int .u32 1322822218), .lit (.int .u32 1537002063), .lit (.int .u32 1747873779), .lit (.int .u32 1955562222), .lit (.int .u32 2024104815), .lit (.int .u32 2227730452), .lit (.int .u32 2361852424), .lit (.int .u32 2428436474), .lit (.int .u32 2756734187), .lit (.int .u32 3204031479), .lit (.int .u32 3329325298)]
def laid_math_bits_deBruijn32tab {H : Type} : DataW H := .agg [.lit (.int .u8 0), .lit (.int .u8 1), .lit (.int .u8 28), .lit (.int .u8 2), .lit (.int .u8 29), .lit (.int .u8 14), .lit (.int .u8 24), .lit (.int .u8 3), .lit (.int .u8 30), .lit (.int .u8 22), .lit (.int .u8 20), .lit (.int .u8 15), .lit (.int .u8 25), .lit (.int .u8 17), .lit (.int .u8 4), .lit (.int .u8 8), .lit (.int .u8 31), .lit (.int .u8 27), .lit (.int .u8 13), .lit (.int .u8 23), .lit (.int .u8 21), .lit (.int .u8 19), .lit (.int .u8 16), .lit (.int .u8 7), .lit (.int .u8 26), .lit (.int .u8 12), .lit (.int .u8 18), .lit (.int .u8 6), .lit (.int .u8 11), .lit (.int .u8 5), .lit (.int .u8 10), .lit (.int .u8 9)]
def laid_math_bits_deBruijn64tab {H : Type} : DataW H := .agg [.lit (.int .u8 0), .lit (.int .u8 1), .lit (.int .u8 56), .lit (.int .u8 2), .lit (.int .u8 57), .lit (.int .u8 49), .lit (.int .u8 28), .lit (.int .u8 3), .lit (.int .u8 61), .lit (.int .u8 58), .lit (.int .u8 42), .lit (.int .u8 50), .lit (.int .u8 38), .lit (.int .u8 29), .lit (.int .u8 17), .lit (.int .u8 4), .lit (.int .u8 62), .lit (.int .u8 47), .lit (.int .u8 59), .lit (.int .u8 36), .lit (.int .u8 45), .lit (.int .u8 43), .lit (.int .u8 51), .lit (.int .u8 22), .lit (.int .u8 53), .lit (.int .u8 39), .lit (.int .u8 33), .lit (.int .u8 30), .lit (.int .u8 24), .lit (.int .u8 18), .lit (.int .u8 12), .lit (.int .u8 5), .lit (.int .u8 63), .lit (.int .u8 55), .lit (.int .u8 48), .lit (.int .u8 27), .lit (.int .u8 60), .lit (.int .u8 41), .lit (.int .u8 37), .lit (.int .u8 16), .lit (.int .u8 46), .lit (.int .u8 35), .lit (.int .u8 44), .lit (.int .u8 21), .lit (.int .u8 52), .lit (.int .u8 32), .lit (.int .u8 23), .lit (.int .u8 11), .lit (.int .u8 54), .lit (.int .u8 26), .lit (.int .u8 40), .lit (.int .u8 15), .lit (.int .u8 34), .lit (.int .u8 20), .lit (.int .u8 31), .lit (.int .u8 10), .lit (.int .u8 25), .lit (.int .u8 14), .lit (.int .u8 19), .lit (.int .u8 9), .lit (.int .u8 13), .lit (.int .u8 8), .lit (.int .u8 7), .lit (.int .u8 6)]

/-- 'chartularylaw07.MerkleRoots': WHATEVER THE INPUT: true; the input reads as it did. -/
def merkleRootsSpec : ChangeSpec := { name := "merkleRoots", fn := fun _ => fun
  | [d] => { results := [.lit (.bool true)], args := [d] }
  | _ => none }
def merkleRootsRow : OpenClaim := { program := "ytphhaiccpllnpaadoor", sum := "14fdb3bb09976dbe1514159d532424e69e9f7aa82d75065f43e25e7bc58e9b1e", func := "chartulary/chartularylaw07.MerkleRoots", spec := "merkleRoots", recurses := true, named := ["chartulary/sha.initial", "chartulary/sha.added", "math/bits.deBruijn32tab", "math/bits.deBruijn64tab"], plainKeys := false, apart := false, laid := [("chartulary/sha.initial", laid_chartulary_sha_initial), ("chartulary/sha.added", laid_chartulary_sha_added), ("math/bits.deBruijn32tab", laid_math_bits_deBruijn32tab), ("math/bits.deBruijn64tab", laid_math_bits_deBruijn64tab)] }
def MerkleRootsSaid : Prop := merkleRootsRow.holds Tryd.pinned (OpenSpec.ofChange merkleRootsSpec)

/-- ITS FALSE NEIGHBOUR: 'it returns false'. Refute it at one input. -/
def merkleRootsWrong : ChangeSpec := { name := "merkleRoots", fn := fun _ => fun
  | [d] => { results := [.lit (.bool false)], args := [d] }
  | _ => none }
def MerkleRootsWrongFalsely : Prop := merkleRootsRow.holds Tryd.pinned (OpenSpec.ofChange merkleRootsWrong)

/-- 'chartularylaw07.MerklePaths': WHATEVER THE INPUT: true; the input reads as it did. -/
def merklePathsSpec : ChangeSpec := { name := "merklePaths", fn := fun _ => fun
  | [d1, d2] => { results := [.lit (.bool true)], args := [d1, d2] }
  | _ => none }
def merklePathsRow : OpenClaim := { program := "ytphhaiccpllnpaadoor", sum := "14fdb3bb09976dbe1514159d532424e69e9f7aa82d75065f43e25e7bc58e9b1e", func := "chartulary/chartularylaw07.MerklePaths", spec := "merklePaths", recurses := true, named := ["chartulary/sha.initial", "chartulary/sha.added"], plainKeys := false, apart := false, laid := [("chartulary/sha.initial", laid_chartulary_sha_initial), ("chartulary/sha.added", laid_chartulary_sha_added)] }
def MerklePathsSaid : Prop := merklePathsRow.holds Tryd.pinned (OpenSpec.ofChange merklePathsSpec)

/-- ITS FALSE NEIGHBOUR: 'it returns false'. Refute it at one input. -/
def merklePathsWrong : ChangeSpec := { name := "merklePaths", fn := fun _ => fun
  | [d1, d2] => { results := [.lit (.bool false)], args := [d1, d2] }
  | _ => none }
def MerklePathsWrongFalsely : Prop := merklePathsRow.holds Tryd.pinned (OpenSpec.ofChange merklePathsWrong)

/-- 'chartularylaw07.MerkleClimbs': WHATEVER THE INPUT: true; the input reads as it did. -/
def merkleClimbsSpec : ChangeSpec := { name := "merkleClimbs", fn := fun _ => fun
  | [d1, d2, d3, d4] => { results := [.lit (.bool true)], args := [d1, d2, d3, d4] }
  | _ => none }
def merkleClimbsRow : OpenClaim := { program := "ytphhaiccpllnpaadoor", sum := "14fdb3bb09976dbe1514159d532424e69e9f7aa82d75065f43e25e7bc58e9b1e", func := "chartulary/chartularylaw07.MerkleClimbs", spec := "merkleClimbs", recurses := true, named := ["chartulary/sha.initial", "chartulary/sha.added"], plainKeys := false, apart := false, laid := [("chartulary/sha.initial", laid_chartulary_sha_initial), ("chartulary/sha.added", laid_chartulary_sha_added)] }
def MerkleClimbsSaid : Prop := merkleClimbsRow.holds Tryd.pinned (OpenSpec.ofChange merkleClimbsSpec)

/-- ITS FALSE NEIGHBOUR: 'it returns false'. Refute it at one input. -/
def merkleClimbsWrong : ChangeSpec := { name := "merkleClimbs", fn := fun _ => fun
  | [d1, d2, d3, d4] => { results := [.lit (.bool false)], args := [d1, d2, d3, d4] }
  | _ => none }
def MerkleClimbsWrongFalsely : Prop := merkleClimbsRow.holds Tryd.pinned (OpenSpec.ofChange merkleClimbsWrong)

/-- 'chartularylaw07.MerkleGrowths': WHATEVER THE INPUT: true; the input reads as it did. -/
def merkleGrowthsSpec : ChangeSpec := { name := "merkleGrowths", fn := fun _ => fun
  | [d1, d2] => { results := [.lit (.bool true)], args := [d1, d2] }
  | _ => none }
def merkleGrowthsRow : OpenClaim := { program := "ytphhaiccpllnpaadoor", sum := "14fdb3bb09976dbe1514159d532424e69e9f7aa82d75065f43e25e7bc58e9b1e", func := "chartulary/chartularylaw07.MerkleGrowths", spec := "merkleGrowths", recurses := true, named := ["chartulary/sha.initial", "chartulary/sha.added"], plainKeys := false, apart := false, laid := [("chartulary/sha.initial", laid_chartulary_sha_initial), ("chartulary/sha.added", laid_chartulary_sha_added)] }
def MerkleGrowthsSaid : Prop := merkleGrowthsRow.holds Tryd.pinned (OpenSpec.ofChange merkleGrowthsSpec)

/-- ITS FALSE NEIGHBOUR: 'it returns false'. Refute it at one input. -/
def merkleGrowthsWrong : ChangeSpec := { name := "merkleGrowths", fn := fun _ => fun
  | [d1, d2] => { results := [.lit (.bool false)], args := [d1, d2] }
  | _ => none }
def MerkleGrowthsWrongFalsely : Prop := merkleGrowthsRow.holds Tryd.pinned (OpenSpec.ofChange merkleGrowthsWrong)

/-- 'chartularylaw07.MerkleGrowns': WHATEVER THE INPUT: true; the input reads as it did. -/
def merkleGrownsSpec : ChangeSpec := { name := "merkleGrowns", fn := fun _ => fun
  | [d1, d2, d3] => { results := [.lit (.bool true)], args := [d1, d2, d3] }
  | _ => none }
def merkleGrownsRow : OpenClaim := { program := "ytphhaiccpllnpaadoor", sum := "14fdb3bb09976dbe1514159d532424e69e9f7aa82d75065f43e25e7bc58e9b1e", func := "chartulary/chartularylaw07.MerkleGrowns", spec := "merkleGrowns", recurses := true, named := ["chartulary/sha.initial", "chartulary/sha.added"], plainKeys := false, apart := false, laid := [("chartulary/sha.initial", laid_chartulary_sha_initial), ("chartulary/sha.added", laid_chartulary_sha_added)] }
def MerkleGrownsSaid : Prop := merkleGrownsRow.holds Tryd.pinned (OpenSpec.ofChange merkleGrownsSpec)

/-- ITS FALSE NEIGHBOUR: 'it returns false'. Refute it at one input. -/
def merkleGrownsWrong : ChangeSpec := { name := "merkleGrowns", fn := fun _ => fun
  | [d1, d2, d3] => { results := [.lit (.bool false)], args := [d1, d2, d3] }
  | _ => none }
def MerkleGrownsWrongFalsely : Prop := merkleGrownsRow.holds Tryd.pinned (OpenSpec.ofChange merkleGrownsWrong)

/-- 'chartularylaw07.MerkleLeaf': WHATEVER THE INPUT: true; the input reads as it did. -/
def merkleLeafSpec : ChangeSpec := { name := "merkleLeaf", fn := fun _ => fun
  | [d1, d2, d3, d4, d5, d6, d7] => { results := [.lit (.bool true)], args := [d1, d2, d3, d4, d5, d6, d7] }
  | _ => none }
def merkleLeafRow : OpenClaim := { program := "ytphhaiccpllnpaadoor", sum := "14fdb3bb09976dbe1514159d532424e69e9f7aa82d75065f43e25e7bc58e9b1e", func := "chartulary/chartularylaw07.MerkleLeaf", spec := "merkleLeaf", recurses := true, named := ["chartulary/sha.initial", "chartulary/sha.added"], plainKeys := false, apart := false, laid := [("chartulary/sha.initial", laid_chartulary_sha_initial), ("chartulary/sha.added", laid_chartulary_sha_added)] }
def MerkleLeafSaid : Prop := merkleLeafRow.holds Tryd.pinned (OpenSpec.ofChange merkleLeafSpec)

/-- ITS FALSE NEIGHBOUR: 'it returns false'. Refute it at one input. -/
def merkleLeafWrong : ChangeSpec := { name := "merkleLeaf", fn := fun _ => fun
  | [d1, d2, d3, d4, d5, d6, d7] => { results := [.lit (.bool false)], args := [d1, d2, d3, d4, d5, d6, d7] }
  | _ => none }
def MerkleLeafWrongFalsely : Prop := merkleLeafRow.holds Tryd.pinned (OpenSpec.ofChange merkleLeafWrong)

/-- 'chartularylaw07.MerkleBegins': WHATEVER THE INPUT: true; the input reads as it did. -/
def merkleBeginsSpec : ChangeSpec := { name := "merkleBegins", fn := fun _ => fun
  | [d1, d2, d3, d4] => { results := [.lit (.bool true)], args := [d1, d2, d3, d4] }
  | _ => none }
def merkleBeginsRow : OpenClaim := { program := "ytphhaiccpllnpaadoor", sum := "14fdb3bb09976dbe1514159d532424e69e9f7aa82d75065f43e25e7bc58e9b1e", func := "chartulary/chartularylaw07.MerkleBegins", spec := "merkleBegins", recurses := true, named := ["chartulary/sha.initial", "chartulary/sha.added"], plainKeys := false, apart := false, laid := [("chartulary/sha.initial", laid_chartulary_sha_initial), ("chartulary/sha.added", laid_chartulary_sha_added)] }
def MerkleBeginsSaid : Prop := merkleBeginsRow.holds Tryd.pinned (OpenSpec.ofChange merkleBeginsSpec)

/-- ITS FALSE NEIGHBOUR: 'it returns false'. Refute it at one input. -/
def merkleBeginsWrong : ChangeSpec := { name := "merkleBegins", fn := fun _ => fun
  | [d1, d2, d3, d4] => { results := [.lit (.bool false)], args := [d1, d2, d3, d4] }
  | _ => none }
def MerkleBeginsWrongFalsely : Prop := merkleBeginsRow.holds Tryd.pinned (OpenSpec.ofChange merkleBeginsWrong)

/-- 'chartularylaw07.MerkleNobody': WHATEVER THE INPUT: true; the input reads as it did. -/
def merkleNobodySpec : ChangeSpec := { name := "merkleNobody", fn := fun _ => fun
  | [d] => { results := [.lit (.bool true)], args := [d] }
  | _ => none }
def merkleNobodyRow : OpenClaim := { program := "ytphhaiccpllnpaadoor", sum := "14fdb3bb09976dbe1514159d532424e69e9f7aa82d75065f43e25e7bc58e9b1e", func := "chartulary/chartularylaw07.MerkleNobody", spec := "merkleNobody", recurses := true, named := ["math/bits.deBruijn32tab", "math/bits.deBruijn64tab", "chartulary/sha.initial", "chartulary/sha.added"], plainKeys := false, apart := false, laid := [("chartulary/sha.initial", laid_chartulary_sha_initial), ("chartulary/sha.added", laid_chartulary_sha_added), ("math/bits.deBruijn32tab", laid_math_bits_deBruijn32tab), ("math/bits.deBruijn64tab", laid_math_bits_deBruijn64tab)] }
def MerkleNobodySaid : Prop := merkleNobodyRow.holds Tryd.pinned (OpenSpec.ofChange merkleNobodySpec)

/-- ITS FALSE NEIGHBOUR: 'it returns false'. Refute it at one input. -/
def merkleNobodyWrong : ChangeSpec := { name := "merkleNobody", fn := fun _ => fun
  | [d] => { results := [.lit (.bool false)], args := [d] }
  | _ => none }
def MerkleNobodyWrongFalsely : Prop := merkleNobodyRow.holds Tryd.pinned (OpenSpec.ofChange merkleNobodyWrong)

/- THE SECOND FORM. 'bulk': how many values and letters a reading holds, each counted each time it is reached (what is shared counts as often as it is met; a slice's spare places count too). A statement '..UptoSaid' is the law's where the arguments, and the package variables that the reading takes, are together of bulk at most 1048576: NARROWER than '..Said'. Prove '..Said' where nothing that the law and all that it calls make is longer than what came in: it says more and counts as full. Else prove '..UptoSaid'. A law counts once. -/
mutual
def uptoBulk {H : Type} : DataW H → Nat
  | .lit (.string bytes) => bytes.length + 1
  | .lit _ => 1
  | .nil => 1
  | .ptr d => uptoBulk d + 1
  | .slice elems spare => uptoBulkAll elems + uptoBulkAll spare + 1
  | .agg parts => uptoBulkAll parts + 1
  | .iface _ d => uptoBulk d + 1
  | .map entries => uptoBulkEntries entries + 1
  | .held _ => 1
def uptoBulkAll {H : Type} : List (DataW H) → Nat
  | [] => 0
  | d :: r => uptoBulk d + uptoBulkAll r
def uptoBulkEntries {H : Type} : List (Lit × DataW H) → Nat
  | [] => 0
  | x :: r => uptoBulkEntry x + uptoBulkEntries r
def uptoBulkEntry {H : Type} : Lit × DataW H → Nat
  | (.string bytes, d) => bytes.length + uptoBulk d + 1
  | (_, d) => uptoBulk d + 1
 end
def uptoSmall : (H : Type) → List (DataW H) → Bool := fun _ ds => decide (uptoBulkAll ds ≤ 1048576)
def OpenSpec.upto (s : _root_.Go.ChangeSpec) : _root_.Go.OpenSpec := { _root_.Go.OpenSpec.ofChange s with cond := some uptoSmall }

/-- 'chartularylaw07.MerkleRoots', WHERE WHAT IT READS IS OF BULK AT MOST 1048576: true; the input reads as it did. -/
def merkleRootsUptoRow : OpenClaim := { program := "ytphhaiccpllnpaadoor", sum := "14fdb3bb09976dbe1514159d532424e69e9f7aa82d75065f43e25e7bc58e9b1e", func := "chartulary/chartularylaw07.MerkleRoots", spec := "merkleRoots", recurses := true, named := ["chartulary/sha.initial", "chartulary/sha.added", "math/bits.deBruijn32tab", "math/bits.deBruijn64tab"], plainKeys := false, apart := false, laid := [("chartulary/sha.initial", laid_chartulary_sha_initial), ("chartulary/sha.added", laid_chartulary_sha_added), ("math/bits.deBruijn32tab", laid_math_bits_deBruijn32tab), ("math/bits.deBruijn64tab", laid_math_bits_deBruijn64tab)], narrowed := true }
def MerkleRootsUptoSaid : Prop := merkleRootsUptoRow.holds Tryd.pinned (OpenSpec.upto merkleRootsSpec)

/-- 'chartularylaw07.MerklePaths', WHERE WHAT IT READS IS OF BULK AT MOST 1048576: true; the input reads as it did. -/
def merklePathsUptoRow : OpenClaim := { program := "ytphhaiccpllnpaadoor", sum := "14fdb3bb09976dbe1514159d532424e69e9f7aa82d75065f43e25e7bc58e9b1e", func := "chartulary/chartularylaw07.MerklePaths", spec := "merklePaths", recurses := true, named := ["chartulary/sha.initial", "chartulary/sha.added"], plainKeys := false, apart := false, laid := [("chartulary/sha.initial", laid_chartulary_sha_initial), ("chartulary/sha.added", laid_chartulary_sha_added)], narrowed := true }
def MerklePathsUptoSaid : Prop := merklePathsUptoRow.holds Tryd.pinned (OpenSpec.upto merklePathsSpec)

/-- 'chartularylaw07.MerkleClimbs', WHERE WHAT IT READS IS OF BULK AT MOST 1048576: true; the input reads as it did. -/
def merkleClimbsUptoRow : OpenClaim := { program := "ytphhaiccpllnpaadoor", sum := "14fdb3bb09976dbe1514159d532424e69e9f7aa82d75065f43e25e7bc58e9b1e", func := "chartulary/chartularylaw07.MerkleClimbs", spec := "merkleClimbs", recurses := true, named := ["chartulary/sha.initial", "chartulary/sha.added"], plainKeys := false, apart := false, laid := [("chartulary/sha.initial", laid_chartulary_sha_initial), ("chartulary/sha.added", laid_chartulary_sha_added)], narrowed := true }
def MerkleClimbsUptoSaid : Prop := merkleClimbsUptoRow.holds Tryd.pinned (OpenSpec.upto merkleClimbsSpec)

/-- 'chartularylaw07.MerkleGrowths', WHERE WHAT IT READS IS OF BULK AT MOST 1048576: true; the input reads as it did. -/
def merkleGrowthsUptoRow : OpenClaim := { program := "ytphhaiccpllnpaadoor", sum := "14fdb3bb09976dbe1514159d532424e69e9f7aa82d75065f43e25e7bc58e9b1e", func := "chartulary/chartularylaw07.MerkleGrowths", spec := "merkleGrowths", recurses := true, named := ["chartulary/sha.initial", "chartulary/sha.added"], plainKeys := false, apart := false, laid := [("chartulary/sha.initial", laid_chartulary_sha_initial), ("chartulary/sha.added", laid_chartulary_sha_added)], narrowed := true }
def MerkleGrowthsUptoSaid : Prop := merkleGrowthsUptoRow.holds Tryd.pinned (OpenSpec.upto merkleGrowthsSpec)

/-- 'chartularylaw07.MerkleGrowns', WHERE WHAT IT READS IS OF BULK AT MOST 1048576: true; the input reads as it did. -/
def merkleGrownsUptoRow : OpenClaim := { program := "ytphhaiccpllnpaadoor", sum := "14fdb3bb09976dbe1514159d532424e69e9f7aa82d75065f43e25e7bc58e9b1e", func := "chartulary/chartularylaw07.MerkleGrowns", spec := "merkleGrowns", recurses := true, named := ["chartulary/sha.initial", "chartulary/sha.added"], plainKeys := false, apart := false, laid := [("chartulary/sha.initial", laid_chartulary_sha_initial), ("chartulary/sha.added", laid_chartulary_sha_added)], narrowed := true }
def MerkleGrownsUptoSaid : Prop := merkleGrownsUptoRow.holds Tryd.pinned (OpenSpec.upto merkleGrownsSpec)

/-- 'chartularylaw07.MerkleLeaf', WHERE WHAT IT READS IS OF BULK AT MOST 1048576: true; the input reads as it did. -/
def merkleLeafUptoRow : OpenClaim := { program := "ytphhaiccpllnpaadoor", sum := "14fdb3bb09976dbe1514159d532424e69e9f7aa82d75065f43e25e7bc58e9b1e", func := "chartulary/chartularylaw07.MerkleLeaf", spec := "merkleLeaf", recurses := true, named := ["chartulary/sha.initial", "chartulary/sha.added"], plainKeys := false, apart := false, laid := [("chartulary/sha.initial", laid_chartulary_sha_initial), ("chartulary/sha.added", laid_chartulary_sha_added)], narrowed := true }
def MerkleLeafUptoSaid : Prop := merkleLeafUptoRow.holds Tryd.pinned (OpenSpec.upto merkleLeafSpec)

/-- 'chartularylaw07.MerkleBegins', WHERE WHAT IT READS IS OF BULK AT MOST 1048576: true; the input reads as it did. -/
def merkleBeginsUptoRow : OpenClaim := { program := "ytphhaiccpllnpaadoor", sum := "14fdb3bb09976dbe1514159d532424e69e9f7aa82d75065f43e25e7bc58e9b1e", func := "chartulary/chartularylaw07.MerkleBegins", spec := "merkleBegins", recurses := true, named := ["chartulary/sha.initial", "chartulary/sha.added"], plainKeys := false, apart := false, laid := [("chartulary/sha.initial", laid_chartulary_sha_initial), ("chartulary/sha.added", laid_chartulary_sha_added)], narrowed := true }
def MerkleBeginsUptoSaid : Prop := merkleBeginsUptoRow.holds Tryd.pinned (OpenSpec.upto merkleBeginsSpec)

/-- 'chartularylaw07.MerkleNobody', WHERE WHAT IT READS IS OF BULK AT MOST 1048576: true; the input reads as it did. -/
def merkleNobodyUptoRow : OpenClaim := { program := "ytphhaiccpllnpaadoor", sum := "14fdb3bb09976dbe1514159d532424e69e9f7aa82d75065f43e25e7bc58e9b1e", func := "chartulary/chartularylaw07.MerkleNobody", spec := "merkleNobody", recurses := true, named := ["math/bits.deBruijn32tab", "math/bits.deBruijn64tab", "chartulary/sha.initial", "chartulary/sha.added"], plainKeys := false, apart := false, laid := [("chartulary/sha.initial", laid_chartulary_sha_initial), ("chartulary/sha.added", laid_chartulary_sha_added), ("math/bits.deBruijn32tab", laid_math_bits_deBruijn32tab), ("math/bits.deBruijn64tab", laid_math_bits_deBruijn64tab)], narrowed := true }
def MerkleNobodyUptoSaid : Prop := merkleNobodyUptoRow.holds Tryd.pinned (OpenSpec.upto merkleNobodySpec)

end Rows
end Go.Proofs.YtphhaiccpllnpaaDoor
