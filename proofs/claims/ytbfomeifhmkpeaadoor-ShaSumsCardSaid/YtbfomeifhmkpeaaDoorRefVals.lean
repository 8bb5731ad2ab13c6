/-
  The reference's primes and roots are the document's tables.
-/
import Derived.Test.YtbfomeifhmkpeaaDoorRefRoot
import Derived.Test.YtbfomeifhmkpeaaDoorShaSpec
namespace Go.Proofs.YtbfomeifhmkpeaaDoor
open Go.RowKit
theorem prl_short_list : prl 310 = [2, 3, 5, 7, 11, 13, 17, 19, 23, 29, 31, 37, 41, 43, 47, 53, 59, 61, 67, 71, 73, 79, 83, 89, 97, 101, 103, 107, 109, 113, 127, 131, 137, 139, 149, 151, 157, 163, 167, 173, 179, 181, 191, 193, 197, 199, 211, 223, 227, 229, 233, 239, 241, 251, 257, 263, 269, 271, 277, 281, 283, 293, 307, 311] := by decide +kernel
theorem cubes : (prl 310).map (fun p => rt 3 p 37 0 % 4294967296) = Sha.kl.map UInt32.toNat := by rw [prl_short_list]; decide +kernel
theorem squares : ((prl 310).take 8).map (fun p => rt 2 p 37 0 % 4294967296) = Sha.s0.toList.map UInt32.toNat := by rw [prl_short_list]; decide +kernel
end Go.Proofs.YtbfomeifhmkpeaaDoor
