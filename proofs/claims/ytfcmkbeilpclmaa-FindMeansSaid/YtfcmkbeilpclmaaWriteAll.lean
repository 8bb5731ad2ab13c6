/-
  The contract of octet's Writer.All.
-/
import Derived.Test.YtfcmkbeilpclmaaWrite
import Derived.Laws.CopyOwn
import Derived.Laws.MakeOwn
import Derived.Deep.RegionLaw
import Derived.Deep.DeepFit
namespace Go.Proofs.Ytfcmkbeilpclmaa
open Go.RowKit
set_option linter.unusedVariables false

theorem u8info : (Try.prog.info? 5).map (fun i => (i.zero, i.size, i.bytes)) = some (some (.int .u8 0), 1, 1) := by kernel_rfl
theorem u8size : (Try.prog.info? 5).map (·.size) = some 1 := by kernel_rfl

theorem made_zeros (n : Nat) : madeCells (Value.int .u8 0).cells n = (bcells (List.replicate n 0)).toArray := by
  apply Array.ext
  · simp [bcells, madeCells]
  · intro i h1 h2
    simp [bcells, madeCells, Value.cells, Nat.mod_one]
theorem splice_zeros (k : Nat) (c suf : List UInt8) :
    splice (bcells (List.replicate (k + c.length) 0 ++ suf)) k (bcells c) = bcells (List.replicate k 0 ++ (c ++ suf)) := by
  have h1 : List.replicate (k + c.length) (0 : UInt8) = List.replicate k 0 ++ List.replicate c.length 0 := List.replicate_append_replicate.symm
  rw [h1]
  simp only [splice, bcells, List.map_append, List.append_assoc, List.length_map]
  rw [List.take_append_of_le_length (by simp), List.take_of_length_le (by simp)]
  congr 2
  rw [← List.append_assoc, List.drop_append]
  simp
theorem bcells_one (l : List UInt8) : ∀ v ∈ bcells l, v.oneCell' = true := by
  intro v hv
  simp only [bcells, List.mem_map] at hv
  obtain ⟨c, _, rfl⟩ := hv
  rfl

end Go.Proofs.Ytfcmkbeilpclmaa
