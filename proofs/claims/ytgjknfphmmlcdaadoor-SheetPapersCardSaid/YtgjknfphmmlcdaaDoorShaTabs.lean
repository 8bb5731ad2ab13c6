/-
  What the rows' list of variables gives: the two tables lie in their blocks. And a world for the witness.
-/
import Derived.Test.YtgjknfphmmlcdaaDoorShaSum
import Derived.Test.YtgjknfphmmlcdaaDoorLaw
import Derived.Test.YtgjknfphmmlcdaaDoorCards
import Derived.Test.YtgjknfphmmlcdaaDoorTie
import Derived.Deep.DeepHandedRow
import Derived.Lib.LaidTab
import Derived.OpenShut
namespace Go.Proofs.YtgjknfphmmlcdaaDoor
open Go.ChangeShapes Go.WideShapes Go.ChangeAt Go.RowKit
set_option linter.unusedVariables false

theorem laid_rest {P : Program} {x : String × DataW Unit} {r : List (String × DataW Unit)} {w : World} (h : laidMet P (x :: r) w) : laidMet P r w := by
  obtain ⟨ps, hv, hnd, hrows⟩ := h
  obtain ⟨n, d⟩ := x
  obtain ⟨g, t, cs, fuel, p, q, _, _, _, _, hq, rfl⟩ := hv
  exact ⟨q, hq, List.Nodup.sublist (List.sublist_append_right _ _) hnd, fun b off hm => hrows b off (List.mem_append_right _ hm)⟩

def z0 : List Int := [1779033703, 3144134277, 1013904242, 2773480762, 1359893119, 2600822924, 528734635, 1541459225]
def z1 : List Int := [1116352408, 1899447441, 3049323471, 3921009573, 961987163, 1508970993, 2453635748, 2870763221, 3624381080, 310598401, 607225278, 1426881987, 1925078388, 2162078206, 2614888103, 3248222580, 3835390401, 4022224774, 264347078, 604807628, 770255983, 1249150122, 1555081692, 1996064986, 2554220882, 2821834349, 2952996808, 3210313671, 3336571891, 3584528711, 113926993, 338241895, 666307205, 773529912, 1294757372, 1396182291, 1695183700, 1986661051, 2177026350, 2456956037, 2730485921, 2820302411, 3259730800, 3345764771, 3516065817, 3600352804, 4094571909, 275423344, 430227734, 506948616, 659060556, 883997877, 958139571, 1322822218, 1537002063, 1747873779, 1955562222, 2024104815, 2227730452, 2361852424, 2428436474, 2756734187, 3204031479, 3329325298]
theorem z0_s0 : ∀ i : Fin 8, z0.getD i.1 0 = ((Sha.s0.toList.getD i.1 0).toNat : Int) := by decide +kernel
theorem z1_kl : ∀ i : Fin 64, z1.getD i.1 0 = ((Sha.kl.getD i.1 0).toNat : Int) := by decide +kernel
theorem gTab0 : Tryd.prog.globalNamed "chartulary/sha.initial" = some 0 := by kernel_rfl
theorem gType0 : (Tryd.prog.globals[0]?).map (·.type) = some 121 := by kernel_rfl
theorem gTab1 : Tryd.prog.globalNamed "chartulary/sha.added" = some 1 := by kernel_rfl
theorem gType1 : (Tryd.prog.globals[1]?).map (·.type) = some 127 := by kernel_rfl
theorem cellsU32 : Tryd.prog.cellsOf 116 = 1 := by kernel_rfl
theorem cells8 : Tryd.prog.cellsOf 121 = 8 := by kernel_rfl
theorem cells64 : Tryd.prog.cellsOf 127 = 64 := by kernel_rfl
abbrev laidList : List (String × DataW Unit) := [("chartulary/sha.initial", Rows.laid_chartulary_sha_initial), ("chartulary/sha.added", Rows.laid_chartulary_sha_added)]

theorem tabs_of {W : World} (h : laidMetH Tryd.prog laidList W) : Tabs W := by
  have h1 : laidMet Tryd.prog (("chartulary/sha.initial", Lib.tabData .u32 z0) :: [("chartulary/sha.added", Lib.tabData .u32 z1)]) W := h
  have t0 := Lib.tabIs_of_head gTab0 gType0 Tryd.underlying121 Tryd.underlying116 cellsU32 cells8 h1
  have t1 := Lib.tabIs_of_head gTab1 gType1 Tryd.underlying127 Tryd.underlying116 cellsU32 cells64 (laid_rest h1)
  refine ⟨fun i hi => ?_, fun i hi => ?_, ?_⟩
  · rw [← z0_s0 ⟨i, hi⟩]; exact t0.cell gTab0 i hi
  · rw [← z1_kl ⟨i, hi⟩]; exact t1.cell gTab1 i hi
  · have := World.block_lt_of_cell? W ⟨1, 0, none⟩ (t1.cell gTab1 0 (by decide))
    exact this

def layInts (z : List Int) : Obj → Obj
  | .cells _ t frozen => .cells (z.map fun x => Value.int .u32 x).toArray t frozen
  | o => o
/-- A world for the witness: the two tables hold what their initialisers lay. -/
noncomputable def laidWorld (os : Os) : World :=
  { World.holding Tryd.prog os ⟨#[], #[], []⟩ with heap := (((World.holding Tryd.prog os ⟨#[], #[], []⟩).heap.modify 0 (layInts z0)).modify 1 (layInts z1)) }
theorem own : ownKnob Tryd.prog.godebug = none := by kernel_rfl
theorem laidOut : laidOutB Tryd.prog = true := by kernel_rfl
end Go.Proofs.YtgjknfphmmlcdaaDoor
