/-
  The contract of sha's Hex.
-/
import Derived.Test.YtgjknfphmmlcdaaDoorShaNum
import Derived.Deep.AppendLies
import Derived.Deep.RegionLaw
import Derived.Deep.Cut
import Derived.Deep.DeepCutAuto
import Derived.Outline
import Derived.Laws.BitsAllLaws
namespace Go.Proofs.YtgjknfphmmlcdaaDoor
open Go.RowKit
set_option linter.unusedVariables false

def signs : List UInt8 := [48, 49, 50, 51, 52, 53, 54, 55, 56, 57, 97, 98, 99, 100, 101, 102]
def hexd (n : Nat) : UInt8 := signs.getD n 0
def hexb (c : UInt8) : List UInt8 := [hexd (c.toNat / 16), hexd (c.toNat % 16)]
def hexs : List UInt8 → List UInt8
  | [] => []
  | c :: l => hexb c ++ hexs l
theorem hexs_append : ∀ a b : List UInt8, hexs (a ++ b) = hexs a ++ hexs b
  | [], b => rfl
  | c :: a, b => by simp [hexs, hexs_append a b]
theorem hexs_len : ∀ a : List UInt8, (hexs a).length = 2 * a.length
  | [] => rfl
  | c :: a => by simp [hexs, hexb, hexs_len a]; omega
theorem hexs_snoc (l : List UInt8) (k : Nat) (h : k < l.length) : hexs (l.take (k + 1)) = hexs (l.take k) ++ hexb (l[k]'h) := by
  rw [List.take_succ_eq_append_getElem h, hexs_append]; simp [hexs]
theorem own_heap {w w' : World} {B e s n : Nat} {v : Value} {xs : List Value} (h : w.ownsRow B e s v n xs) (hw : w'.heap = w.heap) : w'.ownsRow B e s v n xs := by
  refine ⟨h.1, ?_⟩
  rcases h.2 with h0 | ⟨g, cap, cur, hv, hg, hr, hh⟩
  · exact Or.inl h0
  · exact Or.inr ⟨g, cap, cur, hv, hg, by rw [hw]; exact hr, hh⟩
theorem sign_at {P : Program} {t : TypeId} (ht : P.underlying t = some .string) (n : Nat) (h : n < 16) (w : World) :
    (Instr.index t (.string ⟨#[48, 49, 50, 51, 52, 53, 54, 55, 56, 57, 97, 98, 99, 100, 101, 102]⟩) (.int .u8 (n : Int))).run P w = .ok (.int .u8 ((hexd n).toNat : Int)) w := by
  have h1 := run_index_S (P := P) w signs .u8 n ht (by simpa [signs] using h)
  have h2 : signs[n]'(by simpa [signs] using h) = hexd n := by
    unfold hexd
    rw [List.getD_eq_getElem?_getD, List.getElem?_eq_getElem (by simpa [signs] using h)]
    rfl
  rw [h2] at h1
  exact h1

end Go.Proofs.YtgjknfphmmlcdaaDoor
