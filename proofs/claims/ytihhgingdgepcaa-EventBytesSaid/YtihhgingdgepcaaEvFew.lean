/-
  The fourteenth layer's statements' own cut; what Few leaves.
-/
import Derived.Test.YtihhgingdgepcaaEvRefD
namespace Go.Proofs.Ytihhgingdgepcaa
open Go.RowKit
set_option linter.unusedVariables false

namespace Ev
def cutS (x : Slp) : Slp := ⟨x.n.take 300, x.p.take 300, x.c.take 300, x.e⟩
def slipsK (L : List Slp) (k : Nat) : List Slp := (L.take k).map cutS
def holdsK (H : List T) (k : Nat) : List T := (H.take k).map fun s => s.take 300
/-- A paper whose lists have at most 20 items, and whose texts at most 300 bytes. -/
def fewE (e : Ent) : Ent := ⟨e.id.take 300, e.cls, e.born, e.slot, slipsK e.L 20, e.gone, holdsK e.H 20⟩
def few (v : Evt) : Evt := { v with ent := fewE v.ent, name := v.name.take 300, root := v.root.take 300 }
theorem slipsK_len (L : List Slp) (k : Nat) (hk : k ≤ L.length) : (slipsK L k).length = k := by unfold slipsK; rw [List.length_map, List.length_take]; omega
theorem slipsK_step (L : List Slp) (k : Nat) (hk : k < L.length) : slipsK L (k + 1) = slipsK L k ++ [cutS (L[k]'hk)] := by
  unfold slipsK
  rw [List.take_succ_eq_append_getElem hk, List.map_append]; rfl
theorem slipsK_end (L : List Slp) (k : Nat) (h : k = 20 ∨ (k = L.length ∧ k ≤ 20)) : slipsK L k = slipsK L 20 := by
  unfold slipsK
  rcases h with rfl | ⟨h1, h2⟩
  · rfl
  · rw [List.take_of_length_le (by omega), List.take_of_length_le (by omega)]
theorem holdsK_len (H : List T) (k : Nat) (hk : k ≤ H.length) : (holdsK H k).length = k := by unfold holdsK; rw [List.length_map, List.length_take]; omega
theorem holdsK_step (H : List T) (k : Nat) (hk : k < H.length) : holdsK H (k + 1) = holdsK H k ++ [(H[k]'hk).take 300] := by
  unfold holdsK
  rw [List.take_succ_eq_append_getElem hk, List.map_append]; rfl
theorem holdsK_end (H : List T) (k : Nat) (h : k = 20 ∨ (k = H.length ∧ k ≤ 20)) : holdsK H k = holdsK H 20 := by
  unfold holdsK
  rcases h with rfl | ⟨h1, h2⟩
  · rfl
  · rw [List.take_of_length_le (by omega), List.take_of_length_le (by omega)]
theorem slipsK_le (L : List Slp) : (slipsK L 20).length ≤ 20 := by unfold slipsK; rw [List.length_map, List.length_take]; omega
theorem holdsK_le (H : List T) : (holdsK H 20).length ≤ 20 := by unfold holdsK; rw [List.length_map, List.length_take]; omega
theorem slipsK_short (L : List Slp) (k : Nat) : ∀ x ∈ slipsK L k, x.n.length ≤ 300 ∧ x.p.length ≤ 300 ∧ x.c.length ≤ 300 := fun x hx => by
  unfold slipsK at hx
  obtain ⟨y, _, rfl⟩ := List.mem_map.1 hx
  exact ⟨by show (y.n.take 300).length ≤ 300; rw [List.length_take]; omega, by show (y.p.take 300).length ≤ 300; rw [List.length_take]; omega, by show (y.c.take 300).length ≤ 300; rw [List.length_take]; omega⟩
theorem holdsK_short (H : List T) (k : Nat) : ∀ x ∈ holdsK H k, x.length ≤ 300 := fun x hx => by
  unfold holdsK at hx
  obtain ⟨y, _, rfl⟩ := List.mem_map.1 hx
  rw [List.length_take]; omega
end Ev
theorem few_entFew (e : Ent) : EntFew (Ev.fewE e) :=
  ⟨by show (e.id.take 300).length ≤ _; rw [List.length_take]; omega, fun x hx => by have := Ev.holdsK_short e.H 20 x hx; omega, fun x hx => by have := (Ev.slipsK_short e.L 20 x hx).1; omega, fun x hx => by have := (Ev.slipsK_short e.L 20 x hx).2.1; omega, fun x hx => by have := (Ev.slipsK_short e.L 20 x hx).2.2; omega⟩
theorem few_evtFew (v : Evt) : EvtFew (Ev.few v) :=
  ⟨few_entFew v.ent, by show (v.name.take 300).length ≤ _; rw [List.length_take]; omega, by show (v.root.take 300).length ≤ _; rw [List.length_take]; omega⟩
set_option maxHeartbeats 400000 in
theorem ecut_any (l : List UInt8) (w : World) : Calls Try.prog 17 #[.string (S l)] w fun e w' => e = .returned (.string (S (l.take 300))) ∧ w' = w := by
  by_cases h : (300 : Int) < (l.length : Int)
  · go_enter Try.func17, Try.ntmps17
    go_wp2_with fail
    go_ret
    exact ⟨rfl, rfl⟩
  · have ht : l.take 300 = l := List.take_of_length_le (by omega)
    have HT := Lib.hid ht
    clear ht
    go_enter Try.func17, Try.ntmps17
    go_wp2_with fail
    go_ret
    exact ⟨by rw [HT.out]; rfl, rfl⟩
end Go.Proofs.Ytihhgingdgepcaa
