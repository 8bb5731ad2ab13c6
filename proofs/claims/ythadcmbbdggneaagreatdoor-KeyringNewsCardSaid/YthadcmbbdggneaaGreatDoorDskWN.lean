/-
  A disk on which nothing waits; a new one.
-/
import Derived.Test.YthadcmbbdggneaaGreatDoorDskW
import Derived.Test.YthadcmbbdggneaaGreatDoorGrdRun
namespace Go.Proofs.YthadcmbbdggneaaGreatDoor
open Go.RowKit
set_option linter.unusedVariables false

theorem dwaits_none {w : World} {g bd mb : Nat} {d : Dsk.St} (h : DiskAt w g bd mb d) (hw : Dsk.waits d.secs = []) :
    Calls Tryz.prog 23 #[.pointer (some ⟨g, 0, none⟩)] w fun e w' => (∃ A cap, e = .returned (.slice A 0 cap)) ∧ Below w.heap.size w w' := by
  have hc := waiting_any h
  rw [hw] at hc
  refine hc.mono ?_
  rintro e w' ⟨v, rfl, ⟨_, hk⟩, hb⟩
  rcases hk with ⟨rfl, _⟩ | ⟨g1, cap, cur, rfl, _⟩
  · exact ⟨⟨_, _, rfl⟩, hb⟩
  · exact ⟨⟨_, _, rfl⟩, hb⟩
namespace Dsk
theorem waitsFrom_free : ∀ (L : List Sec) (o : Nat), (∀ x ∈ L, x.pend = none) → waitsFrom o L = [] := by
  intro L
  induction L with
  | nil => intro o _; rfl
  | cons s L ih =>
    intro o h
    unfold waitsFrom
    rw [h s (List.mem_cons_self ..)]
    exact ih (o + 1) fun x hx => h x (List.mem_cons_of_mem _ hx)
theorem fresh_free (n : Nat) : ∀ x ∈ (fresh n).secs, x.pend = none := fun x hx => by
  have hx' : x ∈ List.replicate n (⟨List.replicate 64 0, 0, none⟩ : Sec) := hx
  rw [(List.mem_replicate.1 hx').2]
theorem fresh_waits (n : Nat) : waits (fresh n).secs = [] := waitsFrom_free _ 0 (fresh_free n)
theorem fresh_read (n i : Nat) (hi : i < n) : (Grd.read (fresh n) ((i : Nat) : Int)).2.2 = 7 := by
  have hs : (fresh n).secs[i]? = some ⟨Grd.noughts, 0, none⟩ := by
    show (List.replicate n (⟨List.replicate 64 0, 0, none⟩ : Sec))[i]? = _
    rw [List.getElem?_replicate, if_pos hi]
    rfl
  have hl : (fresh n).secs.length = n := List.length_replicate
  have hr : read (fresh n) ((i : Nat) : Int) = (Grd.noughts, 0) := by
    unfold read
    rw [if_neg (by show ¬ true = false; decide), if_neg (by omega), Int.toNat_natCast, hs]
    rfl
  unfold Grd.read
  rw [hr, if_neg (by simp), Grd.rd_noughts]
end Dsk
end Go.Proofs.YthadcmbbdggneaaGreatDoor
