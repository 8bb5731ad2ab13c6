/-
  What a tree that is built with what is left comes to, beside what Rebuild tells: without the program but for the law's awake.
-/
import Derived.Test.YtgjknfphmmlcdaaDoorShtAwake
import Derived.Test.YtgjknfphmmlcdaaDoorShtRebuild
import Derived.Test.YtgjknfphmmlcdaaDoorShtBuild
namespace Go.Proofs.YtgjknfphmmlcdaaDoor
open Go.ChangeShapes Go.WideShapes Go.ChangeAt Go.RowKit
set_option linter.unusedVariables false

namespace Sht
open Mk
theorem rbTs_len (l : List Mill.En) (n : Int) (pick : List Int) (lf nd : List T) : (rbTs l n pick lf nd).length ≤ 12 := by
  unfold rbTs
  split
  · rename_i h
    obtain ⟨h1, h2⟩ := h
    obtain ⟨k, rfl⟩ := Int.eq_ofNat_of_zero_le (show 0 ≤ n by have := h1.1; omega)
    obtain ⟨r, lf1, nd1, hb⟩ := rb_built l h1 (nd := nd) (by have := h2.1; rw [Int.toNat_natCast] at this; omega)
    rw [Int.toNat_natCast]
    have := buildAsks_len l pick k 0 lf nd lf1 nd1 r (by have := h1.1; omega) hb
    have := h1.2.1
    omega
  · exact Nat.zero_le _
theorem rb_no (l : List Mill.En) {n : Int} {pick : List Int} {lf nd : List T} (h : rbOk n pick lf) (hf : ¬ rbFit n pick nd) : rbC n pick lf nd = 20 ∧ rbV l n pick lf nd = [] := by
  constructor
  · unfold rbC; rw [if_pos h, if_neg hf]
  · unfold rbV; rw [if_neg (fun k => hf k.2)]
/-- The outcomes of what is built with what is left. -/
theorem builds_fin (l : List Mill.En) (n : Nat) (pick : List Int) (lf nd : List T) (hok : rbOk (n : Int) pick lf) :
    ((run l pick 0 n ⟨lf, nd, false⟩).2.bad = true ∧ rbC (n : Int) pick lf nd = 20 ∧ rbV l (n : Int) pick lf nd = []) ∨
    ((run l pick 0 n ⟨lf, nd, false⟩).2.bad = false ∧ (run l pick 0 n ⟨lf, nd, false⟩).2.nd.length ≠ 0 ∧ rbC (n : Int) pick lf nd = 20 ∧ rbV l (n : Int) pick lf nd = []) ∨
    ((run l pick 0 n ⟨lf, nd, false⟩).2.bad = false ∧ (run l pick 0 n ⟨lf, nd, false⟩).2.nd.length = 0 ∧ allSums nd = false ∧ rbC (n : Int) pick lf nd = 20 ∧ rbV l (n : Int) pick lf nd = []) ∨
    ((run l pick 0 n ⟨lf, nd, false⟩).2.bad = false ∧ (run l pick 0 n ⟨lf, nd, false⟩).2.nd.length = 0 ∧ allSums nd = true ∧ rbC (n : Int) pick lf nd = 0 ∧ rbV l (n : Int) pick lf nd = (run l pick 0 n ⟨lf, nd, false⟩).1) := by
  have h1 : 1 ≤ n := by have := hok.1; omega
  have hp := (rising_pos hok.2.2.2.2).2
  by_cases hs : siblings pick 0 n ≤ nd.length
  · obtain ⟨r, lf1, nd1, hb⟩ := rb_built l hok hs
    obtain ⟨_, _, hnd, _⟩ := build_takes l pick hp n 0 lf nd lf1 nd1 r h1 hb
    have hl : nd1.length = nd.length - siblings pick 0 n := by rw [hnd, List.length_drop]
    rw [run_some l pick n 0 lf nd lf1 nd1 r false hb]
    by_cases he : nd.length = siblings pick 0 n
    · have h0 : nd1.length = 0 := by omega
      cases ha : allSums nd with
      | true =>
        have hf : rbFit (n : Int) pick nd := ⟨by rw [Int.toNat_natCast]; exact he, ha⟩
        refine Or.inr (Or.inr (Or.inr ⟨rfl, h0, rfl, ?_, ?_⟩))
        · unfold rbC; rw [if_pos hok, if_pos hf]
        · unfold rbV; rw [if_pos ⟨hok, hf⟩, Int.toNat_natCast, hb]; rfl
      | false =>
        refine Or.inr (Or.inr (Or.inl ⟨rfl, h0, rfl, rb_no l hok (fun k => by have := k.2; rw [ha] at this; cases this)⟩))
    · exact Or.inr (Or.inl ⟨rfl, (show nd1.length ≠ 0 by omega), rb_no l hok (fun k => he (by have := k.1; rw [Int.toNat_natCast] at this; exact this))⟩)
  · refine Or.inl ⟨?_, rb_no l hok (fun k => hs (by have := k.1; rw [Int.toNat_natCast] at this; omega))⟩
    apply run_none
    cases hb : build l pick 0 n lf nd with
    | none => rfl
    | some t =>
      obtain ⟨r, lf1, nd1⟩ := t
      exact absurd (build_takes l pick hp n 0 lf nd lf1 nd1 r h1 hb).2.2.2 hs
theorem allSums_go (L : List T) (k : Nat) (hk : k < L.length) : allSums (L.take (k + 1)) = (allSums (L.take k) && decide ((L[k]'hk).length = 32)) := by
  rw [Bool.eq_iff_iff, Bool.and_eq_true, decide_eq_true_eq, allSums_iff, allSums_iff, List.take_succ_eq_append_getElem hk]
  constructor
  · intro h
    exact ⟨fun s hs => h s (List.mem_append_left _ hs), h _ (List.mem_append_right _ (by simp))⟩
  · rintro ⟨h, h2⟩ s hs
    rcases List.mem_append.1 hs with hs | hs
    · exact h s hs
    · rw [List.mem_singleton] at hs; rw [hs]; exact h2
end Sht
theorem OneK.awake8 {w0 W : World} {st : Mill.St} (h : OneK w0 W st) : Calls Tryd.prog 15 #[] W fun e w' => e = .returned (.bool true) ∧ Below w0.heap.size w0 w' :=
  (slAwake_any W h.m.t).mono fun e w' ⟨he, hb⟩ => ⟨he, h.b.trans (hb.mono h.b.size)⟩
end Go.Proofs.YtgjknfphmmlcdaaDoor
