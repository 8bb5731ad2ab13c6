/-
  A mill with a table behind a world; unlike leaves that come to one root have twins.
-/
import Derived.Test.YtgjknfphmmlcdaaDoorShtAwake
import Derived.Test.YtgjknfphmmlcdaaDoorShtRebuild
namespace Go.Proofs.YtgjknfphmmlcdaaDoor
open Go.ChangeShapes Go.WideShapes Go.ChangeAt Go.RowKit
set_option linter.unusedVariables false

/-- A mill with the table l that was made behind w0. -/
structure OneT (w0 W : World) (tv : Option Nat) (l : List Mill.En) (st : Mill.St) : Prop where
  m : MkW W (w0.heap.size + 1) w0.heap.size tv l st
  b : Below w0.heap.size w0 W
theorem OneT.below {w0 W W' : World} {tv : Option Nat} {l : List Mill.En} {st : Mill.St} (h : OneT w0 W tv l st) (hb : Below W.heap.size W W') : OneT w0 W' tv l st := ⟨h.m.below hb, h.b.trans (hb.mono h.b.size)⟩
theorem OneT.step {w0 W W' : World} {tv : Option Nat} {l : List Mill.En} {st st' : Mill.St} (h : OneT w0 W tv l st) (hm : MkW W' (w0.heap.size + 1) w0.heap.size tv l st') (hv : Mv W W' [w0.heap.size + 1, w0.heap.size]) : OneT w0 W' tv l st' :=
  ⟨hm, slip_tied hv (Nat.le_succ _) (Nat.le_refl _) h.b.size h.b⟩
theorem OneT.awake8 {w0 W : World} {tv : Option Nat} {l : List Mill.En} {st : Mill.St} (h : OneT w0 W tv l st) : Calls Tryd.prog 15 #[] W fun e w' => e = .returned (.bool true) ∧ Below w0.heap.size w0 w' :=
  (slAwake_any W h.m.t).mono fun e w' ⟨he, hb⟩ => ⟨he, h.b.trans (hb.mono h.b.size)⟩

namespace Sht
open Mk
theorem rbTs_few (l : List Mill.En) (n : Int) (pick : List Int) (lf nd : List T) : (rbTs l n pick lf nd).length ≤ 12 := by
  unfold rbTs
  split
  · rename_i h
    obtain ⟨h1, h2⟩ := h
    obtain ⟨k, rfl⟩ := Int.eq_ofNat_of_zero_le (show 0 ≤ n by have := h1.1; omega)
    obtain ⟨r, lf1, nd1, hb⟩ := rb_built l h1 (nd := nd) (by have := h2.1; rw [Int.toNat_natCast] at this; omega)
    rw [Int.toNat_natCast]
    have := buildAsks_len l pick k 0 lf nd lf1 nd1 r (by have := h1.1; omega) hb
    have := h1.2.1
    omega
  · exact Nat.zero_le _
theorem rbC_zero {n : Int} {pick : List Int} {lf nd : List T} (h : rbC n pick lf nd = 0) : rbOk n pick lf ∧ rbFit n pick nd := by
  unfold rbC at h
  by_cases h1 : rbOk n pick lf
  · rw [if_pos h1] at h
    by_cases h2 : rbFit n pick nd
    · exact ⟨h1, h2⟩
    · rw [if_neg h2] at h; exact absurd h (by decide)
  · rw [if_neg h1] at h; exact absurd h (by decide)
/-- Leaves of one place that come to one root are one, or two unlike texts were summed to one sum. -/
theorem apart_fin (l : List Mill.En) (hr : Mill.right l = true) (n : Int) (pick : List Int) (a x b y : List T) (ha : Sums a) (hb : Sums b) (hl : a.length = b.length) :
    ((rbC n pick a x != 0) = true) ∨ ((rbC n pick a x != 0) = false ∧ (rbC n pick b y != 0) = true) ∨ ((rbC n pick a x != 0) = false ∧ (rbC n pick b y != 0) = false ∧ (rbV l n pick a x == rbV l n pick b y) = false) ∨
    ((rbC n pick a x != 0) = false ∧ (rbC n pick b y != 0) = false ∧ (rbV l n pick a x == rbV l n pick b y) = true ∧ a = b) ∨
    ((rbC n pick a x != 0) = false ∧ (rbC n pick b y != 0) = false ∧ (rbV l n pick a x == rbV l n pick b y) = true ∧ ¬ a = b ∧ (Mill.steps l (rbTs l n pick b y) (Mill.steps l (rbTs l n pick a x) Mill.fresh)).met = true ∧
      ((Mill.steps l (rbTs l n pick b y) (Mill.steps l (rbTs l n pick a x) Mill.fresh)).a == (Mill.steps l (rbTs l n pick b y) (Mill.steps l (rbTs l n pick a x) Mill.fresh)).b) = false) := by
  have l1 := rbTs_few l n pick a x
  have l2 := rbTs_few l n pick b y
  by_cases c1 : rbC n pick a x = 0
  · have d1 : (rbC n pick a x != 0) = false := by simpa using c1
    by_cases c2 : rbC n pick b y = 0
    · have d2 : (rbC n pick b y != 0) = false := by simpa using c2
      by_cases hv : rbV l n pick a x = rbV l n pick b y
      · have d3 : (rbV l n pick a x == rbV l n pick b y) = true := by simpa using hv
        by_cases hab : a = b
        · exact Or.inr (Or.inr (Or.inr (Or.inl ⟨d1, d2, d3, hab⟩)))
        · refine Or.inr (Or.inr (Or.inr (Or.inr ⟨d1, d2, d3, hab, ?_⟩)))
          obtain ⟨o1, f1⟩ := rbC_zero c1
          obtain ⟨o2, f2⟩ := rbC_zero c2
          obtain ⟨k, rfl⟩ := Int.eq_ofNat_of_zero_le (show 0 ≤ n by have := o1.1; omega)
          obtain ⟨r, lf1, nd1, e1⟩ := rb_built l o1 (nd := x) (by have := f1.1; rw [Int.toNat_natCast] at this; omega)
          obtain ⟨r2, lg1, ne1, e2⟩ := rb_built l o2 (nd := y) (by have := f2.1; rw [Int.toNat_natCast] at this; omega)
          have v1 : rbV l (k : Int) pick a x = r := by unfold rbV; rw [if_pos ⟨o1, f1⟩, Int.toNat_natCast, e1]; rfl
          have v2 : rbV l (k : Int) pick b y = r2 := by unfold rbV; rw [if_pos ⟨o2, f2⟩, Int.toNat_natCast, e2]; rfl
          have t1 : rbTs l (k : Int) pick a x = buildAsks l pick 0 k a x := by unfold rbTs; rw [if_pos ⟨o1, f1⟩, Int.toNat_natCast]
          have t2 : rbTs l (k : Int) pick b y = buildAsks l pick 0 k b y := by unfold rbTs; rw [if_pos ⟨o2, f2⟩, Int.toNat_natCast]
          rw [v1, v2] at hv
          subst hv
          rw [t1] at l1 ⊢
          rw [t2] at l2 ⊢
          rcases build_inj l hr (buildAsks l pick 0 k a x ++ buildAsks l pick 0 k b y) pick (rising_pos o1.2.2.2.2).2 k 0 a x b y lf1 nd1 lg1 ne1 r (by have := o1.1; omega) ha ((allSums_iff x).1 f1.2) hb ((allSums_iff y).1 f2.2)
            (fun z hz => List.mem_append_left _ hz) (fun z hz => List.mem_append_right _ hz) e1 e2 with he | hc
          · have hcnt : cnt pick 0 k = pick.length := rising_cnt o1.2.2.2.2
            rw [hcnt, List.take_of_length_le (by have := o1.2.2.2.1; omega), List.take_of_length_le (by have := o1.2.2.2.1; omega)] at he
            exact absurd he hab
          · rw [← Mill.steps_app]
            obtain ⟨m1, m2⟩ := Mill.twins_coll l _ (by rw [List.length_append]; omega) hc
            exact ⟨m1, by simpa using m2⟩
      · exact Or.inr (Or.inr (Or.inl ⟨d1, d2, by simpa using hv⟩))
    · exact Or.inr (Or.inl ⟨d1, by simpa using c2⟩)
  · exact Or.inl (by simpa using c1)
/-- Are the first leaves unlike? -/
def unl (a b : List T) (k : Nat) : Bool := !decide (a.take k = b.take k)
theorem unl_step (a b : List T) (k : Nat) (ha : k < a.length) (hb : k < b.length) : unl a b (k + 1) = (unl a b k || (a[k]'ha != b[k]'hb)) := by
  unfold unl
  rw [List.take_succ_eq_append_getElem ha, List.take_succ_eq_append_getElem hb]
  by_cases h : a.take k = b.take k
  · by_cases h2 : a[k] = b[k]
    · rw [h, h2]; simp
    · have : ¬ (a.take k ++ [a[k]] = b.take k ++ [b[k]]) := fun e => by
        rw [h] at e
        have := List.append_cancel_left e
        injection this with e1 _
        exact h2 e1
      rw [decide_eq_false this, decide_eq_true h]
      simpa using h2
  · have : ¬ (a.take k ++ [a[k]] = b.take k ++ [b[k]]) := fun e => h (List.append_inj' e rfl).1
    rw [decide_eq_false this, decide_eq_false h]; rfl
theorem unl_end (a b : List T) (k : Nat) (ha : k = a.length) (hb : k = b.length) : unl a b k = !decide (a = b) := by
  unfold unl
  rw [List.take_of_length_le (by omega), List.take_of_length_le (by omega)]
theorem sums_step {a : List T} {k : Nat} (hk : k < a.length) (h : Sums (a.take k)) (h2 : (a[k]'hk).length = 32) : Sums (a.take (k + 1)) := fun s hs => by
  rw [List.take_succ_eq_append_getElem hk] at hs
  rcases List.mem_append.1 hs with hs | hs
  · exact h s hs
  · rw [List.mem_singleton] at hs; rw [hs]; exact h2
end Sht
end Go.Proofs.YtgjknfphmmlcdaaDoor
