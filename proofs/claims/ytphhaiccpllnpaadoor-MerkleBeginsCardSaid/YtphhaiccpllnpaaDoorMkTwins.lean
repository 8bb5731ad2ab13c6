/-
  A mill with a table behind a world; the program's Climb, told whole: what it answers, right or wrong.
-/
import Derived.Test.YtphhaiccpllnpaaDoorMkArg
import Derived.Test.YtphhaiccpllnpaaDoorMkClimbE
namespace Go.Proofs.YtphhaiccpllnpaaDoor
open Go.RowKit
set_option linter.unusedVariables false

/-- A mill with the table l that was made behind w0. -/
structure OneT (w0 W : World) (tv : Option Nat) (l : List Mill.En) (st : Mill.St) : Prop where
  m : MkW W (w0.heap.size + 1) w0.heap.size tv l st
  b : Below w0.heap.size w0 W
theorem OneT.below {w0 W W' : World} {tv : Option Nat} {l : List Mill.En} {st : Mill.St} (h : OneT w0 W tv l st) (hb : Below W.heap.size W W') : OneT w0 W' tv l st := ⟨h.m.below hb, h.b.trans (hb.mono h.b.size)⟩
theorem OneT.step {w0 W W' : World} {tv : Option Nat} {l : List Mill.En} {st st' : Mill.St} (h : OneT w0 W tv l st) (hm : MkW W' (w0.heap.size + 1) w0.heap.size tv l st') (hv : Mv W W' [w0.heap.size + 1, w0.heap.size]) : OneT w0 W' tv l st' :=
  ⟨hm, slip_tied hv (Nat.le_succ _) (Nat.le_refl _) h.b.size h.b⟩
theorem OneT.awake {w0 W : World} {tv : Option Nat} {l : List Mill.En} {st : Mill.St} (h : OneT w0 W tv l st) : Calls Tryd.prog 20 #[] W fun e w' => e = .returned (.bool true) ∧ Below w0.heap.size w0 w' :=
  (awakeMk_any W h.m.t).mono fun e w' ⟨he, hb⟩ => ⟨he, h.b.trans (hb.mono h.b.size)⟩

namespace Mk
/-- Whether Climb is asked within its bounds, and whether its path may be one. -/
def climbOk (leaf : T) (i n : Int) (p : List T) : Prop := (1 ≤ n ∧ n ≤ 65536 ∧ 0 ≤ i ∧ i < n) ∧ p.length = depth i.toNat n.toNat ∧ leaf.length = 32 ∧ allSums p = true
instance (leaf : T) (i n : Int) (p : List T) : Decidable (climbOk leaf i n p) := by unfold climbOk; infer_instance
def climbV (l : List Mill.En) (leaf : T) (i n : Int) (p : List T) : T := if climbOk leaf i n p then climb l leaf i.toNat n.toNat p else []
def climbC (leaf : T) (i n : Int) (p : List T) : Int := if climbOk leaf i n p then 0 else if 1 ≤ n ∧ n ≤ 65536 ∧ 0 ≤ i ∧ i < n then 20 else 21
def climbTs (l : List Mill.En) (leaf : T) (i n : Int) (p : List T) : List T := if climbOk leaf i n p then climbAsks l leaf i.toNat n.toNat p else []
theorem climbTs_len (l : List Mill.En) (leaf : T) (i n : Int) (p : List T) : (climbTs l leaf i n p).length ≤ 16 := by
  unfold climbTs
  split
  · rename_i h
    obtain ⟨⟨h1, h2, h3, h4⟩, h5, _⟩ := h
    have := climbAsks_len l leaf i.toNat n.toNat p
    have hd := depth_le 16 n.toNat i.toNat (by omega) (by omega)
    omega
  · exact Nat.zero_le _
end Mk

set_option maxRecDepth 100000 in
theorem mClimb_any (g nb : Nat) (tv : Option Nat) (l : List Mill.En) (hr : Mill.right l = true) (i n : Int) (leaf : List UInt8) (p : List (List UInt8)) (A : Option Addr) (cap : Nat) (st : Mill.St) (w : World) (hcap : p.length ≤ cap) (hcm : cap ≤ 9223372036854775807)
    (hrow : RowS w [g, nb] A p) (hsum : st.sums ≤ 1000000) (hm : MkW w g nb tv l st) :
    Calls Tryd.prog 22 #[.pointer (some ⟨g, 0, none⟩), .string (S leaf), .int .i64 i, .int .i64 n, .slice A p.length cap] w (MkPost w g nb tv l st (Mk.climbTs l leaf i n p) (.tuple #[.string (S (Mk.climbV l leaf i n p)), .int .i64 (Mk.climbC leaf i n p)])) := by
  by_cases hsz : 1 ≤ n ∧ n ≤ 65536 ∧ 0 ≤ i ∧ i < n
  · by_cases hok : p.length = Mk.depth i.toNat n.toNat ∧ leaf.length = 32 ∧ Mk.allSums p = true
    · have hc : Mk.climbOk leaf i n p := ⟨hsz, hok⟩
      unfold Mk.climbTs Mk.climbV Mk.climbC
      rw [if_pos hc, if_pos hc, if_pos hc]
      obtain ⟨h1, h2, h3, h4⟩ := hsz
      have hd := Mk.depth_le 16 n.toNat i.toNat (by omega) (by omega)
      have := mClimb_ok g nb tv l hr i.toNat n.toNat leaf p A cap st w (by omega) (by omega) (by omega) hcap hcm hrow hok.1 hok.2.1 hok.2.2 (by omega) hm
      rwa [Int.toNat_of_nonneg h3, Int.toNat_of_nonneg (by omega)] at this
    · have hc : ¬ Mk.climbOk leaf i n p := fun h => hok h.2
      unfold Mk.climbTs Mk.climbV Mk.climbC
      rw [if_neg hc, if_neg hc, if_neg hc, if_pos hsz]
      obtain ⟨h1, h2, h3, h4⟩ := hsz
      have := mClimb_proof g i.toNat n.toNat leaf p A cap w (by omega) (by omega) (by omega) hcap hcm (fun hl => by
        obtain ⟨b, off, hA, hb, hn, hr⟩ := hrow hl
        exact ⟨b, off, hA, hb, (by simp), hr⟩) hok
      rw [Int.toNat_of_nonneg h3, Int.toNat_of_nonneg (by omega)] at this
      exact this.mono fun e w' ⟨he, hb⟩ => ⟨he, hm.below hb, Mv.of_below hb _⟩
  · have hc : ¬ Mk.climbOk leaf i n p := fun h => hsz h.1
    unfold Mk.climbTs Mk.climbV Mk.climbC
    rw [if_neg hc, if_neg hc, if_neg hc, if_neg hsz]
    exact (mClimb_size g i n leaf A p.length cap w hsz).mono fun e w' ⟨he, hb⟩ => ⟨he, by rw [hb]; exact hm, by rw [hb]; exact Mv.refl _ _⟩

namespace Mk
/-- Who is believed twice has twins. -/
theorem leaf_fin (l : List Mill.En) (hr : Mill.right l = true) (i n : Int) (a b : T) (p q : List T) :
    ((climbC a i n p != 0) = true) ∨ ((climbC a i n p != 0) = false ∧ (climbC b i n q != 0) = true) ∨ ((climbC a i n p != 0) = false ∧ (climbC b i n q != 0) = false ∧ (climbV l a i n p == climbV l b i n q) = false) ∨
    ((climbC a i n p != 0) = false ∧ (climbC b i n q != 0) = false ∧ (climbV l a i n p == climbV l b i n q) = true ∧ (a == b) = true) ∨
    ((climbC a i n p != 0) = false ∧ (climbC b i n q != 0) = false ∧ (climbV l a i n p == climbV l b i n q) = true ∧ (a == b) = false ∧ (Mill.steps l (climbTs l b i n q) (Mill.steps l (climbTs l a i n p) Mill.fresh)).met = true ∧
      ((Mill.steps l (climbTs l b i n q) (Mill.steps l (climbTs l a i n p) Mill.fresh)).a == (Mill.steps l (climbTs l b i n q) (Mill.steps l (climbTs l a i n p) Mill.fresh)).b) = false) := by
  have h16a := climbTs_len l a i n p
  have h16b := climbTs_len l b i n q
  by_cases ha : climbOk a i n p
  · by_cases hb : climbOk b i n q
    · unfold climbC climbV climbTs at *
      rw [if_pos ha] at h16a ⊢
      rw [if_pos ha, if_pos ha]
      rw [if_pos hb] at h16b ⊢
      rw [if_pos hb, if_pos hb]
      by_cases hx : climb l a i.toNat n.toNat p = climb l b i.toNat n.toNat q
      · by_cases hab : a = b
        · exact Or.inr (Or.inr (Or.inr (Or.inl ⟨by decide, by decide, by simpa using hx, by simpa using hab⟩)))
        · refine Or.inr (Or.inr (Or.inr (Or.inr ⟨by decide, by decide, by simpa using hx, by simpa using hab, ?_⟩)))
          obtain ⟨⟨h1, h2, h3, h4⟩, h5, h6, h7⟩ := ha
          obtain ⟨_, k5, k6, k7⟩ := hb
          rcases climb_inj l hr (climbAsks l a i.toNat n.toNat p ++ climbAsks l b i.toNat n.toNat q) n.toNat i.toNat a b p q (by omega) h6 k6 ((allSums_iff p).1 h7) ((allSums_iff q).1 k7) h5 k5 (fun x hx => List.mem_append_left _ hx) (fun x hx => List.mem_append_right _ hx) hx with he | hc
          · exact absurd he hab
          · rw [← Mill.steps_app]
            obtain ⟨e1, e2⟩ := Mill.twins_coll l _ (by rw [List.length_append]; omega) hc
            exact ⟨e1, by simpa using e2⟩
      · exact Or.inr (Or.inr (Or.inl ⟨by decide, by decide, by simpa using hx⟩))
    · have h2 : (climbC b i n q != 0) = true := by
        unfold climbC; rw [if_neg hb]; split <;> decide
      have h1 : (climbC a i n p != 0) = false := by
        unfold climbC; rw [if_pos ha]; decide
      exact Or.inr (Or.inl ⟨h1, h2⟩)
  · have h1 : (climbC a i n p != 0) = true := by
      unfold climbC; rw [if_neg ha]; split <;> decide
    exact Or.inl h1
end Mk
end Go.Proofs.YtphhaiccpllnpaaDoor
