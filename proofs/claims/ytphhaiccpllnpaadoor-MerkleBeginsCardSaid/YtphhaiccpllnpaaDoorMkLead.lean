/-
  The contracts of the program's lead and of the seventh layer's statements' own Both.
-/
import Derived.Test.YtphhaiccpllnpaaDoorMkCall
namespace Go.Proofs.YtphhaiccpllnpaaDoor
open Go.RowKit
set_option linter.unusedVariables false

namespace Mk
theorem bothAsks_old (l : List Mill.En) (a n : Nat) (w : Bool) (old : T) (p : List T) (h : (a = n ∧ w = true) ∨ p = []) : bothAsks l a n w old p = [] := by rw [bothAsks, dif_pos h]
theorem bothAsks_all (l : List Mill.En) (n : Nat) (w : Bool) (old : T) (p : List T) : bothAsks l n n w old p = [] := by
  rw [bothAsks]
  split
  · rfl
  · rw [if_pos (Or.inl rfl)]
theorem bothAsks_len (l : List Mill.En) : ∀ (m a n : Nat) (w : Bool) (old : T) (p : List T), p.length = m → (bothAsks l a n w old p).length ≤ 2 * m := by
  intro m
  induction m with
  | zero =>
    intro a n w old p hm
    rw [bothAsks_old l a n w old p (Or.inr (List.length_eq_zero_iff.mp hm))]
    exact Nat.zero_le _
  | succ m ih =>
    intro a n w old p hm
    obtain ⟨q, x, rfl, hq⟩ := snoc_of hm
    rw [bothAsks]
    split
    · exact Nat.zero_le _
    · split
      · exact Nat.zero_le _
      · rw [List.dropLast_concat]
        split
        · have := ih a (below n) w old q hq
          rw [List.length_append]; simp only [List.length_cons, List.length_nil]; omega
        · have := ih (a - below n) (n - below n) false [] q hq
          rw [List.length_append]; simp only [List.length_cons, List.length_nil]; omega
theorem both_short (l : List Mill.En) (hr : Mill.right l = true) (B : Nat) (hB : 32 ≤ B) : ∀ (m a n : Nat) (w : Bool) (old : T) (p : List T), p.length = m → old.length ≤ B → (∀ s, s ∈ p → s.length ≤ B) → (both l a n w old p).1.length ≤ B ∧ (both l a n w old p).2.length ≤ B := by
  intro m
  induction m with
  | zero =>
    intro a n w old p hm ho hp
    rw [both_old l a n w old p (Or.inr (List.length_eq_zero_iff.mp hm))]
    exact ⟨ho, ho⟩
  | succ m ih =>
    intro a n w old p hm ho hp
    obtain ⟨q, x, rfl, hq⟩ := snoc_of hm
    rw [both]
    split
    · exact ⟨ho, ho⟩
    · split
      · rw [last_snoc]; exact ⟨hp x (by simp), hp x (by simp)⟩
      · rw [List.dropLast_concat]
        split
        · refine ⟨(ih a (below n) w old q hq ho (fun s h => hp s (List.mem_append_left _ h))).1, ?_⟩
          rw [node_len l hr]; exact hB
        · refine ⟨?_, ?_⟩ <;> (rw [node_len l hr]; exact hB)
end Mk

section
variable (g nb : Nat) (tv : Option Nat) (l : List Mill.En)

set_option maxRecDepth 100000 in
set_option maxHeartbeats 4000000 in
theorem lead_any (hr : Mill.right l = true) : ∀ (n a : Nat) (whole : Bool) (old fr : List UInt8) (p : List (List UInt8)) (A : Option Addr) (cap : Nat) (st : Mill.St) (w : World), 1 ≤ a → a ≤ n → n ≤ 65536 → (whole = true → old = fr) → p.length = Mk.long a n whole → p.length ≤ cap → cap ≤ 9223372036854775807 →
    RowS w [g, nb] A p → old.length ≤ 1000000 → (∀ s, s ∈ p → s.length ≤ 1000000) → st.sums + 2 * p.length ≤ 4000000000000000000 → MkW w g nb tv l st →
    Calls Tryd.prog 51 #[.pointer (some ⟨g, 0, none⟩), .string (S fr), .int .i64 (a : Int), .int .i64 (n : Int), .bool whole, .slice A p.length cap] w (MkPost w g nb tv l st (Mk.bothAsks l a n whole old p) (.tuple #[.string (S (Mk.both l a n whole old p).1), .string (S (Mk.both l a n whole old p).2)])) := by
  intro n
  induction n using Nat.strongRecOn with
  | ind n ih =>
    intro a whole old fr p A cap st w h1 han hn6 hof hp hcap hcm hrow hold hs hsum hm
    by_cases he : a = n
    · subst he
      rw [Mk.long_all whole rfl] at hp
      rw [Mk.bothAsks_all]
      clear ih
      cases whole with
      | true =>
        have hpn := List.length_eq_zero_iff.mp hp
        subst hpn
        rw [Mk.both_old l a a true old [] (Or.inl ⟨rfl, rfl⟩), hof rfl]
        have HM := Lib.hid hm; clear hm hrow
        go_enter Tryd.func51, Tryd.ntmps51
        go_wp2_with fail
        go_ret2
        exact ⟨rfl, HM.out, Mv.refl _ _⟩
      | false =>
        obtain ⟨q, x, rfl, hq⟩ := Mk.snoc_of (show p.length = 0 + 1 from hp)
        obtain ⟨b, off, rfl, hb, hbs, hrw⟩ := hrow (by simp)
        rw [Mk.both_last]
        have hq0 := List.length_eq_zero_iff.mp hq
        subst hq0
        have hlen : (([] : List (List UInt8)) ++ [x]).length = 1 := rfl
        rw [hlen] at hcap ⊢
        have HC := Lib.hid (cut_any b off cap [] x w hrw hcap hcm)
        have HM := Lib.hid hm; clear hm hrow hrw
        go_enter Tryd.func51, Tryd.ntmps51
        go_wp2_with fail
        refine (HC.out).mono ?_
        rintro e w1 ⟨rfl, hb1w⟩
        go_wp2_with fail
        go_ret2
        exact ⟨rfl, HM.out.below hb1w, Mv.of_below hb1w _⟩
    · have h2 : 2 ≤ n := by omega
      have hlt := Mk.below_lt h2
      have hpos := Mk.below_pos n
      have hB := fun W => splitB_any n W h2 hn6
      have hb1 : ((a : Int) == (n : Int)) = false := by simpa using (show ¬ (a : Int) = (n : Int) by omega)
      skip
      have hd : p.length = (if a ≤ Mk.below n then Mk.long a (Mk.below n) whole else Mk.long (a - Mk.below n) (n - Mk.below n) false) + 1 := by
        rw [hp]; by_cases hik : a ≤ Mk.below n
        · rw [Mk.long_left whole he h2 hik, if_pos hik]
        · rw [Mk.long_right whole he h2 hik, if_neg hik]
      obtain ⟨q, x, rfl, hq⟩ := Mk.snoc_of hd
      obtain ⟨b, off, rfl, hb, hbs, hrw⟩ := hrow (by simp)
      have hx := hs x (by simp)
      have hsq : ∀ s, s ∈ q → s.length ≤ 1000000 := fun s h => hs s (List.mem_append_left _ h)
      have hlen : (q ++ [x]).length = q.length + 1 := by simp
      rw [hlen] at hcap hsum ⊢
      have hC := fun W (hW : Mv w W [g, nb]) => cut_any b off cap q x W (hrw.mv hW hb hbs) hcap hcm
      by_cases hik : a ≤ Mk.below n
      · rw [if_pos hik] at hq
        rw [Mk.bothAsks_left l a n whole old q x he h2 hik, Mk.both_left l a n whole old q x he h2 hik]
        dsimp only
        have hI := fun w1 (hv : Mv w w1 [g, nb]) hm1 => ih (Mk.below n) hlt a whole old fr q (some ⟨b, off, none⟩) q.length st w1 h1 hik (by omega) hof hq (Nat.le_refl _) (by omega) (RowS.of (Nat.lt_of_lt_of_le hb hv.size) hbs (hrw.front.mv hv hb hbs)) hold hsq (by omega) hm1
        have hal := Mk.bothAsks_len l q.length a (Mk.below n) whole old q rfl
        have hcl := Mk.both_short l hr 1000000 (by omega) q.length a (Mk.below n) whole old q rfl hold hsq
        have hN := fun w2 hm2 => mkNode_any g nb tv l hr (Mill.steps l (Mk.bothAsks l a (Mk.below n) whole old q) st) w2 (Mk.both l a (Mk.below n) whole old q).2 x hm2 (by omega) (by omega) (by rw [Mill.steps_sums]; omega)
        have HM := Lib.hid hm
        unfold MkPost at hI hN ⊢
        rw [Mill.steps_app]
        clear ih hrow hs hsum hm hold hsq hrw hal hcl hp hd hof
        generalize (Mk.both l a (Mk.below n) whole old q).1 = y1 at *
        generalize (Mk.both l a (Mk.below n) whole old q).2 = y2 at *
        generalize Mk.node l y2 x = z2 at *
        generalize [(1 :: y2) ++ x] = tx at *
        generalize Mk.bothAsks l a (Mk.below n) whole old q = ts at *
        generalize Mk.below n = k at *
        generalize Mill.steps l tx (Mill.steps l ts st) = st2 at *
        generalize Mill.steps l ts st = st1 at *
        have HI := Lib.hid hI; clear hI
        have HN := Lib.hid hN; clear hN
        have HB := Lib.hid hB; clear hB
        have HC := Lib.hid hC; clear hC
        have hik' : (a : Int) ≤ (k : Int) := by omega
        clear hq hlen he
        generalize q.length = qn at *
        go_enter Tryd.func51, Tryd.ntmps51
        go_wp2_with fail
        refine (HC.out _ (Mv.refl _ _)).mono ?_
        rintro e w1 ⟨rfl, hb1w⟩
        have hv1 := Mv.of_below hb1w [g, nb]
        have hm1 := HM.out.below hb1w
        go_wp2_with fail
        refine (HB.out _).mono ?_
        rintro e w0 ⟨rfl, rfl⟩
        go_wp2_with fail
        refine (HI.out w0 hv1 hm1).mono ?_
        rintro e w2 ⟨rfl, hm2, hv2⟩
        go_wp2_with fail
        refine (HN.out w2 hm2).mono ?_
        rintro e w3 ⟨rfl, hm3, hv3⟩
        go_wp2_with fail
        go_ret2
        exact ⟨rfl, hm3, (hv1.trans hv2).trans hv3⟩
      · rw [if_neg hik] at hq
        rw [Mk.bothAsks_right l a n whole old q x he h2 hik, Mk.both_right l a n whole old q x he h2 hik]
        dsimp only
        have hI := fun w1 (hv : Mv w w1 [g, nb]) hm1 => ih (n - Mk.below n) (by omega) (a - Mk.below n) false [] fr q (some ⟨b, off, none⟩) q.length st w1 (by omega) (by omega) (by omega) (fun h => by cases h) hq (Nat.le_refl _) (by omega) (RowS.of (Nat.lt_of_lt_of_le hb hv.size) hbs (hrw.front.mv hv hb hbs)) (Nat.zero_le _) hsq (by omega) hm1
        have hal := Mk.bothAsks_len l q.length (a - Mk.below n) (n - Mk.below n) false [] q rfl
        have hcl := Mk.both_short l hr 1000000 (by omega) q.length (a - Mk.below n) (n - Mk.below n) false [] q rfl (Nat.zero_le _) hsq
        have hN := fun w2 hm2 => mkNode_any g nb tv l hr (Mill.steps l (Mk.bothAsks l (a - Mk.below n) (n - Mk.below n) false [] q) st) w2 x (Mk.both l (a - Mk.below n) (n - Mk.below n) false [] q).1 hm2 (by omega) (by omega) (by rw [Mill.steps_sums]; omega)
        have hN2 := fun w2 hm2 => mkNode_any g nb tv l hr (Mill.steps l [(1 :: x) ++ (Mk.both l (a - Mk.below n) (n - Mk.below n) false [] q).1] (Mill.steps l (Mk.bothAsks l (a - Mk.below n) (n - Mk.below n) false [] q) st)) w2 x (Mk.both l (a - Mk.below n) (n - Mk.below n) false [] q).2 hm2 (by omega) (by omega) (by rw [Mill.steps_sums, Mill.steps_sums]; simp only [List.length_cons, List.length_nil]; omega)
        have hsp : Mill.steps l [(1 :: x) ++ (Mk.both l (a - Mk.below n) (n - Mk.below n) false [] q).1, (1 :: x) ++ (Mk.both l (a - Mk.below n) (n - Mk.below n) false [] q).2] (Mill.steps l (Mk.bothAsks l (a - Mk.below n) (n - Mk.below n) false [] q) st) = Mill.steps l [(1 :: x) ++ (Mk.both l (a - Mk.below n) (n - Mk.below n) false [] q).2] (Mill.steps l [(1 :: x) ++ (Mk.both l (a - Mk.below n) (n - Mk.below n) false [] q).1] (Mill.steps l (Mk.bothAsks l (a - Mk.below n) (n - Mk.below n) false [] q) st)) := rfl
        rw [show ((a - Mk.below n : Nat) : Int) = (a : Int) - (Mk.below n : Int) from by omega, show ((n - Mk.below n : Nat) : Int) = (n : Int) - (Mk.below n : Int) from by omega] at hI
        have HM := Lib.hid hm
        unfold MkPost at hI hN hN2 ⊢
        rw [Mill.steps_app, hsp]
        clear hsp
        clear ih hrow hs hsum hm hold hsq hrw hal hcl hp hd hof
        generalize (Mk.both l (a - Mk.below n) (n - Mk.below n) false [] q).1 = y1 at *
        generalize (Mk.both l (a - Mk.below n) (n - Mk.below n) false [] q).2 = y2 at *
        generalize Mk.node l x y1 = z1 at *
        generalize Mk.node l x y2 = z2 at *
        generalize [(1 :: x) ++ y1] = tx at *
        generalize [(1 :: x) ++ y2] = tx2 at *
        generalize Mk.bothAsks l (a - Mk.below n) (n - Mk.below n) false [] q = ts at *
        generalize Mk.below n = k at *
        generalize Mill.steps l tx2 (Mill.steps l tx (Mill.steps l ts st)) = st3 at *
        generalize Mill.steps l tx (Mill.steps l ts st) = st2 at *
        generalize Mill.steps l ts st = st1 at *
        have HI := Lib.hid hI; clear hI
        have HN := Lib.hid hN; clear hN
        have HN2 := Lib.hid hN2; clear hN2
        have HB := Lib.hid hB; clear hB
        have HC := Lib.hid hC; clear hC
        have hik' : ¬ (a : Int) ≤ (k : Int) := by omega
        clear hq hlen he
        generalize q.length = qn at *
        go_enter Tryd.func51, Tryd.ntmps51
        go_wp2_with fail
        refine (HC.out _ (Mv.refl _ _)).mono ?_
        rintro e w1 ⟨rfl, hb1w⟩
        have hv1 := Mv.of_below hb1w [g, nb]
        have hm1 := HM.out.below hb1w
        go_wp2_with fail
        refine (HB.out _).mono ?_
        rintro e w0 ⟨rfl, rfl⟩
        go_wp2_with fail
        refine (HI.out w0 hv1 hm1).mono ?_
        rintro e w2 ⟨rfl, hm2, hv2⟩
        go_wp2_with fail
        refine (HN.out w2 hm2).mono ?_
        rintro e w3 ⟨rfl, hm3, hv3⟩
        go_wp2_with fail
        refine (HN2.out w3 hm3).mono ?_
        rintro e w4 ⟨rfl, hm4, hv4⟩
        go_wp2_with fail
        go_ret2
        exact ⟨rfl, hm4, ((hv1.trans hv2).trans hv3).trans hv4⟩

set_option maxRecDepth 100000 in
set_option maxHeartbeats 4000000 in
theorem mkBoth_any (hr : Mill.right l = true) : ∀ (n a : Nat) (whole : Bool) (old fr : List UInt8) (p : List (List UInt8)) (A : Option Addr) (cap : Nat) (st : Mill.St) (w : World), 1 ≤ a → a ≤ n → n ≤ 65536 → (whole = true → old = fr) → p.length = Mk.long a n whole → p.length ≤ cap → cap ≤ 9223372036854775807 →
    RowS w [g, nb] A p → old.length ≤ 1000000 → (∀ s, s ∈ p → s.length ≤ 1000000) → st.sums + 2 * p.length ≤ 4000000000000000000 → MkW w g nb tv l st →
    Calls Tryd.prog 32 #[.pointer (some ⟨g, 0, none⟩), .int .i64 (a : Int), .int .i64 (n : Int), .bool whole, .string (S fr), .slice A p.length cap] w (MkPost w g nb tv l st (Mk.bothAsks l a n whole old p) (.tuple #[.string (S (Mk.both l a n whole old p).1), .string (S (Mk.both l a n whole old p).2)])) := by
  intro n
  induction n using Nat.strongRecOn with
  | ind n ih =>
    intro a whole old fr p A cap st w h1 han hn6 hof hp hcap hcm hrow hold hs hsum hm
    by_cases he : a = n
    · subst he
      rw [Mk.long_all whole rfl] at hp
      rw [Mk.bothAsks_all]
      clear ih
      cases whole with
      | true =>
        have hpn := List.length_eq_zero_iff.mp hp
        subst hpn
        rw [Mk.both_old l a a true old [] (Or.inl ⟨rfl, rfl⟩), hof rfl]
        have HM := Lib.hid hm; clear hm hrow
        go_enter Tryd.func32, Tryd.ntmps32
        go_wp2_with fail
        go_ret2
        exact ⟨rfl, HM.out, Mv.refl _ _⟩
      | false =>
        obtain ⟨q, x, rfl, hq⟩ := Mk.snoc_of (show p.length = 0 + 1 from hp)
        obtain ⟨b, off, rfl, hb, hbs, hrw⟩ := hrow (by simp)
        rw [Mk.both_last]
        have hq0 := List.length_eq_zero_iff.mp hq
        subst hq0
        have hlen : (([] : List (List UInt8)) ++ [x]).length = 1 := rfl
        rw [hlen] at hcap ⊢
        have hcell : w.cell? ⟨b, off + 0, none⟩ = some (.string (S x)) := hrw 0 (by simp)
        have hcell0 : w.cell? ⟨b, off, none⟩ = some (.string (S x)) := hcell
        have HM := Lib.hid hm; clear hm hrow hrw
        go_enter Tryd.func32, Tryd.ntmps32
        go_wp2_with fail
        go_ret2
        exact ⟨rfl, HM.out, Mv.refl _ _⟩
    · have h2 : 2 ≤ n := by omega
      have hlt := Mk.below_lt h2
      have hpos := Mk.below_pos n
      have hB := fun W => mkBelow_any n h2 (by omega) W
      have hb1 : ((a : Int) == (n : Int)) = false := by simpa using (show ¬ (a : Int) = (n : Int) by omega)
      have hb2 : ¬ (n : Int) < 2 := by omega
      have hd : p.length = (if a ≤ Mk.below n then Mk.long a (Mk.below n) whole else Mk.long (a - Mk.below n) (n - Mk.below n) false) + 1 := by
        rw [hp]; by_cases hik : a ≤ Mk.below n
        · rw [Mk.long_left whole he h2 hik, if_pos hik]
        · rw [Mk.long_right whole he h2 hik, if_neg hik]
      obtain ⟨q, x, rfl, hq⟩ := Mk.snoc_of hd
      obtain ⟨b, off, rfl, hb, hbs, hrw⟩ := hrow (by simp)
      have hx := hs x (by simp)
      have hsq : ∀ s, s ∈ q → s.length ≤ 1000000 := fun s h => hs s (List.mem_append_left _ h)
      have hlen : (q ++ [x]).length = q.length + 1 := by simp
      rw [hlen] at hcap hsum ⊢
      have hcell : w.cell? ⟨b, off + q.length, none⟩ = some (.string (S x)) := by
        have := hrw q.length (by simp)
        simpa using this
      have hq0 : (((q.length : Nat) : Int) + 1 == 0) = false := by simpa using (show ¬ ((q.length : Nat) : Int) + 1 = 0 by omega)
      by_cases hik : a ≤ Mk.below n
      · rw [if_pos hik] at hq
        rw [Mk.bothAsks_left l a n whole old q x he h2 hik, Mk.both_left l a n whole old q x he h2 hik]
        dsimp only
        have hI := fun w1 (hv : Mv w w1 [g, nb]) hm1 => ih (Mk.below n) hlt a whole old fr q (some ⟨b, off, none⟩) cap st w1 h1 hik (by omega) hof hq (by omega) hcm (RowS.of (Nat.lt_of_lt_of_le hb hv.size) hbs (hrw.front.mv hv hb hbs)) hold hsq (by omega) hm1
        have hal := Mk.bothAsks_len l q.length a (Mk.below n) whole old q rfl
        have hcl := Mk.both_short l hr 1000000 (by omega) q.length a (Mk.below n) whole old q rfl hold hsq
        have hN := fun w2 hm2 => mkNode_any g nb tv l hr (Mill.steps l (Mk.bothAsks l a (Mk.below n) whole old q) st) w2 (Mk.both l a (Mk.below n) whole old q).2 x hm2 (by omega) (by omega) (by rw [Mill.steps_sums]; omega)
        have HM := Lib.hid hm
        unfold MkPost at hI hN ⊢
        rw [Mill.steps_app]
        clear ih hrow hs hsum hm hold hsq hrw hal hcl hp hd hof
        generalize (Mk.both l a (Mk.below n) whole old q).1 = y1 at *
        generalize (Mk.both l a (Mk.below n) whole old q).2 = y2 at *
        generalize Mk.node l y2 x = z2 at *
        generalize [(1 :: y2) ++ x] = tx at *
        generalize Mk.bothAsks l a (Mk.below n) whole old q = ts at *
        generalize Mk.below n = k at *
        generalize Mill.steps l tx (Mill.steps l ts st) = st2 at *
        generalize Mill.steps l ts st = st1 at *
        have HI := Lib.hid hI; clear hI
        have HN := Lib.hid hN; clear hN
        have HB := Lib.hid hB; clear hB

        have hik' : (a : Int) ≤ (k : Int) := by omega
        clear hq hlen he
        generalize q.length = qn at *
        go_enter Tryd.func32, Tryd.ntmps32
        go_wp2_with fail
        refine (HB.out _).mono ?_
        rintro e w0 ⟨rfl, rfl⟩
        have hv1 := Mv.refl w0 [g, nb]
        have hm1 := HM.out
        go_wp2_with fail
        refine (HI.out w0 hv1 hm1).mono ?_
        rintro e w2 ⟨rfl, hm2, hv2⟩
        go_wp2_with fail
        refine (HN.out w2 hm2).mono ?_
        rintro e w3 ⟨rfl, hm3, hv3⟩
        go_wp2_with fail
        go_ret2
        exact ⟨rfl, hm3, (hv1.trans hv2).trans hv3⟩
      · rw [if_neg hik] at hq
        rw [Mk.bothAsks_right l a n whole old q x he h2 hik, Mk.both_right l a n whole old q x he h2 hik]
        dsimp only
        have hI := fun w1 (hv : Mv w w1 [g, nb]) hm1 => ih (n - Mk.below n) (by omega) (a - Mk.below n) false [] [] q (some ⟨b, off, none⟩) cap st w1 (by omega) (by omega) (by omega) (fun h => by cases h) hq (by omega) hcm (RowS.of (Nat.lt_of_lt_of_le hb hv.size) hbs (hrw.front.mv hv hb hbs)) (Nat.zero_le _) hsq (by omega) hm1
        have hal := Mk.bothAsks_len l q.length (a - Mk.below n) (n - Mk.below n) false [] q rfl
        have hcl := Mk.both_short l hr 1000000 (by omega) q.length (a - Mk.below n) (n - Mk.below n) false [] q rfl (Nat.zero_le _) hsq
        have hN := fun w2 hm2 => mkNode_any g nb tv l hr (Mill.steps l (Mk.bothAsks l (a - Mk.below n) (n - Mk.below n) false [] q) st) w2 x (Mk.both l (a - Mk.below n) (n - Mk.below n) false [] q).1 hm2 (by omega) (by omega) (by rw [Mill.steps_sums]; omega)
        have hN2 := fun w2 hm2 => mkNode_any g nb tv l hr (Mill.steps l [(1 :: x) ++ (Mk.both l (a - Mk.below n) (n - Mk.below n) false [] q).1] (Mill.steps l (Mk.bothAsks l (a - Mk.below n) (n - Mk.below n) false [] q) st)) w2 x (Mk.both l (a - Mk.below n) (n - Mk.below n) false [] q).2 hm2 (by omega) (by omega) (by rw [Mill.steps_sums, Mill.steps_sums]; simp only [List.length_cons, List.length_nil]; omega)
        have hsp : Mill.steps l [(1 :: x) ++ (Mk.both l (a - Mk.below n) (n - Mk.below n) false [] q).1, (1 :: x) ++ (Mk.both l (a - Mk.below n) (n - Mk.below n) false [] q).2] (Mill.steps l (Mk.bothAsks l (a - Mk.below n) (n - Mk.below n) false [] q) st) = Mill.steps l [(1 :: x) ++ (Mk.both l (a - Mk.below n) (n - Mk.below n) false [] q).2] (Mill.steps l [(1 :: x) ++ (Mk.both l (a - Mk.below n) (n - Mk.below n) false [] q).1] (Mill.steps l (Mk.bothAsks l (a - Mk.below n) (n - Mk.below n) false [] q) st)) := rfl
        rw [show ((a - Mk.below n : Nat) : Int) = (a : Int) - (Mk.below n : Int) from by omega, show ((n - Mk.below n : Nat) : Int) = (n : Int) - (Mk.below n : Int) from by omega] at hI
        rw [show S [] = (⟨#[]⟩ : ByteArray) from rfl] at hI
        have HM := Lib.hid hm
        unfold MkPost at hI hN hN2 ⊢
        rw [Mill.steps_app, hsp]
        clear hsp
        clear ih hrow hs hsum hm hold hsq hrw hal hcl hp hd hof
        generalize (Mk.both l (a - Mk.below n) (n - Mk.below n) false [] q).1 = y1 at *
        generalize (Mk.both l (a - Mk.below n) (n - Mk.below n) false [] q).2 = y2 at *
        generalize Mk.node l x y1 = z1 at *
        generalize Mk.node l x y2 = z2 at *
        generalize [(1 :: x) ++ y1] = tx at *
        generalize [(1 :: x) ++ y2] = tx2 at *
        generalize Mk.bothAsks l (a - Mk.below n) (n - Mk.below n) false [] q = ts at *
        generalize Mk.below n = k at *
        generalize Mill.steps l tx2 (Mill.steps l tx (Mill.steps l ts st)) = st3 at *
        generalize Mill.steps l tx (Mill.steps l ts st) = st2 at *
        generalize Mill.steps l ts st = st1 at *
        have HI := Lib.hid hI; clear hI
        have HN := Lib.hid hN; clear hN
        have HN2 := Lib.hid hN2; clear hN2
        have HB := Lib.hid hB; clear hB

        have hik' : ¬ (a : Int) ≤ (k : Int) := by omega
        clear hq hlen he
        generalize q.length = qn at *
        go_enter Tryd.func32, Tryd.ntmps32
        go_wp2_with fail
        refine (HB.out _).mono ?_
        rintro e w0 ⟨rfl, rfl⟩
        have hv1 := Mv.refl w0 [g, nb]
        have hm1 := HM.out
        go_wp2_with fail
        refine (HI.out w0 hv1 hm1).mono ?_
        rintro e w2 ⟨rfl, hm2, hv2⟩
        go_wp2_with fail
        refine (HN.out w2 hm2).mono ?_
        rintro e w3 ⟨rfl, hm3, hv3⟩
        go_wp2_with fail
        refine (HN2.out w3 hm3).mono ?_
        rintro e w4 ⟨rfl, hm4, hv4⟩
        go_wp2_with fail
        go_ret2
        exact ⟨rfl, hm4, ((hv1.trans hv2).trans hv3).trans hv4⟩
end
end Go.Proofs.YtphhaiccpllnpaaDoor
