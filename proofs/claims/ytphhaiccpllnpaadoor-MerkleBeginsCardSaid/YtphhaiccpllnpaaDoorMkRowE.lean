/-
  The contracts of the program's Path and Growth, and of the seventh layer's statements' own Growth.
-/
import Derived.Test.YtphhaiccpllnpaaDoorMkGrowth
namespace Go.Proofs.YtphhaiccpllnpaaDoor
open Go.RowKit
set_option linter.unusedVariables false

/-- .. and an error beside the row. -/
def RowPostE (w : World) (g nb : Nat) (tv : Option Nat) (l : List Mill.En) (st : Mill.St) (R : List (List UInt8)) (bnd : Nat) (er : Int) (e : Ending) (w' : World) : Prop :=
  ∃ (v : Value) (ts : List (List UInt8)), e = .returned (.tuple #[v, .int .i64 er]) ∧ w'.ownsRow w.heap.size 9 1 v R.length (tvs R) ∧ ts.length ≤ bnd ∧ MkW w' g nb tv l (Mill.steps l ts st) ∧ Mv w w' [g, nb]

section
variable (g nb : Nat) (tv : Option Nat) (l : List Mill.En)

set_option maxHeartbeats 2000000 in
theorem mPath_none (A : Option Addr) (n cap : Nat) (i : Int) (w : World) (hb : ¬ (0 ≤ i ∧ i < (n : Int))) :
    Calls Tryd.prog 21 #[.pointer (some ⟨g, 0, none⟩), .slice A n cap, .int .i64 i] w fun e w' => e = .returned (.tuple #[.slice none 0 0, .int .i64 7]) ∧ w' = w := by
  by_cases h1 : i < 0
  · go_enter Tryd.func21, Tryd.ntmps21
    go_wp2_with fail
    go_ret2
    exact ⟨rfl, rfl⟩
  · have h4 : i ≥ (n : Int) := by omega
    go_enter Tryd.func21, Tryd.ntmps21
    go_wp2_with fail
    go_ret2
    exact ⟨rfl, rfl⟩
set_option maxHeartbeats 2000000 in
theorem mPath_any (hr : Mill.right l = true) (A : Option Addr) (L : List (List UInt8)) (i cap : Nat) (st : Mill.St) (w : World) (hn6 : L.length ≤ 65536) (hi : i < L.length) (hcap : L.length ≤ cap) (hcm : cap ≤ 9223372036854775807)
    (hrow : RowS w [g, nb] A L) (hs : ∀ s, s ∈ L → s.length ≤ 1000000) (hsum : st.sums + 4 * L.length ≤ 4000000000000000000) (hm : MkW w g nb tv l st) :
    Calls Tryd.prog 21 #[.pointer (some ⟨g, 0, none⟩), .slice A L.length cap, .int .i64 (i : Int)] w (RowPostE w g nb tv l st (Mk.path l L i) (2 * L.length) 0) := by
  obtain ⟨b, off, rfl, hb, hn, hr'⟩ := hrow (fun e => by rw [e] at hi; exact absurd hi (Nat.not_lt_zero _))
  have HS := Lib.hid (path_any g nb tv l hr b hn L.length L i off cap st w rfl (by omega) hn6 hi hcap hcm hr' hb hs hsum hm)
  unfold RowPost at HS
  unfold RowPostE
  have c1 : ¬ (i : Int) < 0 := by omega
  have c2 : ¬ (i : Int) ≥ (L.length : Int) := by omega
  generalize Mk.path l L i = R at HS ⊢
  clear hm hsum hr hrow hs hr'
  generalize L.length = n at *
  go_enter Tryd.func21, Tryd.ntmps21
  go_wp2_with fail
  refine (HS.out).mono ?_
  rintro e w5 ⟨v, ts, rfl, hown, hts, hm5, hv5⟩
  go_wp2_with fail
  go_ret2
  exact ⟨v, ts, rfl, hown, hts, hm5, hv5⟩

set_option maxHeartbeats 2000000 in
theorem mGrowth_size (A : Option Addr) (n cap : Nat) (a : Int) (w : World) (hb : ¬ (0 ≤ a ∧ a ≤ (n : Int))) :
    Calls Tryd.prog 28 #[.pointer (some ⟨g, 0, none⟩), .slice A n cap, .int .i64 a] w fun e w' => e = .returned (.tuple #[.slice none 0 0, .int .i64 21]) ∧ w' = w := by
  by_cases h1 : a < 0
  · go_enter Tryd.func28, Tryd.ntmps28
    go_wp2_with fail
    go_ret2
    exact ⟨rfl, rfl⟩
  · have h4 : a > (n : Int) := by omega
    go_enter Tryd.func28, Tryd.ntmps28
    go_wp2_with fail
    go_ret2
    exact ⟨rfl, rfl⟩
theorem Mk.growth_zero (L : List (List UInt8)) : Mk.growth l L 0 = [] := rfl
theorem Mk.growth_pos (L : List (List UInt8)) {a : Nat} (h : 1 ≤ a) : Mk.growth l L a = Mk.prf l L a true := by unfold Mk.growth; rw [if_neg (by omega)]
set_option maxHeartbeats 2000000 in
theorem mGrowth_any (hr : Mill.right l = true) (A : Option Addr) (L : List (List UInt8)) (a cap : Nat) (st : Mill.St) (w : World) (hn6 : L.length ≤ 65536) (ha : a ≤ L.length) (hcap : L.length ≤ cap) (hcm : cap ≤ 9223372036854775807)
    (hrow : RowS w [g, nb] A L) (hs : ∀ s, s ∈ L → s.length ≤ 1000000) (hsum : st.sums + 4 * L.length ≤ 4000000000000000000) (hm : MkW w g nb tv l st) :
    Calls Tryd.prog 28 #[.pointer (some ⟨g, 0, none⟩), .slice A L.length cap, .int .i64 (a : Int)] w (RowPostE w g nb tv l st (Mk.growth l L a) (2 * L.length) 0) := by
  have c1 : ¬ (a : Int) < 0 := by omega
  have c2 : ¬ (a : Int) > (L.length : Int) := by omega
  by_cases h0 : a = 0
  · subst h0
    rw [Mk.growth_zero]
    have HM := Lib.hid hm; clear hm hrow hs
    generalize L.length = n at *
    go_enter Tryd.func28, Tryd.ntmps28
    go_wp2_with fail
    go_ret2
    unfold RowPostE
    exact ⟨_, [], rfl, World.ownsRow_nil _ _ _ _, Nat.zero_le _, HM.out, Mv.refl _ _⟩
  · obtain ⟨b, off, rfl, hb, hn, hr'⟩ := hrow (fun e => by rw [e] at ha; exact h0 (Nat.le_zero.mp ha))
    have HS := Lib.hid (growth_any g nb tv l hr b hn L.length L a true off cap st w rfl (by omega) ha hn6 hcap hcm hr' hb hs hsum hm)
    unfold RowPost at HS
    rw [Mk.growth_pos l L (by omega)]
    unfold RowPostE
    have c3 : ((a : Int) == 0) = false := by simpa using (show ¬ (a : Int) = 0 by omega)
    generalize Mk.prf l L a true = R at HS ⊢
    clear hm hsum hr hrow hs hr'
    generalize L.length = n at *
    go_enter Tryd.func28, Tryd.ntmps28
    go_wp2_with fail
    refine (HS.out).mono ?_
    rintro e w5 ⟨v, ts, rfl, hown, hts, hm5, hv5⟩
    go_wp2_with fail
    go_ret2
    exact ⟨v, ts, rfl, hown, hts, hm5, hv5⟩
set_option maxHeartbeats 2000000 in
theorem mkGrowth_any (hr : Mill.right l = true) (A : Option Addr) (L : List (List UInt8)) (a cap : Nat) (st : Mill.St) (w : World) (hn6 : L.length ≤ 65536) (ha : a ≤ L.length) (hcap : L.length ≤ cap) (hcm : cap ≤ 9223372036854775807)
    (hrow : RowS w [g, nb] A L) (hs : ∀ s, s ∈ L → s.length ≤ 1000000) (hsum : st.sums + 4 * L.length ≤ 4000000000000000000) (hm : MkW w g nb tv l st) :
    Calls Tryd.prog 29 #[.pointer (some ⟨g, 0, none⟩), .slice A L.length cap, .int .i64 (a : Int)] w (RowPost w g nb tv l st (Mk.growth l L a) (2 * L.length)) := by
  by_cases h0 : a = 0
  · subst h0
    rw [Mk.growth_zero]
    have HM := Lib.hid hm; clear hm hrow hs
    generalize L.length = n at *
    go_enter Tryd.func29, Tryd.ntmps29
    go_wp2_with fail
    go_ret
    unfold RowPost
    exact ⟨_, [], rfl, World.ownsRow_nil _ _ _ _, Nat.zero_le _, HM.out, Mv.refl _ _⟩
  · obtain ⟨b, off, rfl, hb, hn, hr'⟩ := hrow (fun e => by rw [e] at ha; exact h0 (Nat.le_zero.mp ha))
    have HS := Lib.hid (mkProof_any g nb tv l hr b hn L.length L a true off cap st w rfl (by omega) ha hn6 hcap hcm hr' hb hs hsum hm)
    unfold RowPost at HS
    rw [Mk.growth_pos l L (by omega)]
    unfold RowPost
    have c3 : ((a : Int) == 0) = false := by simpa using (show ¬ (a : Int) = 0 by omega)
    generalize Mk.prf l L a true = R at HS ⊢
    clear hm hsum hr hrow hs hr'
    generalize L.length = n at *
    go_enter Tryd.func29, Tryd.ntmps29
    go_wp2_with fail
    refine (HS.out).mono ?_
    rintro e w5 ⟨v, ts, rfl, hown, hts, hm5, hv5⟩
    go_wp2_with fail
    go_ret
    exact ⟨v, ts, rfl, hown, hts, hm5, hv5⟩
end
end Go.Proofs.YtphhaiccpllnpaaDoor
