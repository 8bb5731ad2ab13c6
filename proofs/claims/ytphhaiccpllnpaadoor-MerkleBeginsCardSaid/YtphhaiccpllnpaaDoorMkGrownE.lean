/-
  The contract of the program's Grown, told whole.
-/
import Derived.Test.YtphhaiccpllnpaaDoorMkGrown
namespace Go.Proofs.YtphhaiccpllnpaaDoor
open Go.RowKit
set_option linter.unusedVariables false

theorem two_row (w : World) (x y : List UInt8) : TRow (w.alloc (.cells #[.string (S x), .string (S y)] 9)) w.heap.size 0 [x, y] := fun i hi => by
  have h0 : i = 0 ∨ i = 1 := by simp at hi; omega
  rcases h0 with rfl | rfl
  · rw [World.cell?_alloc_at _ _ _ _ rfl]; rfl
  · rw [World.cell?_alloc_at _ _ _ _ rfl]; rfl
theorem two_rowS (w : World) (x y : List UInt8) : RowS (w.alloc (.cells #[.string (S x), .string (S y)] 9)) [] (some ⟨w.heap.size, 0, none⟩) [x, y] := RowS.of (by simp) (by simp) (two_row w x y)
theorem Mk.two_sums (x y : List UInt8) : Mk.allSums [x, y] = decide (x.length = 32 ∧ y.length = 32) := by
  simp [Mk.allSums, Bool.decide_and]
  by_cases h1 : x.length = 32 <;> by_cases h2 : y.length = 32 <;> simp [h1, h2]

section
variable (g nb : Nat) (tv : Option Nat) (l : List Mill.En)

set_option maxRecDepth 100000 in
set_option maxHeartbeats 4000000 in
theorem grown_size (a n : Int) (ra rn : List UInt8) (p : List (List UInt8)) (A : Option Addr) (cap : Nat) (w : World) (hb : ¬ (0 ≤ a ∧ a ≤ n ∧ n ≤ 65536)) :
    Calls Tryd.prog 30 #[.pointer (some ⟨g, 0, none⟩), .agg #[.int .i64 a, .string (S ra)], .agg #[.int .i64 n, .string (S rn)], .slice A p.length cap] w fun e w' => e = .returned (.int .i64 21) ∧ Below w.heap.size w w' := by
  have hg : (a < 0) ∨ (¬ a < 0 ∧ a > n) ∨ (¬ a < 0 ∧ ¬ a > n ∧ n > 65536) := by omega
  clear hb
  rcases hg with h1 | ⟨h1, h2⟩ | ⟨h1, h2, h3⟩
  all_goals
    go_enter Tryd.func30, Tryd.ntmps30
    go_upto_region 1 with (fail)
    have HB := Lib.hid (PB.made w a n ra rn)
    generalize (w.alloc (.cells #[.int .i64 a, .string (S ra)] 47)).alloc (.cells #[.int .i64 n, .string (S rn)] 47) = W0 at HB ⊢
    obtain ⟨d0, d1, d2, d3⟩ := HB.out.lie
    go_wp2_with fail
    go_ret
    exact ⟨rfl, HB.out.u⟩

set_option maxRecDepth 100000 in
set_option maxHeartbeats 4000000 in
theorem grown_root (a n : Int) (ra rn : List UInt8) (p : List (List UInt8)) (A : Option Addr) (cap : Nat) (w : World) (h1 : 0 ≤ a) (h2 : a ≤ n) (h3 : n ≤ 65536) (hb : ¬ (ra.length = 32 ∧ rn.length = 32)) :
    Calls Tryd.prog 30 #[.pointer (some ⟨g, 0, none⟩), .agg #[.int .i64 a, .string (S ra)], .agg #[.int .i64 n, .string (S rn)], .slice A p.length cap] w fun e w' => e = .returned (.int .i64 19) ∧ Below w.heap.size w w' := by
  have hA1 := fun W => areHashes_any (some ⟨W.heap.size, 0, none⟩) 2 [ra, rn] [] (W.alloc (.cells #[.string (S ra), .string (S rn)] 9)) (two_rowS W ra rn) (by simp) (by decide)
  rw [Mk.two_sums] at hA1
  rw [decide_eq_false hb] at hA1
  have HA1 := Lib.hid hA1; clear hA1 hb
  have c1 : ¬ a < 0 := by omega
  have c2 : ¬ a > n := by omega
  have c3 : ¬ n > 65536 := by omega
  go_enter Tryd.func30, Tryd.ntmps30
  go_upto_region 1 with (fail)
  have HB := Lib.hid (PB.made w a n ra rn)
  generalize (w.alloc (.cells #[.int .i64 a, .string (S ra)] 47)).alloc (.cells #[.int .i64 n, .string (S rn)] 47) = W0 at HB ⊢
  obtain ⟨d0, d1, d2, d3⟩ := HB.out.lie
  go_wp2_with fail
  refine (HA1.out W0).mono ?_
  rintro e w1 ⟨rfl, rfl⟩
  clear d0 d1 d2 d3
  replace HB := Lib.hid (HB.out.below ((Below.refl _ W0).alloc (Nat.le_refl _) (.cells #[.string (S ra), .string (S rn)] 9)))
  generalize W0.alloc (.cells #[.string (S ra), .string (S rn)] 9) = W1 at HB ⊢
  obtain ⟨d0, d1, d2, d3⟩ := HB.out.lie
  go_wp2_with fail
  go_ret
  exact ⟨rfl, HB.out.u⟩

set_option maxRecDepth 100000 in
set_option maxHeartbeats 4000000 in
theorem grown_proof (a n : Int) (ra rn : List UInt8) (p : List (List UInt8)) (A : Option Addr) (cap : Nat) (w : World) (h1 : 0 ≤ a) (h2 : a ≤ n) (h3 : n ≤ 65536) (hr : ra.length = 32 ∧ rn.length = 32) (hcap : p.length ≤ cap) (hcm : cap ≤ 9223372036854775807) (hrow : RowS w [] A p) (hb : ¬ (p.length ≤ 17 ∧ Mk.allSums p = true)) :
    Calls Tryd.prog 30 #[.pointer (some ⟨g, 0, none⟩), .agg #[.int .i64 a, .string (S ra)], .agg #[.int .i64 n, .string (S rn)], .slice A p.length cap] w fun e w' => e = .returned (.int .i64 20) ∧ Below w.heap.size w w' := by
  have hA1 := fun W => areHashes_any (some ⟨W.heap.size, 0, none⟩) 2 [ra, rn] [] (W.alloc (.cells #[.string (S ra), .string (S rn)] 9)) (two_rowS W ra rn) (by simp) (by decide)
  rw [Mk.two_sums] at hA1
  rw [decide_eq_true hr] at hA1
  have HA1 := Lib.hid hA1; clear hA1 hr
  have hA2 := fun W (hW : Below w.heap.size w W) => areHashes_any A cap p [] W (hrow.below hW) hcap hcm
  have hg : ((p.length : Int) > 17) ∨ (¬ (p.length : Int) > 17 ∧ Mk.allSums p = false) := by
    by_cases h : p.length ≤ 17
    · exact Or.inr ⟨by omega, by cases hh : Mk.allSums p with | false => rfl | true => exact absurd ⟨h, hh⟩ hb⟩
    · exact Or.inl (by omega)
  clear hb hrow
  generalize Mk.allSums p = bs at *
  generalize p.length = k at *
  have HA2 := Lib.hid hA2; clear hA2
  have c1 : ¬ a < 0 := by omega
  have c2 : ¬ a > n := by omega
  have c3 : ¬ n > 65536 := by omega
  rcases hg with hg | ⟨hg, rfl⟩
  case' inl =>
    go_enter Tryd.func30, Tryd.ntmps30
    go_upto_region 1 with (fail)
    have HB := Lib.hid (PB.made w a n ra rn)
    generalize (w.alloc (.cells #[.int .i64 a, .string (S ra)] 47)).alloc (.cells #[.int .i64 n, .string (S rn)] 47) = W0 at HB ⊢
    obtain ⟨d0, d1, d2, d3⟩ := HB.out.lie
    go_wp2_with fail
    refine (HA1.out W0).mono ?_
    rintro e w1 ⟨rfl, rfl⟩
    clear d0 d1 d2 d3
    replace HB := Lib.hid (HB.out.below ((Below.refl _ W0).alloc (Nat.le_refl _) (.cells #[.string (S ra), .string (S rn)] 9)))
    generalize W0.alloc (.cells #[.string (S ra), .string (S rn)] 9) = W1 at HB ⊢
    obtain ⟨d0, d1, d2, d3⟩ := HB.out.lie
    go_wp2_with fail
    go_ret
    exact ⟨rfl, HB.out.u⟩
  case' inr =>
    go_enter Tryd.func30, Tryd.ntmps30
    go_upto_region 1 with (fail)
    have HB := Lib.hid (PB.made w a n ra rn)
    generalize (w.alloc (.cells #[.int .i64 a, .string (S ra)] 47)).alloc (.cells #[.int .i64 n, .string (S rn)] 47) = W0 at HB ⊢
    obtain ⟨d0, d1, d2, d3⟩ := HB.out.lie
    go_wp2_with fail
    refine (HA1.out W0).mono ?_
    rintro e w1 ⟨rfl, rfl⟩
    clear d0 d1 d2 d3
    replace HB := Lib.hid (HB.out.below ((Below.refl _ W0).alloc (Nat.le_refl _) (.cells #[.string (S ra), .string (S rn)] 9)))
    generalize W0.alloc (.cells #[.string (S ra), .string (S rn)] 9) = W1 at HB ⊢
    obtain ⟨d0, d1, d2, d3⟩ := HB.out.lie
    go_wp2_with fail
    refine (HA2.out _ HB.out.u).mono ?_
    rintro e w1 ⟨rfl, rfl⟩
    go_wp2_with fail
    go_ret
    exact ⟨rfl, HB.out.u⟩

set_option maxRecDepth 100000 in
set_option maxHeartbeats 4000000 in
theorem grown_none (hl : Mill.right l = true) (n : Int) (ra rn : List UInt8) (p : List (List UInt8)) (A : Option Addr) (cap : Nat) (st : Mill.St) (w : World) (h2 : 0 ≤ n) (h3 : n ≤ 65536) (hr : ra.length = 32 ∧ rn.length = 32) (hcap : p.length ≤ cap) (hcm : cap ≤ 9223372036854775807) (hrow : RowS w [g, nb] A p) (hb : p.length ≤ 17 ∧ Mk.allSums p = true)
    (hsum : st.sums ≤ 1000000) (hm : MkW w g nb tv l st) :
    Calls Tryd.prog 30 #[.pointer (some ⟨g, 0, none⟩), .agg #[.int .i64 0, .string (S ra)], .agg #[.int .i64 n, .string (S rn)], .slice A p.length cap] w (MkPost w g nb tv l st [[]] (.int .i64 (noneC l n ra rn p))) := by
  have hA1 := fun W => areHashes_any (some ⟨W.heap.size, 0, none⟩) 2 [ra, rn] [] (W.alloc (.cells #[.string (S ra), .string (S rn)] 9)) (two_rowS W ra rn) (by simp) (by decide)
  rw [Mk.two_sums] at hA1
  rw [decide_eq_true hr] at hA1
  have HA1 := Lib.hid hA1; clear hA1 hr
  have hA2 := fun W (hW : Below w.heap.size w W) => areHashes_any A cap p [g, nb] W (hrow.below hW) hcap hcm
  rw [hb.2] at hA2
  have HA2 := Lib.hid hA2; clear hA2
  have hN := fun W (hW : Below w.heap.size w W) => fromNone_any g nb tv l hl 0 n ra rn p A cap st W hsum (hm.below hW)
  unfold MkPost at hN ⊢
  have h17 := hb.1
  clear hb hrow hm
  generalize noneC l n ra rn p = code at hN ⊢
  generalize p.length = k at *
  have HN := Lib.hid hN; clear hN
  have c2 : ¬ (0 : Int) > n := by omega
  have c3 : ¬ n > 65536 := by omega
  have c4 : ¬ (k : Int) > 17 := by omega
  go_enter Tryd.func30, Tryd.ntmps30
  go_upto_region 1 with (fail)
  have HB := Lib.hid (PB.made w 0 n ra rn)
  generalize (w.alloc (.cells #[.int .i64 0, .string (S ra)] 47)).alloc (.cells #[.int .i64 n, .string (S rn)] 47) = W0 at HB ⊢
  obtain ⟨d0, d1, d2, d3⟩ := HB.out.lie
  go_wp2_with fail
  refine (HA1.out W0).mono ?_
  rintro e w1 ⟨rfl, rfl⟩
  clear d0 d1 d2 d3
  replace HB := Lib.hid (HB.out.below ((Below.refl _ W0).alloc (Nat.le_refl _) (.cells #[.string (S ra), .string (S rn)] 9)))
  generalize W0.alloc (.cells #[.string (S ra), .string (S rn)] 9) = W1 at HB ⊢
  obtain ⟨d0, d1, d2, d3⟩ := HB.out.lie
  go_wp2_with fail
  refine (HA2.out _ HB.out.u).mono ?_
  rintro e w1 ⟨rfl, rfl⟩
  go_wp2_with fail
  refine (HN.out _ HB.out.u).mono ?_
  rintro e w2 ⟨rfl, hm2, hv2⟩
  go_wp2_with fail
  go_ret
  exact ⟨rfl, hm2, (Mv.of_below HB.out.u _).trans hv2⟩

set_option maxRecDepth 100000 in
set_option maxHeartbeats 4000000 in
theorem grown_len (a n : Nat) (ra rn : List UInt8) (p : List (List UInt8)) (A : Option Addr) (cap : Nat) (w : World) (h1 : 1 ≤ a) (h2 : a ≤ n) (h3 : n ≤ 65536) (hr : ra.length = 32 ∧ rn.length = 32) (hcap : p.length ≤ cap) (hcm : cap ≤ 9223372036854775807) (hrow : RowS w [] A p) (hb : p.length ≤ 17 ∧ Mk.allSums p = true) (hlen : ¬ p.length = Mk.long a n true) :
    Calls Tryd.prog 30 #[.pointer (some ⟨g, 0, none⟩), .agg #[.int .i64 (a : Int), .string (S ra)], .agg #[.int .i64 (n : Int), .string (S rn)], .slice A p.length cap] w fun e w' => e = .returned (.int .i64 20) ∧ Below w.heap.size w w' := by
  have hA1 := fun W => areHashes_any (some ⟨W.heap.size, 0, none⟩) 2 [ra, rn] [] (W.alloc (.cells #[.string (S ra), .string (S rn)] 9)) (two_rowS W ra rn) (by simp) (by decide)
  rw [Mk.two_sums] at hA1
  rw [decide_eq_true hr] at hA1
  have HA1 := Lib.hid hA1; clear hA1 hr
  have hA2 := fun W (hW : Below w.heap.size w W) => areHashes_any A cap p [] W (hrow.below hW) hcap hcm
  rw [hb.2] at hA2
  have HA2 := Lib.hid hA2; clear hA2
  have HL := Lib.hid (fun W => growthLen_any n a true W h1 h2 h3)
  have h17 := hb.1
  clear hb hrow
  generalize Mk.long a n true = d at *
  generalize p.length = k at *
  have c1 : ¬ (a : Int) < 0 := by omega
  have c2 : ¬ (a : Int) > (n : Int) := by omega
  have c3 : ¬ (n : Int) > 65536 := by omega
  have c4 : ¬ (k : Int) > 17 := by omega
  have c5 : ((a : Int) == 0) = false := by simpa using (show ¬ (a : Int) = 0 by omega)
  have c6 : ((k : Int) != (d : Int)) = true := by simpa using (show ¬ (k : Int) = (d : Int) by omega)
  go_enter Tryd.func30, Tryd.ntmps30
  go_upto_region 1 with (fail)
  have HB := Lib.hid (PB.made w (a : Int) (n : Int) ra rn)
  generalize (w.alloc (.cells #[.int .i64 (a : Int), .string (S ra)] 47)).alloc (.cells #[.int .i64 (n : Int), .string (S rn)] 47) = W0 at HB ⊢
  obtain ⟨d0, d1, d2, d3⟩ := HB.out.lie
  go_wp2_with fail
  refine (HA1.out W0).mono ?_
  rintro e w1 ⟨rfl, rfl⟩
  clear d0 d1 d2 d3
  replace HB := Lib.hid (HB.out.below ((Below.refl _ W0).alloc (Nat.le_refl _) (.cells #[.string (S ra), .string (S rn)] 9)))
  generalize W0.alloc (.cells #[.string (S ra), .string (S rn)] 9) = W1 at HB ⊢
  obtain ⟨d0, d1, d2, d3⟩ := HB.out.lie
  go_wp2_with fail
  refine (HA2.out _ HB.out.u).mono ?_
  rintro e w1 ⟨rfl, rfl⟩
  go_wp2_with fail
  refine (HL.out _).mono ?_
  rintro e w1 ⟨rfl, rfl⟩
  go_wp2_with fail
  go_ret
  exact ⟨rfl, HB.out.u⟩

def leadC (l : List Mill.En) (a n : Nat) (ra rn : List UInt8) (p : List (List UInt8)) : Int := if (Mk.both l a n true ra p).1 = ra ∧ (Mk.both l a n true ra p).2 = rn then 0 else 19
theorem lead_fin (l : List Mill.En) (a n : Nat) (ra rn : List UInt8) (p : List (List UInt8)) : (((Mk.both l a n true ra p).1 == ra) = false ∧ leadC l a n ra rn p = 19) ∨ (((Mk.both l a n true ra p).1 == ra) = true ∧ ((Mk.both l a n true ra p).2 == rn) = false ∧ leadC l a n ra rn p = 19) ∨ (((Mk.both l a n true ra p).1 == ra) = true ∧ ((Mk.both l a n true ra p).2 == rn) = true ∧ leadC l a n ra rn p = 0) := by
    unfold leadC
    by_cases e1 : (Mk.both l a n true ra p).1 = ra
    · by_cases e2 : (Mk.both l a n true ra p).2 = rn
      · exact Or.inr (Or.inr ⟨by simpa using e1, by simpa using e2, if_pos ⟨e1, e2⟩⟩)
      · exact Or.inr (Or.inl ⟨by simpa using e1, by simpa using e2, if_neg (fun h => e2 h.2)⟩)
    · exact Or.inl ⟨by simpa using e1, if_neg (fun h => e1 h.1)⟩
set_option maxRecDepth 100000 in
set_option maxHeartbeats 4000000 in
theorem grown_lead (hl : Mill.right l = true) (a n : Nat) (ra rn : List UInt8) (p : List (List UInt8)) (A : Option Addr) (cap : Nat) (st : Mill.St) (w : World) (h1 : 1 ≤ a) (h2 : a ≤ n) (h3 : n ≤ 65536) (hr : ra.length = 32 ∧ rn.length = 32) (hcap : p.length ≤ cap) (hcm : cap ≤ 9223372036854775807) (hrow : RowS w [g, nb] A p) (hb : p.length ≤ 17 ∧ Mk.allSums p = true) (hlen : p.length = Mk.long a n true)
    (hsum : st.sums ≤ 1000000) (hm : MkW w g nb tv l st) :
    Calls Tryd.prog 30 #[.pointer (some ⟨g, 0, none⟩), .agg #[.int .i64 (a : Int), .string (S ra)], .agg #[.int .i64 (n : Int), .string (S rn)], .slice A p.length cap] w (MkPost w g nb tv l st (Mk.bothAsks l a n true ra p) (.int .i64 (leadC l a n ra rn p))) := by
  have hA1 := fun W => areHashes_any (some ⟨W.heap.size, 0, none⟩) 2 [ra, rn] [] (W.alloc (.cells #[.string (S ra), .string (S rn)] 9)) (two_rowS W ra rn) (by simp) (by decide)
  rw [Mk.two_sums] at hA1
  rw [decide_eq_true hr] at hA1
  have HA1 := Lib.hid hA1; clear hA1
  have hA2 := fun W (hW : Below w.heap.size w W) => areHashes_any A cap p [g, nb] W (hrow.below hW) hcap hcm
  rw [hb.2] at hA2
  have HA2 := Lib.hid hA2; clear hA2
  have HL := Lib.hid (fun W => growthLen_any n a true W h1 h2 h3)
  rw [← hlen] at HL
  have h17 := hb.1
  have hsm := (Mk.allSums_iff p).1 hb.2
  have hgn := hm.m.lt
  have hD := fun W (hW : Below w.heap.size w W) => lead_any g nb tv l hl n a true ra ra p A cap st W h1 h2 h3 (fun _ => rfl) hlen hcap hcm (hrow.below hW) (by omega) (fun s h => by rw [hsm s h]; decide) (by omega) (hm.below hW)
  have hfin := lead_fin l a n ra rn p
  unfold MkPost at hD ⊢
  clear hb hrow hm hsm hlen hr
  generalize leadC l a n ra rn p = code at hfin ⊢
  generalize (Mk.both l a n true ra p).1 = y1 at *
  generalize (Mk.both l a n true ra p).2 = y2 at *
  generalize Mill.steps l (Mk.bothAsks l a n true ra p) st = st' at *
  generalize p.length = k at *
  have HD := Lib.hid hD; clear hD
  have c1 : ¬ (a : Int) < 0 := by omega
  have c2 : ¬ (a : Int) > (n : Int) := by omega
  have c3 : ¬ (n : Int) > 65536 := by omega
  have c4 : ¬ (k : Int) > 17 := by omega
  have c5 : ((a : Int) == 0) = false := by simpa using (show ¬ (a : Int) = 0 by omega)
  have c6 : ((k : Int) != (k : Int)) = false := by simp
  go_enter Tryd.func30, Tryd.ntmps30
  go_upto_region 1 with (fail)
  have HB := Lib.hid (PB.made w (a : Int) (n : Int) ra rn)
  generalize (w.alloc (.cells #[.int .i64 (a : Int), .string (S ra)] 47)).alloc (.cells #[.int .i64 (n : Int), .string (S rn)] 47) = W0 at HB ⊢
  obtain ⟨d0, d1, d2, d3⟩ := HB.out.lie
  go_wp2_with fail
  refine (HA1.out W0).mono ?_
  rintro e w1 ⟨rfl, rfl⟩
  clear d0 d1 d2 d3
  replace HB := Lib.hid (HB.out.below ((Below.refl _ W0).alloc (Nat.le_refl _) (.cells #[.string (S ra), .string (S rn)] 9)))
  generalize W0.alloc (.cells #[.string (S ra), .string (S rn)] 9) = W1 at HB ⊢
  obtain ⟨d0, d1, d2, d3⟩ := HB.out.lie
  go_wp2_with fail
  refine (HA2.out _ HB.out.u).mono ?_
  rintro e w1 ⟨rfl, rfl⟩
  go_wp2_with fail
  refine (HL.out _).mono ?_
  rintro e w1 ⟨rfl, rfl⟩
  go_wp2_with fail
  refine (HD.out _ HB.out.u).mono ?_
  rintro e w2 ⟨rfl, hm2, hv2⟩
  have hk := HB.out.mv hv2 (by intro y hy; simp only [List.mem_cons, List.not_mem_nil, or_false] at hy; omega)
  clear d0 d1 d2 d3
  obtain ⟨d0, d1, d2, d3⟩ := PLie.of hk.1 hk.2
  have hv := (Mv.of_below HB.out.u [g, nb]).trans hv2
  clear hk hv2
  rcases hfin with ⟨f1, rfl⟩ | ⟨f1, f2, rfl⟩ | ⟨f1, f2, rfl⟩
  all_goals
    go_wp2_with fail
    go_ret
    exact ⟨rfl, hm2, hv⟩
end
end Go.Proofs.YtphhaiccpllnpaaDoor
