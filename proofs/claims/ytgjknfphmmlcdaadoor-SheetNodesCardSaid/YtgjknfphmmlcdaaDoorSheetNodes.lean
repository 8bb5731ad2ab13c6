/-
  The contract of SheetNodes.
-/
import Derived.Test.YtgjknfphmmlcdaaDoorSheetRoots
import Derived.Test.YtgjknfphmmlcdaaDoorShtBeside
import Derived.Test.YtgjknfphmmlcdaaDoorShtRebuild
namespace Go.Proofs.YtgjknfphmmlcdaaDoor
open Go.ChangeShapes Go.WideShapes Go.ChangeAt Go.RowKit
open Go.ChangeMaps (open_string shut_string)
set_option linter.unusedVariables false

namespace Sht
open Mk
theorem root_32 (l : List Mill.En) (hr : Mill.right l = true) (L : List T) (h : Sums L) : (root l L).length = 32 := by
  by_cases h2 : 2 ≤ L.length
  · rw [Mk.root_more l L h2]; exact node_len l hr _ _
  · match L, h2, h with
    | [], _, _ => rw [Mk.root_nil]; unfold nil; exact Mill.hash_len l hr _
    | [a], _, h => rw [Mk.root_one]; exact h a (by simp)
    | _ :: _ :: _, h2, _ => exact absurd (by simp) h2
theorem beside_sums (l : List Mill.En) (hr : Mill.right l = true) (L : List T) (h : Sums L) (pick : List Int) : Sums (beside l L 0 pick) := fun s hs => by
  rw [beside_map] at hs
  obtain ⟨p, _, rfl⟩ := List.mem_map.1 hs
  exact root_32 l hr _ (fun x hx => h x (List.mem_of_mem_drop (List.mem_of_mem_take hx)))
/-- The leaves of places. -/
def picked (F : List T) (pick : List Int) : List T := pick.map fun p => F.getD p.toNat []
theorem picked_step (F : List T) (pick : List Int) (k : Nat) (hk : k < pick.length) : picked F (pick.take (k + 1)) = picked F (pick.take k) ++ [F.getD pick[k].toNat []] := by
  unfold picked; rw [List.take_succ_eq_append_getElem hk, List.map_append]; rfl
theorem picked_len (F : List T) (pick : List Int) : (picked F pick).length = pick.length := by unfold picked; rw [List.length_map]
theorem sel_picked (F : List T) (pick : List Int) (h : rising pick (F.length : Int) = true) : sel pick 0 F = picked F pick := by
  unfold sel picked
  rw [rising_in h]
  apply List.map_congr_left
  intro p _
  simp
theorem picked_sums (F : List T) (hF : Sums F) (pick : List Int) (h : rising pick (F.length : Int) = true) : Sums (picked F pick) := fun s hs => by
  unfold picked at hs
  obtain ⟨p, hp, rfl⟩ := List.mem_map.1 hs
  have := (rising_pos h).1 p hp
  have hl : p.toNat < F.length := by omega
  rw [List.getD_eq_getElem?_getD, List.getElem?_eq_getElem hl]
  exact hF _ (List.getElem_mem hl)
/-- What stands beside picked leaves is rebuilt to the root. -/
theorem nodes_fin (l : List Mill.En) (hr : Mill.right l = true) (F : List T) (hF : Sums F) (hn : F.length ≤ 12) (pick : List Int) (h0 : pick ≠ []) (h : rising pick (F.length : Int) = true) :
    rbC (F.length : Int) pick (picked F pick) (beside l F 0 pick) = 0 ∧ rbV l (F.length : Int) pick (picked F pick) (beside l F 0 pick) = root l F := by
  have h1 := rise_pos h h0
  have hok : rbOk (F.length : Int) pick (picked F pick) := ⟨by omega, by omega, h0, (picked_len F pick).symm, h⟩
  have hfit : rbFit (F.length : Int) pick (beside l F 0 pick) := ⟨by rw [Int.toNat_natCast]; exact beside_len l pick F.length 0 F rfl, (allSums_iff _).2 (beside_sums l hr F hF pick)⟩
  have hb := build_beside l pick (rise_of h) F.length 0 F [] [] h1 rfl
  rw [List.append_nil, List.append_nil, sel_picked F pick h] at hb
  constructor
  · unfold rbC; rw [if_pos hok, if_pos hfit]
  · unfold rbV; rw [if_pos ⟨hok, hfit⟩, Int.toNat_natCast, hb]; rfl
theorem buildAsks_rb (l : List Mill.En) (n : Int) (pick : List Int) (lf nd : List T) : (rbTs l n pick lf nd).length ≤ 12 := by
  unfold rbTs
  split
  · rename_i h
    obtain ⟨h1, h2⟩ := h
    obtain ⟨k, rfl⟩ := Int.eq_ofNat_of_zero_le (show 0 ≤ n by have := h1.1; omega)
    obtain ⟨r, lf1, nd1, hb⟩ := rb_built l h1 (nd := nd) (by have := h2.1; rw [Int.toNat_natCast] at this; omega)
    rw [Int.toNat_natCast]
    have := buildAsks_len l pick k 0 lf nd lf1 nd1 r (by have := h1.1; omega) hb
    have := h1.2.1
    omega
  · exact Nat.zero_le _
end Sht
theorem RowCA.pick {w : World} {A : Option Addr} {L : List Int} (h : RowI w [] A L) {W : World} (hb : Below w.heap.size w W) : RowI W [w.heap.size + 1, w.heap.size] A L := RowCA.at (w0 := w) h hb two_low

set_option maxHeartbeats 4000000 in
set_option maxRecDepth 100000 in
theorem sheetNodes_bad (A A2 : Option Addr) (L : List Slp) (P : List Int) (cap cap2 n0 : Nat) (w : World) (hcap : L.length ≤ cap) (hcm : cap ≤ 9223372036854775807) (hrow : RowP w [] A L) (hrow2 : RowI w [] A2 P)
    (hcut : (n0 = P.length ∧ ¬ (20 : Int) < (n0 : Int)) ∨ ((20 : Int) < (n0 : Int) ∧ P.length = 20)) (hnc : n0 ≤ cap2) (hcm2 : cap2 ≤ 9223372036854775807) (hT : Tabs w) (hb : P = [] ∨ Sht.rising P ((Sht.few L).length : Int) = false) :
    Calls Tryd.prog 5 #[.slice A L.length cap, .slice A2 n0 cap2] w fun e w' => e = .returned (.bool true) ∧ Below w.heap.size w w' := by
  have hpc : P.length ≤ cap2 := by omega
  have HF := Lib.hid (fun W (hb : Below w.heap.size w W) => slFew_any A L cap W hcap hcm (RowC.below hrow hb))
  unfold SlpPost at HF
  have hfl := Sht.few_len L
  have hT2 := hT.2.2
  have HT := Lib.hid hT
  have hN := fun A3 cap3 W (hW : Below w.heap.size w W) => shNodes_bad (.pointer (some ⟨w.heap.size + 1, 0, none⟩)) A3 A2 (Sht.few L).length cap3 cap2 P W hpc hcm2 (RowC.below hrow2 hW) hb
  have hR1 := fun W (hW : Below w.heap.size w W) => shRising_any A2 cap2 P ((Sht.few L).length : Int) [] W (RowC.below hrow2 hW) hpc hcm2
  have hR2 := fun W (hW : Below w.heap.size w W) => slRising_any A2 cap2 P ((Sht.few L).length : Int) [] W (RowC.below hrow2 hW) hpc hcm2
  clear hT hrow hrow2
  have hg : P.length = 0 ∨ ((P.length : Int) == 0) = false ∧ Sht.rising P ((Sht.few L).length : Int) = false := by
    rcases hb with rfl | hb
    · exact Or.inl rfl
    · by_cases h0 : P.length = 0
      · exact Or.inl h0
      · exact Or.inr ⟨by simpa using (show ¬ (P.length : Int) = 0 by omega), hb⟩
  clear hb
  generalize Sht.rising P ((Sht.few L).length : Int) = rb at *
  generalize L.length = n1 at *
  generalize P.length = m at *
  generalize Sht.few L = R at *
  have HN := Lib.hid hN; clear hN
  have HR := Lib.hid (And.intro hR1 hR2); clear hR1 hR2
  rcases hcut with ⟨rfl, h20⟩ | ⟨h20, rfl⟩
  all_goals
    rcases hg with hg | ⟨hg, hrb⟩
    case' inl => first | (exfalso; omega) | subst hg
    case' inr => subst hrb
    all_goals
      go_enter Tryd.func5, Tryd.ntmps5
      go_wp2_with fail
      refine (newMill_tv w).mono ?_
      rintro r1 w1 ⟨rfl, hM1, hb1, hs1⟩
      have H1 := OneK.made HT.out hM1 hb1
      clear hM1
      go_wp2_with fail
      refine (HF.out _ hb1).mono ?_
      rintro r w2 ⟨v, rfl, hown2, hb2⟩
      obtain ⟨A3, cap3, rfl, hc3, hcm3, _, _, hR3⟩ := own_rowC (s := []) hown2 (by simp) (by decide)
      have H2 := Lib.hid (H1.below hb2); clear H1 hown2 hR3 hb1 hb2
      go_wp2_with fail
      refine (HN.out A3 cap3 _ H2.out.b).mono ?_
      rintro r w3 ⟨rfl, rfl⟩
      go_wp2_with fail
      refine (HR.out.1 _ H2.out.b).mono ?_
      rintro r w4 ⟨rfl, rfl⟩
      go_wp2_with fail
      refine (HR.out.2 _ H2.out.b).mono ?_
      rintro r w5 ⟨rfl, hb5⟩
      have H5 := Lib.hid (H2.out.below hb5); clear hb5
      try (have hbb : (rb != rb) = false := by simp)
      go_wp2_with fail
      try
        refine (HR.out.2 _ H5.out.b).mono ?_
        rintro r w6 ⟨rfl, hb6⟩
        replace H5 := Lib.hid (H5.out.below hb6); clear hb6
        go_wp2_with fail
      refine (H5.out.awakeS).mono ?_
      rintro e w7 ⟨rfl, hb7⟩
      go_wp2_with fail
      go_ret
      exact ⟨rfl, hb7⟩
/-- All that SheetNodes holds while it is at work. -/
structure NW (w W : World) (st : Mill.St) (A3 : Option Addr) (R : List Slp) (A4 A7 : Option Addr) (N : List (List UInt8)) (A2 : Option Addr) (P : List Int) : Prop where
  m : MkW W (w.heap.size + 1) w.heap.size none [] st
  b : Below w.heap.size w W
  r : RowP W [w.heap.size + 1, w.heap.size] A3 R
  n : RowS W [w.heap.size + 1, w.heap.size] A4 N
  k : RowS W [w.heap.size + 1, w.heap.size] A7 N
  p : RowI W [w.heap.size + 1, w.heap.size] A2 P
theorem NW.step {w W W' : World} {st st' : Mill.St} {A3 : Option Addr} {R : List Slp} {A4 A7 : Option Addr} {N : List (List UInt8)} {A2 : Option Addr} {P : List Int} (h : NW w W st A3 R A4 A7 N A2 P) (hm : MkW W' (w.heap.size + 1) w.heap.size none [] st') (hv : Mv W W' [w.heap.size + 1, w.heap.size]) : NW w W' st' A3 R A4 A7 N A2 P :=
  ⟨hm, slip_tied hv (Nat.le_succ _) (Nat.le_refl _) h.b.size h.b, RowC.mv h.r hv (fun x hx => hx), h.n.mv hv (fun x hx => hx), h.k.mv hv (fun x hx => hx), RowC.mv h.p hv (fun x hx => hx)⟩
theorem NW.below {w W W' : World} {st : Mill.St} {A3 : Option Addr} {R : List Slp} {A4 A7 : Option Addr} {N : List (List UInt8)} {A2 : Option Addr} {P : List Int} (h : NW w W st A3 R A4 A7 N A2 P) (hb : Below W.heap.size W W') : NW w W' st A3 R A4 A7 N A2 P := h.step (h.m.below hb) (Mv.of_below hb _)
theorem NW.awake {w W : World} {st : Mill.St} {A3 : Option Addr} {R : List Slp} {A4 A7 : Option Addr} {N : List (List UInt8)} {A2 : Option Addr} {P : List Int} (h : NW w W st A3 R A4 A7 N A2 P) : Calls Tryd.prog 15 #[] W fun e w' => e = .returned (.bool true) ∧ Below w.heap.size w w' := (⟨h.m, h.b⟩ : OneK w W st).awakeS

set_option maxHeartbeats 8000000 in
set_option maxRecDepth 100000 in
theorem sheetNodes_good (A A2 : Option Addr) (L : List Slp) (P : List Int) (cap cap2 n0 : Nat) (w : World) (hcap : L.length ≤ cap) (hcm : cap ≤ 9223372036854775807) (hrow : RowP w [] A L) (hrow2 : RowI w [] A2 P)
    (hcut : (n0 = P.length ∧ ¬ (20 : Int) < (n0 : Int)) ∨ ((20 : Int) < (n0 : Int) ∧ P.length = 20)) (hnc : n0 ≤ cap2) (hcm2 : cap2 ≤ 9223372036854775807) (hT : Tabs w) (h0 : P ≠ []) (hris : Sht.rising P ((Sht.few L).length : Int) = true) :
    Calls Tryd.prog 5 #[.slice A L.length cap, .slice A2 n0 cap2] w fun e w' => e = .returned (.bool true) ∧ Below w.heap.size w w' := by
  obtain ⟨i0, hi0, hz0, hz1, hz2⟩ := info_parts mkinfo
  have HIN := Lib.hid (And.intro hi0 (And.intro hz0 (And.intro hz1 hz2))); clear hi0 hz0 hz1 hz2
  have hpc : P.length ≤ cap2 := by omega
  have HF := Lib.hid (fun W (hb : Below w.heap.size w W) => slFew_any A L cap W hcap hcm (RowC.below hrow hb))
  unfold SlpPost at HF
  have hfl := Sht.few_len L
  have hshort := Sht.few_short' L
  have hT2 := hT.2.2
  have HT := Lib.hid hT
  have hP := fun W (hW : Below w.heap.size w W) => RowCA.pick hrow2 hW
  generalize Sht.few L = R at *
  have h1 := Sht.rise_pos hris h0
  have hll := Sht.leaves_len [] R
  have hin := (Sht.rising_pos hris).1
  have hfin := Sht.nodes_fin [] rfl (Sht.leaves [] R) (Sht.leaves_sums [] rfl R) (by rw [hll]; exact hfl) P h0 (by rw [hll]; exact hris)
  rw [hll] at hfin
  have hbl := Sht.beside_le [] (Sht.leaves [] R) 0 P (by rw [hll]; exact h1)
  rw [hll] at hbl
  have hns : ∀ s ∈ Sht.beside [] (Sht.leaves [] R) 0 P, s.length ≤ 1000000000000000 := fun s hs => by rw [Sht.beside_sums [] rfl _ (Sht.leaves_sums [] rfl R) P s hs]; omega
  have hps : ∀ s ∈ Sht.picked (Sht.leaves [] R) P, s.length ≤ 1000000000000000 := fun s hs => by rw [Sht.picked_sums (Sht.leaves [] R) (Sht.leaves_sums [] rfl R) P (by rw [hll]; exact hris) s hs]; omega
  have hN := fun A3 cap3 W st (hc : R.length ≤ cap3) (hm' : cap3 ≤ 9223372036854775807) (hr : RowP W [w.heap.size + 1, w.heap.size] A3 R) (hW : Below w.heap.size w W) (hs : st.sums ≤ 1000000) hM => shNodes_any (w.heap.size + 1) w.heap.size none [] rfl A3 A2 R P cap3 cap2 st W (by omega) hc hm' hr hshort hpc hcm2 (RowC.sub (hP W hW) (by simp)) h0 hris (by omega) hM
  have hR1 := fun W (hW : RowI W [w.heap.size + 1, w.heap.size] A2 P) => shRising_any A2 cap2 P (R.length : Int) [w.heap.size + 1, w.heap.size] W hW hpc hcm2
  have hR2 := fun W (hW : RowI W [w.heap.size + 1, w.heap.size] A2 P) => slRising_any A2 cap2 P (R.length : Int) [w.heap.size + 1, w.heap.size] W hW hpc hcm2
  rw [hris] at hR1 hR2
  have hLv := fun A3 cap3 W st (hc : R.length ≤ cap3) (hm' : cap3 ≤ 9223372036854775807) (hr : RowP W [w.heap.size + 1, w.heap.size] A3 R) (hs : st.sums ≤ 1000000) hM => slLeaves_any (w.heap.size + 1) w.heap.size none [] rfl A3 R cap3 st W (by omega) hc hm' hr hshort (by omega) hM
  have hB := fun A5 cap5 W st (hc : R.length ≤ cap5) (hm' : cap5 ≤ 9223372036854775807) (hr : RowS W [w.heap.size + 1, w.heap.size] A5 (Sht.leaves [] R)) (hp : RowI W [w.heap.size + 1, w.heap.size] A2 P) (hs : st.sums ≤ 1000000) hM => slBeside_any (w.heap.size + 1) w.heap.size none [] rfl A2 P cap2 hpc hcm2 R.length (Sht.leaves [] R) 0 A5 cap5 st W hll h1 (by omega) hc hm' hr hp (fun s hs => by rw [Sht.leaves_sums [] rfl R s hs]; omega) (by omega) hM
  have hRb := fun A4 A9 cap4 cap9 W st (hp : RowI W [w.heap.size + 1, w.heap.size] A2 P) (hc9 : (Sht.picked (Sht.leaves [] R) P).length ≤ cap9) (hm9 : cap9 ≤ 9223372036854775807) (hr9 : RowS W [w.heap.size + 1, w.heap.size] A9 (Sht.picked (Sht.leaves [] R) P)) (hc4 : (Sht.beside [] (Sht.leaves [] R) 0 P).length ≤ cap4) (hm4 : cap4 ≤ 9223372036854775807) (hr4 : RowS W [w.heap.size + 1, w.heap.size] A4 (Sht.beside [] (Sht.leaves [] R) 0 P)) (hs : st.sums ≤ 1000000) hM =>
    shRebuild_any (w.heap.size + 1) w.heap.size none [] rfl (R.length : Int) A2 A9 A4 P (Sht.picked (Sht.leaves [] R) P) (Sht.beside [] (Sht.leaves [] R) 0 P) cap2 cap9 cap4 st W hpc hcm2 hp hc9 hm9 hr9 hps hc4 hm4 hr4 hns (by omega) hM
  rw [hfin.1, hfin.2] at hRb
  have hrbl := Sht.buildAsks_rb [] (R.length : Int) P (Sht.picked (Sht.leaves [] R) P) (Sht.beside [] (Sht.leaves [] R) 0 P)
  have hRt := fun A3 cap3 W st (hc : R.length ≤ cap3) (hm' : cap3 ≤ 9223372036854775807) (hr : RowP W [w.heap.size + 1, w.heap.size] A3 R) (hs : st.sums ≤ 1000000) hM => shRoot_any (w.heap.size + 1) w.heap.size none [] rfl A3 R cap3 st W (by omega) hc hm' hr hshort (by omega) hM
  have hpl := Sht.picked_len (Sht.leaves [] R) P
  rw [hpl] at hRb
  unfold RowPostE at hN
  unfold RowPost at hLv hB
  unfold MkPost at hRb hRt
  rw [hll] at hLv
  clear hT hrow hrow2 hns hps hfin hris
  generalize Sht.rbTs [] (R.length : Int) P (Sht.picked (Sht.leaves [] R) P) (Sht.beside [] (Sht.leaves [] R) 0 P) = tr at *
  generalize Mk.root [] (Sht.leaves [] R) = y at *
  generalize Sht.beside [] (Sht.leaves [] R) 0 P = N at *
  generalize Sht.rootT [] R = tq at *
  have HN := Lib.hid hN; clear hN
  have HR := Lib.hid (And.intro hR1 hR2); clear hR1 hR2
  have HLv := Lib.hid hLv; clear hLv
  have HB := Lib.hid hB; clear hB
  have HRb := Lib.hid hRb; clear hRb
  have HRt := Lib.hid hRt; clear hRt
  have HP := Lib.hid (And.intro hP (And.intro hin hshort)); clear hP hin hshort
  have HLL := Lib.hid (And.intro hll hpl); clear hll hpl
  have h0' : ((P.length : Int) == 0) = false := by
    have : P.length ≠ 0 := fun e => h0 (List.eq_nil_of_length_eq_zero e)
    simpa using (show ¬ (P.length : Int) = 0 by omega)
  clear h0
  obtain ⟨m, hPL⟩ : ∃ m, P.length = m := ⟨_, rfl⟩
  obtain ⟨r, hRL⟩ : ∃ r, R.length = r := ⟨_, rfl⟩
  have HPL := Lib.hid (And.intro hPL hRL)
  rw [hPL] at hcut hpc h0' HN HR HB HRb
  rw [hRL] at h1 hfl HN HR HB HRb HF HLv HRt hbl
  clear hPL hRL
  generalize L.length = n1 at *
  have hf0 : Mill.fresh.sums = 0 := rfl
  rcases hcut with ⟨rfl, h20⟩ | ⟨h20, rfl⟩
  all_goals
    go_enter Tryd.func5, Tryd.ntmps5
    go_wp2_with fail
    refine (newMill_tv w).mono ?_
    rintro r1 w1 ⟨rfl, hM1, hb1, hs1⟩
    have H1 := OneK.made HT.out hM1 hb1
    generalize Mill.fresh = s0 at H1 hf0
    clear hM1
    go_wp2_with fail
    refine (HF.out _ hb1).mono ?_
    rintro r' w2 ⟨v, rfl, hown2, hb2⟩
    have hlow : ∀ x ∈ [w.heap.size + 1, w.heap.size], x < w1.heap.size := fun x hx => by simp only [List.mem_cons, List.not_mem_nil, or_false] at hx; omega
    have hz2 := hb2.size
    obtain ⟨A3, cap3, rfl, hc3, hcm3, _, _, hR3⟩ := own_rowC (s := [w.heap.size + 1, w.heap.size]) hown2 hlow (by decide)
    have hcm3' : cap3 ≤ 9223372036854775807 := by simpa only [maxLen] using hcm3
    have H2 := Lib.hid (And.intro (H1.below hb2) hR3); clear H1 hown2 hR3 hb1 hb2 hcm3
    go_wp2_with fail
    refine (HN.out A3 cap3 w2 s0 hc3 hcm3' H2.out.2 H2.out.1.b (by omega) H2.out.1.m).mono ?_
    rintro e w3 ⟨v4, ts4, rfl, hown4, hts4, hm4, hv4⟩
    obtain ⟨A4, cap4, rfl, hc4, hcm4, _, _, hR4⟩ := own_rowC (s := [w.heap.size + 1, w.heap.size]) hown4 (fun x hx => Nat.lt_of_lt_of_le (hlow x hx) hz2) (by decide)
    have hcm4' : cap4 ≤ 9223372036854775807 := by simpa only [maxLen] using hcm4
    have hb3 := slip_tied hv4 (Nat.le_succ _) (Nat.le_refl _) H2.out.1.b.size H2.out.1.b
    have hz3 := hv4.size
    have q4 : (Mill.steps [] ts4 s0).sums ≤ 30000 := by rw [Mill.steps_sums]; omega
    generalize Mill.steps [] ts4 s0 = s4 at hm4 q4
    have H3 := Lib.hid (⟨hm4, hb3, RowC.mv H2.out.2 hv4 (fun x hx => hx), RowS.ofC hR4, RowS.ofC hR4, HP.out.1 _ hb3⟩ : NW w w3 s4 A3 R A4 A4 N A2 P); clear hm4 hb3 hR4 hown4 hv4 H2 hts4 hcm4
    go_wp2_with fail
    refine (HR.out.1 _ H3.out.p).mono ?_
    rintro e w4 ⟨rfl, rfl⟩
    go_wp2_with fail
    refine (HR.out.2 _ H3.out.p).mono ?_
    rintro e w5 ⟨rfl, hb5⟩
    have hz5 := hb5.size
    have H5 := Lib.hid (H3.out.below hb5); clear hb5 H3
    go_wp2_with fail
    refine (HR.out.2 _ H5.out.p).mono ?_
    rintro e w6 ⟨rfl, hb6⟩
    have hz6 := hb6.size
    have H6 := Lib.hid (H5.out.below hb6); clear hb6 H5
    go_wp2_with fail
    refine (HLv.out A3 cap3 w6 s4 hc3 hcm3' H6.out.r (by omega) H6.out.m).mono ?_
    rintro e w7 ⟨v7, ts7, rfl, hown7, hts7, hm7, hv7⟩
    obtain ⟨A5, cap5, rfl, hc5, hcm5, _, _, hR5⟩ := own_rowC (s := [w.heap.size + 1, w.heap.size]) hown7 (fun x hx => by have := hlow x hx; omega) (by decide)
    have hcm5' : cap5 ≤ 9223372036854775807 := by simpa only [maxLen] using hcm5
    have q7 : (Mill.steps [] ts7 s4).sums ≤ 30100 := by rw [Mill.steps_sums]; omega
    generalize Mill.steps [] ts7 s4 = s7 at hm7 q7
    have hz7 := hv7.size
    have H7 := Lib.hid (And.intro (H6.out.step hm7 hv7) (RowS.ofC hR5)); clear hm7 hv7 hR5 hown7 H6 hts7 hcm5
    go_wp2_with fail
    refine (HB.out A5 cap5 w7 s7 hc5 hcm5' H7.out.2 H7.out.1.p (by omega) H7.out.1.m).mono ?_
    rintro e w8 ⟨v8, ts8, rfl, hown8, hts8, hm8, hv8⟩
    obtain ⟨A7, cap7, rfl, hc7, hcm7, _, _, hR7⟩ := own_rowC (s := [w.heap.size + 1, w.heap.size]) hown8 (fun x hx => by have := hlow x hx; omega) (by decide)
    have q8 : (Mill.steps [] ts8 s7).sums ≤ 30200 := by rw [Mill.steps_sums]; omega
    generalize Mill.steps [] ts8 s7 = s8 at hm8 q8
    have hz8 := hv8.size
    have h8 := H7.out.1.step hm8 hv8
    have H8 := Lib.hid (⟨h8.m, h8.b, h8.r, h8.n, RowS.ofC hR7, h8.p⟩ : NW w w8 s8 A3 R A4 A7 N A2 P); clear h8 hm8 hv8 hR7 hown8 H7 hts8
    have hlow8 : ∀ x ∈ [w.heap.size + 1, w.heap.size], x < w8.heap.size := fun x hx => by have := hlow x hx; omega
    go_wp2_with fail
    go_loopw [9, 10] (fun v9 v10 wr => ∃ (k : Nat) (ts : List (List UInt8)), k ≤ P.length ∧ v10 = .int .i64 (k : Int) ∧ wr.ownsRow w8.heap.size 9 1 v9 k (tvs (Sht.picked (Sht.leaves [] R) (P.take k))) ∧ ts.length ≤ k ∧ MkW wr (w.heap.size + 1) w.heap.size none [] (Mill.steps [] ts s8) ∧ Mv w8 wr [w.heap.size + 1, w.heap.size]) (fun _ v10 _ => P.length - (intOf v10).toNat)
    case atStart => exact ⟨0, [], Nat.zero_le _, rfl, World.ownsRow_nil _ _ _ _, Nat.zero_le _, H8.out.m, Mv.refl _ _⟩
    case round =>
      obtain ⟨k, ts, hk, rfl, hown, hts, hmk, hvk⟩ := hrel
      have HW := Lib.hid (H8.out.step hmk hvk)
      by_cases hlt : k < P.length
      · obtain ⟨b2, off2, rfl, hcell2⟩ := RowI.get HW.out.p k hlt
        have hst := Sht.picked_step (Sht.leaves [] R) P k hlt
        have hxr := HP.out.2.1 _ (List.getElem_mem hlt)
        generalize P[k]'hlt = x at hcell2 hst hxr
        rw [HPL.out.2] at hxr
        obtain ⟨xi, rfl⟩ := Int.eq_ofNat_of_zero_le hxr.1
        have hxl : xi < R.length := by rw [HPL.out.2]; omega
        obtain ⟨b, off, rfl, hbl3, hbs3, hat⟩ := RowP.get HW.out.r xi hxl
        have hsh := HP.out.2.2 _ (List.getElem_mem hxl)
        have hlf : (Sht.leaves [] R).getD xi [] = Sht.leaf [] (R[xi]'hxl).n (R[xi]'hxl).p := by
          unfold Sht.leaves
          rw [List.getD_eq_getElem?_getD, List.getElem?_map, List.getElem?_eq_getElem hxl]; rfl
        rw [Int.toNat_natCast, hlf] at hst
        generalize R[xi]'hxl = z at hat hsh hst
        clear hlf
        obtain ⟨xn, xp, xc, xe⟩ := z
        obtain ⟨c0, c1, c2, c3⟩ := hat
        dsimp only at c0 c1 c2 c3 hsh hst
        have hLf := slLeaf_any (w.heap.size + 1) w.heap.size none [] rfl (Mill.steps [] ts s8) wr xn xp xc xe hmk hsh.1 hsh.2 (by have := HPL.out.1; rw [Mill.steps_sums]; omega)
        unfold MkPost at hLf
        generalize Sht.leaf [] xn xp = yy at *
        obtain ⟨tx, htx⟩ : ∃ t, [Sht.leafT xn xp] = t := ⟨_, rfl⟩
        rw [htx] at hLf
        have htl : tx.length = 1 := by rw [← htx]; rfl
        have HL := Lib.hid hLf; clear hLf htx
        have HST := Lib.hid hst; clear hst
        generalize Sht.picked (Sht.leaves [] R) (P.take k) = Q at *
        rw [HPL.out.1] at hlt hk ⊢
        clear hbs3 hxl
        have HOWN0 := Lib.hid hown; clear hown
        have HS2 := Lib.hid (And.intro hts (And.intro hmk hvk)); clear hts hmk hvk
        go_wp2_with fail
        refine (HL.out).mono ?_
        rintro e w9 ⟨rfl, hm9, hv9⟩
        have hown9 := own_mv HOWN0.out hv9 hlow8
        have hv09 := HS2.out.2.2.trans hv9
        have hs9 := hv09.size
        have HOWN := Lib.hid (hown9.alloc (.cells #[.string (S yy)] 9))
        have HMADE := Lib.hid (made_one w9 yy)
        go_wp2_with (at_builtin; refine wpList_append_own _ rfl (.tmp 70) (.tmp 80) 31 rfl w8.heap.size 9 i0 (.string ⟨#[]⟩) 1 16 Tryd.underlying31 HIN.out.1 HIN.out.2.1 HIN.out.2.2.1 HIN.out.2.2.2 rfl (by decide) u9 k (tvs Q) rfl HOWN.out ⟨w9.heap.size, 0, none⟩ 1 1 [.string (S yy)] rfl rfl HMADE.out (by simp [Value.oneCell']) (by simp only [maxLen]; omega) (by omega) (by simp; omega) ?_; intro v11 w11 hown11 hg11 hnil11)
        have hg11' := grown_alloc _ hg11
        have hrw11 : ∀ q, u9.ownBlock = some q → w8.heap.size ≤ q := fun q hq => (hown9.lt q hq).1
        have hv11 := hv09.own hg11' hrw11
        have hm11 := MkW.own H8.out.m hm9 hg11' hrw11
        have hown12 : w11.ownsRow w8.heap.size 9 1 v11 (k + 1) (tvs (Sht.picked (Sht.leaves [] R) (P.take (k + 1)))) := by rw [HST.out, ← tvs_snoc]; exact hown11
        clear hown11 hg11 hnil11 hg11' hown9
        go_wp2_with fail
        go_roundw
        case rel => exact ⟨k + 1, ts ++ tx, by omega, by go_num, hown12, by have := HS2.out.1; rw [List.length_append]; omega, by rw [Mill.steps_app]; exact hm11, hv11⟩
        case measure => simp [intOf]; omega
      · have hkn : k = P.length := by omega
        subst hkn
        rw [List.take_length] at hown
        obtain ⟨A9, cap9, rfl, hc9, hcm9, _, _, hR9⟩ := own_rowC (s := [w.heap.size + 1, w.heap.size]) hown hlow8 (by decide)
        have hcm9' : cap9 ≤ 9223372036854775807 := by simpa only [maxLen] using hcm9
        have hcm7' : cap7 ≤ 9223372036854775807 := by simpa only [maxLen] using hcm7
        have q9 : (Mill.steps [] ts s8).sums ≤ 30300 := by have := HPL.out.1; rw [Mill.steps_sums]; omega
        generalize Mill.steps [] ts s8 = s9 at HW q9
        have H9 := Lib.hid (And.intro HW.out (RowS.ofC hR9)); clear hR9 hown hmk hvk HW hts H8 hcm9 hcm7
        rw [HPL.out.1] at hc9 ⊢
        have hnn : ((N.length : Int) != (N.length : Int)) = false := by simp
        obtain ⟨nl, hNL⟩ : ∃ nl, N.length = nl := ⟨_, rfl⟩
        have HNL := Lib.hid hNL
        rw [hNL] at hbl hc4 hc7 hnn HRb ⊢
        clear hNL
        generalize wr = wa at *
        go_wp2_with fail
        go_loopw [11] (fun v11 wr => ∃ j : Nat, j ≤ nl ∧ v11 = .int .i64 (j : Int) ∧ Below wa.heap.size wa wr) (fun v11 _ => nl - (intOf v11).toNat)
        case atStart => exact ⟨0, Nat.zero_le _, rfl, Below.refl _ _⟩
        case round =>
          obtain ⟨j, hj, rfl, hbw⟩ := hrel
          by_cases hlj : j < nl
          · have hjl : j < N.length := by rw [HNL.out]; exact hlj
            obtain ⟨b, off, rfl, hbl4, hbs4, hr4⟩ := (H9.out.1.n.below hbw) (fun e => by rw [e] at hjl; exact absurd hjl (Nat.not_lt_zero _))
            obtain ⟨b', off', rfl, hbl7, hbs7, hr7⟩ := (H9.out.1.k.below hbw) (fun e => by rw [e] at hjl; exact absurd hjl (Nat.not_lt_zero _))
            have c4 := hr4 j hjl
            have c7 := hr7 j hjl
            generalize N[j]'hjl = x at c4 c7
            have hxx : (x != x) = false := by simp
            have HBW := Lib.hid hbw; clear hbw hr4 hr7 hbl4 hbs4 hbl7 hbs7 hjl
            go_upto_region 21 with (fail)
            go_quiet (fail)
            go_wp2_with fail
            go_roundw
            case rel => exact ⟨j + 1, by omega, by go_num, belowN HBW.out _⟩
            case measure => simp [intOf]; omega
          · have hjn : j = nl := by omega
            subst hjn
            have H10 := Lib.hid (And.intro (H9.out.1.below hbw) (H9.out.2.below hbw)); clear hbw H9
            go_wp2_with fail
            refine (HRb.out A4 A9 cap4 cap9 _ s9 H10.out.1.p hc9 hcm9' H10.out.2 hc4 hcm4' H10.out.1.n (by omega) H10.out.1.m).mono ?_
            rintro e w11 ⟨rfl, hm11, hv11⟩
            have q11 : (Mill.steps [] tr s9).sums ≤ 30400 := by rw [Mill.steps_sums]; omega
            generalize Mill.steps [] tr s9 = s11 at hm11 q11
            have H11 := Lib.hid (H10.out.1.step hm11 hv11); clear hm11 hv11 H10
            have hyy : (y == y) = true := by simp
            go_wp2_with fail
            refine (HRt.out A3 cap3 _ s11 hc3 hcm3' H11.out.r (by omega) H11.out.m).mono ?_
            rintro e w12 ⟨rfl, hm12, hv12⟩
            have H12 := Lib.hid (H11.out.step hm12 hv12); clear hm12 hv12 H11
            go_wp2_with fail
            refine (H12.out.awake).mono ?_
            rintro e w13 ⟨rfl, hb13⟩
            go_wp2_with fail
            go_ret
            exact ⟨rfl, hb13⟩
theorem sheetNodes_any (A A2 : Option Addr) (L : List Slp) (P0 : List Int) (cap cap2 : Nat) (w : World) (hcap : L.length ≤ cap) (hcm : cap ≤ 9223372036854775807) (hrow : RowP w [] A L) (hc2 : P0.length ≤ cap2) (hcm2 : cap2 ≤ 9223372036854775807) (hrow2 : RowI w [] A2 P0) (hT : Tabs w) :
    Calls Tryd.prog 5 #[.slice A L.length cap, .slice A2 P0.length cap2] w fun e w' => e = .returned (.bool true) ∧ Below w.heap.size w w' := by
  have hcut : (P0.length = (P0.take 20).length ∧ ¬ (20 : Int) < (P0.length : Int)) ∨ ((20 : Int) < (P0.length : Int) ∧ (P0.take 20).length = 20) := by
    rw [List.length_take]
    omega
  by_cases hb : P0.take 20 = [] ∨ Sht.rising (P0.take 20) ((Sht.few L).length : Int) = false
  · exact sheetNodes_bad A A2 L (P0.take 20) cap cap2 P0.length w hcap hcm hrow (hrow2.take' 20) hcut hc2 hcm2 hT hb
  · exact sheetNodes_good A A2 L (P0.take 20) cap cap2 P0.length w hcap hcm hrow (hrow2.take' 20) hcut hc2 hcm2 hT (fun e => hb (Or.inl e)) (by
      cases h : Sht.rising (P0.take 20) ((Sht.few L).length : Int) with
      | true => rfl
      | false => exact absurd (Or.inr h) hb)
set_option maxRecDepth 100000 in
theorem sheetNodes_contract {H : Type} (enc : TypeId × Value → H) (W : World) (base : Nat) (args : Array Value) (ds gs : List (DataW H)) (before : List MemPlace)
    (hval : ∀ (j : Nat) t v, Tryd.f5.params[j]? = some t → args[j]? = some v → Value.okWide Tryd.prog W .any base t v)
    (hW : DataW.Whole enc Tryd.prog Tryd.f5.params.toList Rows.sheetNodesSpec.vars false W args.toList ds gs before)
    (hsz : (DataW.weightsEach Tryd.prog (Tryd.f5.params.toList ++ Rows.sheetNodesSpec.plain.varTypes Tryd.prog) (ds ++ gs)).all (· ≤ reachBytes) = true) (hT : Tabs W) :
    Calls Tryd.prog 5 args W fun e W' =>
      ((Rows.sheetNodesSpec.fn H (ds ++ gs)).results = [.lit (.bool true)] ∧ (Rows.sheetNodesSpec.fn H (ds ++ gs)).args = ds ∧ (Rows.sheetNodesSpec.fn H (ds ++ gs)).vars = []) ∧ e = .returned (.bool true) ∧ Below W.heap.size W W' := by
  obtain ⟨p, q, hA0, hV, rfl, hfz, hnd⟩ := hW
  have hA : DataW.TrodAll enc Tryd.prog W 0 (fun _ => true) true Tryd.f5.params.toList args.toList ds p := hA0
  rw [Tryd.params5] at hA hval hsz
  obtain ⟨v0, v1, d0, d1, p0, p1, rfl, rfl, rfl, h0, h1⟩ := trodAll_two hA
  obtain ⟨rfl, rfl⟩ := trodVars_none hV
  obtain ⟨A_l, len_l, cap_l, rfl⟩ := okWide_slice Tryd.underlying22 (hval 0 22 v0 rfl rfl)
  obtain ⟨fuel_l, hf_l⟩ := h0
  obtain ⟨l_l, rfl, lc_l, cm_l, hR_l⟩ := slips_open hf_l
  obtain ⟨A_p, len_p, cap_p, rfl⟩ := okWide_slice Tryd.underlying44 (hval 1 44 v1 rfl rfl)
  obtain ⟨fuel_p, hf_p⟩ := h1
  obtain ⟨l_p, rfl, lc_p, cm_p, hR_p⟩ := ints_open hf_p
  exact (sheetNodes_any A_l A_p l_l l_p cap_l cap_p W lc_l cm_l hR_l lc_p cm_p hR_p hT).mono fun e W' h => ⟨⟨rfl, rfl, rfl⟩, h⟩

end Go.Proofs.YtgjknfphmmlcdaaDoor
