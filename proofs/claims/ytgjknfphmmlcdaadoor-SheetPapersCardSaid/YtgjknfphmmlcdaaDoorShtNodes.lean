/-
  The contract of the program's Nodes.
-/
import Derived.Test.YtgjknfphmmlcdaaDoorShtRoot
import Derived.Test.YtgjknfphmmlcdaaDoorShtRise
import Derived.Test.YtgjknfphmmlcdaaDoorShtSibs
namespace Go.Proofs.YtgjknfphmmlcdaaDoor
open Go.RowKit
set_option linter.unusedVariables false

namespace Sht
theorem rise_of {p : List Int} {n : Int} (h : rising p n = true) : Rise p := (rising_pos h).2
theorem rise_pos {p : List Int} {n : Nat} (h : rising p (n : Int) = true) (h0 : p ≠ []) : 1 ≤ n := by
  match p, h0 with
  | x :: xs, _ =>
    have := (rising_pos h).1 x (by simp)
    omega
/-- The root of a part of the leaves. -/
def partRoot (l : List Mill.En) (F : List Mk.T) (p : Nat × Nat) : Mk.T := Mk.root l ((F.drop p.1).take p.2)
theorem beside_map (l : List Mill.En) (pick : List Int) (F : List Mk.T) : beside l F 0 pick = (parts pick 0 F.length).map (partRoot l F) := beside_all l pick F
theorem map_step (l : List Mill.En) (F : List Mk.T) (R : List (Nat × Nat)) (k : Nat) (hk : k < R.length) : (R.take (k + 1)).map (partRoot l F) = (R.take k).map (partRoot l F) ++ [partRoot l F R[k]] := by
  rw [List.take_succ_eq_append_getElem hk, List.map_append]; rfl
theorem map_len (l : List Mill.En) (F : List Mk.T) (R : List (Nat × Nat)) (k : Nat) (hk : k ≤ R.length) : ((R.take k).map (partRoot l F)).length = k := by
  rw [List.length_map, List.length_take]; omega
theorem leaves_part (l : List Mill.En) (L : List Slp) (p : Nat × Nat) : leaves l ((L.drop p.1).take p.2) = ((leaves l L).drop p.1).take p.2 := by rw [leaves_take, leaves_drop]
end Sht
theorem RowP.cut {w : World} {s : List Nat} {A : Option Addr} {L : List Slp} (h : RowP w s A L) (cap a n : Nat) (hc : L.length ≤ cap) : RowP w s (if cap = a then A else A.map (·.add (a * 4))) ((L.drop a).take n) := by
  have := (h.aft cap a hc).take' n
  unfold Go.Proofs.YtgjknfphmmlcdaaDoor.aft at this
  exact this

set_option maxHeartbeats 2000000 in
theorem shNodes_bad (P : Value) (A A2 : Option Addr) (n cap cap2 : Nat) (pick : List Int) (w : World) (hc2 : pick.length ≤ cap2) (hcm2 : cap2 ≤ 9223372036854775807) (hrow : RowI w [] A2 pick) (hb : pick = [] ∨ Sht.rising pick (n : Int) = false) :
    Calls Tryd.prog 21 #[P, .slice A n cap, .slice A2 pick.length cap2] w fun e w' => e = .returned (.tuple #[.slice none 0 0, .int .i64 1]) ∧ w' = w := by
  have hR := fun W (h : RowI W [] A2 pick) => shRising_any A2 cap2 pick (n : Int) [] W h hc2 hcm2
  by_cases h0 : pick = []
  · subst h0
    clear hR hb hrow
    go_enter Tryd.func21, Tryd.ntmps21
    go_wp2_with fail
    go_ret2
    exact ⟨rfl, rfl⟩
  · have h1 : Sht.rising pick (n : Int) = false := hb.resolve_left h0
    rw [h1] at hR
    have HR := Lib.hid (hR w hrow); clear hR hb hrow h1
    have h0' : ((pick.length : Int) == 0) = false := by
      have : pick.length ≠ 0 := fun e => h0 (List.eq_nil_of_length_eq_zero e)
      simpa using (show ¬ (pick.length : Int) = 0 by omega)
    clear h0
    generalize pick.length = m at *
    go_enter Tryd.func21, Tryd.ntmps21
    go_wp2_with fail
    refine (HR.out).mono ?_
    rintro e w1 ⟨rfl, rfl⟩
    go_wp2_with fail
    go_ret2
    exact ⟨rfl, rfl⟩

section
variable (g nb : Nat) (tv : Option Nat) (l : List Mill.En)
set_option maxRecDepth 100000 in
set_option maxHeartbeats 4000000 in
theorem shNodes_any (hr : Mill.right l = true) (A A2 : Option Addr) (L : List Slp) (pick : List Int) (cap cap2 : Nat) (st : Mill.St) (w : World) (hn : L.length ≤ 100) (hcap : L.length ≤ cap) (hcm : cap ≤ 9223372036854775807) (hrow : RowP w [g, nb] A L) (hs : Sht.Short L)
    (hc2 : pick.length ≤ cap2) (hcm2 : cap2 ≤ 9223372036854775807) (hrow2 : RowI w [] A2 pick) (h0 : pick ≠ []) (hris : Sht.rising pick (L.length : Int) = true) (hsum : st.sums ≤ 100000000000000) (hm : MkW w g nb tv l st) :
    Calls Tryd.prog 21 #[.pointer (some ⟨g, 0, none⟩), .slice A L.length cap, .slice A2 pick.length cap2] w (RowPostE w g nb tv l st (Sht.beside l (Sht.leaves l L) 0 pick) 30000 0) := by
  obtain ⟨i0, hi0, hz0, hz1, hz2⟩ := info_parts mkinfo
  have HIN := Lib.hid (And.intro hi0 (And.intro hz0 (And.intro hz1 hz2))); clear hi0 hz0 hz1 hz2
  have hR := fun W (h : RowI W [] A2 pick) => shRising_any A2 cap2 pick (L.length : Int) [] W h hc2 hcm2
  rw [hris] at hR
  have h1 := Sht.rise_pos hris h0
  have hin := Sht.rising_in hris
  have hS := fun W => siblings_any pick (Sht.rise_of hris) [] L.length 0 A2 cap2 W h1 (by omega) (by omega)
  rw [hin] at hS
  have hS' := fun W => hS W hc2 hcm2
  clear hS
  have hpin := Sht.parts_in pick L.length 0 h1
  have hple := Sht.parts_le pick L.length 0 h1
  have hb := Sht.beside_map l pick (Sht.leaves l L)
  rw [Sht.leaves_len] at hb
  rw [hb]
  unfold SibPost at hS'
  generalize Sht.parts pick 0 L.length = R at *
  have hRt := fun (p : Nat × Nat) (hp : p ∈ R) st' W (hs' : st'.sums ≤ 100000000100000) (hW : RowP W [g, nb] A L) hM =>
    shRoot_any g nb tv l hr (if cap = p.1 then A else A.map (·.add (p.1 * 4))) ((L.drop p.1).take p.2) (cap - p.1) st' W (by rw [List.length_take, List.length_drop]; omega) (by rw [List.length_take, List.length_drop]; omega) (by omega) (hW.cut cap p.1 p.2 hcap) ((hs.drop _).take _) (by omega) hM
  have hRl := fun (p : Nat × Nat) (hp : p ∈ R) => (show ((L.drop p.1).take p.2).length = p.2 by have := hpin p hp; rw [List.length_take, List.length_drop]; omega)
  have hasks := fun (p : Nat × Nat) => Sht.rootT_len l ((L.drop p.1).take p.2)
  have hgn := hm.m.lt
  have HM := Lib.hid hm; clear hm
  have HROW := Lib.hid (And.intro hrow hrow2); clear hrow hrow2
  have hpl : ((pick.length : Int) == 0) = false := by
    have : pick.length ≠ 0 := fun e => h0 (List.eq_nil_of_length_eq_zero e)
    simpa using (show ¬ (pick.length : Int) = 0 by omega)
  have HR := Lib.hid hR; clear hR
  have HS := Lib.hid hS'; clear hS'
  have HRt := Lib.hid hRt; clear hRt
  have HRl := Lib.hid hRl; clear hRl
  clear hin hb hris h0
  generalize pick.length = m at *
  obtain ⟨n, hN⟩ : ∃ n, L.length = n := ⟨_, rfl⟩
  rw [hN] at hcap hn h1 hpin hple HR HS ⊢
  have HN := Lib.hid hN; clear hN
  unfold RowPostE
  go_enter Tryd.func21, Tryd.ntmps21
  go_wp2_with fail
  refine (HR.out _ HROW.out.2).mono ?_
  rintro e w0 ⟨rfl, rfl⟩
  go_wp2_with fail
  refine (HS.out _ HROW.out.2).mono ?_
  rintro e w1 ⟨v, rfl, hown1, hb1⟩
  obtain ⟨Ap, capp, rfl, hcp, hcpm, _, _, hrp⟩ := own_rowC (s := [g, nb]) hown1 (by intro x hx; simp only [List.mem_cons, List.not_mem_nil, or_false] at hx; omega) (by decide)
  have HP := Lib.hid (And.intro (HM.out.below hb1) (And.intro (RowC.below HROW.out.1 hb1) hrp))
  have hcpm' : capp ≤ 9223372036854775807 := by simpa only [maxLen] using hcpm
  have hb1s := hb1.size
  have HB1 := Lib.hid hb1
  clear hown1 hb1 hrp hcpm
  have hgn1 : g < w1.heap.size ∧ nb < w1.heap.size := by omega
  go_wp2_with fail
  go_loopw [8, 27] (fun v8 v27 wr => ∃ (k : Nat) (ts : List (List UInt8)), k ≤ R.length ∧ v27 = .int .i64 (k : Int) ∧ wr.ownsRow w1.heap.size 9 1 v8 k (tvs ((R.take k).map (Sht.partRoot l (Sht.leaves l L)))) ∧ ts.length ≤ 300 * k ∧ MkW wr g nb tv l (Mill.steps l ts st) ∧ Mv w1 wr [g, nb]) (fun _ v27 _ => R.length - (intOf v27).toNat)
  case atStart => exact ⟨0, [], Nat.zero_le _, rfl, World.ownsRow_nil _ _ _ _, Nat.zero_le _, HP.out.1, Mv.refl _ _⟩
  case round =>
    obtain ⟨k, ts, hk, rfl, hown, hts, hmk, hvk⟩ := hrel
    by_cases hlt : k < R.length
    · obtain ⟨b, off, rfl, hbl, hbs, c0, c1⟩ := RowPt.get (RowC.mv HP.out.2.2 hvk (fun x hx => hx)) k hlt
      have hmem : R[k]'hlt ∈ R := List.getElem_mem hlt
      have hpi := hpin _ hmem
      have hst := Sht.map_step l (Sht.leaves l L) R k hlt
      have hlk := Sht.map_len l (Sht.leaves l L) R k hk
      have hRq := fun W (hW : Below wr.heap.size wr W) => HRt.out _ hmem (Mill.steps l ts st) W (by rw [Mill.steps_sums]; omega) (RowC.below (RowC.mv HP.out.2.1 hvk (fun x hx => hx)) hW) (hmk.below hW)
      rw [HRl.out _ hmem, Sht.leaves_part] at hRq
      have hask := hasks (R[k]'hlt)
      rw [HRl.out _ hmem] at hask
      have hpr : Sht.partRoot l (Sht.leaves l L) (R[k]'hlt) = Mk.root l (((Sht.leaves l L).drop (R[k]'hlt).1).take (R[k]'hlt).2) := rfl
      rw [← hpr] at hRq
      unfold MkPost at hRq
      generalize Sht.partRoot l (Sht.leaves l L) (R[k]'hlt) = y at *
      generalize Sht.rootT l ((L.drop (R[k]'hlt).1).take (R[k]'hlt).2) = tx at *
      clear hpr hmem
      generalize R[k]'hlt = p at *
      obtain ⟨p1, p2⟩ := p
      dsimp only at c0 c1 hpi hRq hask
      have hne : ¬ cap = p1 := by omega
      simp only [if_neg hne] at hRq
      have HL := Lib.hid hRq; clear hRq
      have HST := Lib.hid hst; clear hst
      generalize (R.take k).map (Sht.partRoot l (Sht.leaves l L)) = Q at *
      obtain ⟨r, hRN⟩ : ∃ r, R.length = r := ⟨_, rfl⟩
      rw [hRN] at hlt hk hple hcp ⊢
      have HRN := Lib.hid hRN; clear hRN
      clear hbs
      have HOWN0 := Lib.hid hown; clear hown
      have HS2 := Lib.hid (And.intro hts (And.intro hmk hvk)); clear hts hmk hvk
      have q1 : (p1 : Int) ≤ (p1 : Int) + (p2 : Int) := by omega
      have q2 : (p1 : Int) + (p2 : Int) ≤ (cap : Int) := by omega
      have q3 : ((p1 : Int) + (p2 : Int)).toNat - p1 = p2 := by omega
      have q4 : ((p1 : Int) + (p2 : Int)).toNat = p1 + p2 := by omega
      have q5 : p1 + p2 - p1 = p2 := by omega
      have hba := belowB wr (.cells #[.int .i64 (p1 : Int), .int .i64 (p2 : Int)] 86)
      go_wp2_with fail
      refine (HL.out _ hba).mono ?_
      rintro e w3 ⟨rfl, hm3, hv3⟩
      have hown3 := own_mv (own_below HOWN0.out hba) hv3 (by intro z hz; simp only [List.mem_cons, List.not_mem_nil, or_false] at hz; omega)
      have hv03 := (HS2.out.2.2.trans (Mv.of_below hba _)).trans hv3
      have hs3 := hv03.size
      have HOWN := Lib.hid (hown3.alloc (.cells #[.string (S y)] 9))
      have HMADE := Lib.hid (made_one w3 y)
      go_wp2_with (at_builtin; refine wpList_append_own _ rfl (.tmp 31) (.tmp 43) 31 rfl w1.heap.size 9 i0 (.string ⟨#[]⟩) 1 16 Tryd.underlying31 HIN.out.1 HIN.out.2.1 HIN.out.2.2.1 HIN.out.2.2.2 rfl (by decide) u8 k (tvs Q) rfl HOWN.out ⟨w3.heap.size, 0, none⟩ 1 1 [.string (S y)] rfl rfl HMADE.out (by simp [Value.oneCell']) (by simp only [maxLen]; omega) (by omega) (by simp; omega) ?_; intro v9 w5 hown5 hg5 hnil5)
      have hg5' := grown_alloc _ hg5
      have hrw5 : ∀ q, u8.ownBlock = some q → w1.heap.size ≤ q := fun q hq => (hown3.lt q hq).1
      have hv5 := hv03.own hg5' hrw5
      have hm5 := MkW.own HP.out.1 hm3 hg5' hrw5
      have hown6 : w5.ownsRow w1.heap.size 9 1 v9 (k + 1) (tvs ((R.take (k + 1)).map (Sht.partRoot l (Sht.leaves l L)))) := by rw [HST.out, ← tvs_snoc]; exact hown5
      clear hown5 hg5 hnil5 hg5' hown3
      go_wp2_with fail
      go_roundw
      case rel => exact ⟨k + 1, ts ++ tx, by omega, by go_num, hown6, by have := HS2.out.1; rw [List.length_append]; omega, by rw [Mill.steps_app]; exact hm5, hv5⟩
      case measure => simp [intOf]; omega
    · have hkn : k = R.length := by omega
      subst hkn
      rw [List.take_length] at hown
      have hlr : (R.map (Sht.partRoot l (Sht.leaves l L))).length = R.length := List.length_map _
      have HF : Hid (∃ (v : Value) (ts : List (List UInt8)), (.returned (.tuple #[u8, .int .i64 0]) : Ending) = .returned (.tuple #[v, .int .i64 0]) ∧ wr.ownsRow w0.heap.size 9 1 v (R.map (Sht.partRoot l (Sht.leaves l L))).length (tvs (R.map (Sht.partRoot l (Sht.leaves l L)))) ∧ ts.length ≤ 30000 ∧ MkW wr g nb tv l (Mill.steps l ts st) ∧ Mv w0 wr [g, nb]) :=
        ⟨u8, ts, rfl, by rw [hlr]; exact own_low hown hb1s, by omega, hmk, (Mv.of_below HB1.out _).trans hvk⟩
      clear hown hmk hvk hlr
      go_wp2_with fail
      go_ret2
      exact HF.out
end
end Go.Proofs.YtgjknfphmmlcdaaDoor
