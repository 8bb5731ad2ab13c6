/-
  The contract of the eighth layer's statements' own beside.
-/
import Derived.Test.YtgjknfphmmlcdaaDoorShtAwake
import Derived.Maps.AppendAt
namespace Go.Proofs.YtgjknfphmmlcdaaDoor
open Go.RowKit
set_option linter.unusedVariables false

namespace Sht
open Mk
theorem any_step (pick : List Int) (at_ n k : Nat) (hk : k < pick.length) : (pick.take (k + 1)).any (inr at_ n) = ((pick.take k).any (inr at_ n) || inr at_ n pick[k]) := by
  rw [List.take_succ_eq_append_getElem hk, List.any_append]; simp
theorem beside_not (l : List Mill.En) (L : List T) (at_ : Nat) (pick : List Int) (h : has pick at_ L.length = false) : beside l L at_ pick = [root l L] := by rw [beside, if_pos h]
theorem beside_leaf (l : List Mill.En) (L : List T) (at_ : Nat) (pick : List Int) (h : has pick at_ L.length = true) (h2 : ¬ 2 ≤ L.length) : beside l L at_ pick = [] := by rw [beside, if_neg (by simp [h]), dif_neg h2]
theorem beside_more (l : List Mill.En) (L : List T) (at_ : Nat) (pick : List Int) (h : has pick at_ L.length = true) (h2 : 2 ≤ L.length) : beside l L at_ pick = beside l (L.take (below L.length)) at_ pick ++ beside l (L.drop (below L.length)) (at_ + below L.length) pick := by rw [beside, if_neg (by simp [h]), dif_pos h2]
theorem beside_le (l : List Mill.En) (L : List T) (at_ : Nat) (pick : List Int) (h1 : 1 ≤ L.length) : (beside l L at_ pick).length ≤ L.length := by
  rw [beside_len l pick L.length at_ L rfl, ← parts_len]
  exact parts_le pick L.length at_ h1
theorem tvs_take_step (R : List T) (k : Nat) (hk : k < R.length) : R.take (k + 1) = R.take k ++ [R[k]] := List.take_succ_eq_append_getElem hk
end Sht
theorem inr_cases (x : Int) (at_ n : Nat) : (x ≥ (at_ : Int) ∧ x < (at_ : Int) + (n : Int) ∧ Sht.inr at_ n x = true) ∨ (x ≥ (at_ : Int) ∧ ¬ x < (at_ : Int) + (n : Int) ∧ Sht.inr at_ n x = false) ∨ (¬ x ≥ (at_ : Int) ∧ Sht.inr at_ n x = false) := by
  have hf : ¬ Sht.inr at_ n x = true → Sht.inr at_ n x = false := fun h => by simpa using h
  by_cases h1 : x ≥ (at_ : Int)
  · by_cases h2 : x < (at_ : Int) + (n : Int)
    · exact Or.inl ⟨h1, h2, Sht.inr_iff.2 ⟨h1, h2⟩⟩
    · exact Or.inr (Or.inl ⟨h1, h2, hf (fun h => h2 (Sht.inr_iff.1 h).2)⟩)
  · exact Or.inr (Or.inr ⟨h1, hf (fun h => h1 (Sht.inr_iff.1 h).1)⟩)

/-- A row stays beside another one that grows. -/
theorem RowC.hop {w w' : World} {v v8 : Value} {A : Option Addr} {cs : List Value} {N : Nat} (h : RowC w v.ownBlock.toList A cs) (hg : w.grownBy w' v.ownBlock) (hat : v8.ownBlock = v.ownBlock ∨ v8.ownBlock = some N) (hN : w.heap.size ≤ N) : RowC w' v8.ownBlock.toList A cs := fun hl => by
  obtain ⟨b, off, hA, hb, hn, hr⟩ := h hl
  have hne : some b ≠ v.ownBlock := fun e => hn (by rw [← e]; simp)
  refine ⟨b, off, hA, Nat.lt_of_lt_of_le hb hg.size, fun hx => ?_, fun j u hu => World.cell_block (hg.block b hb hne) (hr j u hu)⟩
  rcases hat with e | e
  · rw [e] at hx; exact hn hx
  · rw [e] at hx
    simp only [Option.toList_some, List.mem_cons, List.not_mem_nil, or_false] at hx
    omega
theorem RowC.text {w : World} {s : List Nat} {A : Option Addr} {R : List (List UInt8)} (h : RowC w s A (tvs R)) (k : Nat) (hk : k < R.length) : ∃ b off, A = some ⟨b, off, none⟩ ∧ w.cell? ⟨b, off + k, none⟩ = some (.string (S R[k])) := by
  obtain ⟨b, off, hA, _, _, hr⟩ := h (fun e => by
    have : (tvs R).length = R.length := by unfold tvs; rw [List.length_map]
    rw [e, List.length_nil] at this
    omega)
  exact ⟨b, off, hA, hr k _ (by unfold tvs; rw [List.getElem?_map, List.getElem?_eq_getElem hk]; rfl)⟩

section
variable (g nb : Nat) (tv : Option Nat) (l : List Mill.En)
set_option maxRecDepth 100000 in
set_option maxHeartbeats 8000000 in
theorem slBeside_any (hr : Mill.right l = true) (A2 : Option Addr) (pick : List Int) (cap2 : Nat) (hc2 : pick.length ≤ cap2) (hcm2 : cap2 ≤ 9223372036854775807) : ∀ (n : Nat) (L : List (List UInt8)) (at_ : Nat) (A : Option Addr) (cap : Nat) (st : Mill.St) (w : World), L.length = n → 1 ≤ n → at_ + n ≤ 1000 → n ≤ cap → cap ≤ 9223372036854775807 →
    RowS w [g, nb] A L → RowI w [g, nb] A2 pick → (∀ s, s ∈ L → s.length ≤ 1000000) → st.sums + 2 * n ≤ 1000000000 → MkW w g nb tv l st →
    Calls Tryd.prog 24 #[.pointer (some ⟨g, 0, none⟩), .slice A n cap, .int .i64 (at_ : Int), .slice A2 pick.length cap2] w (RowPost w g nb tv l st (Sht.beside l L at_ pick) n) := by
  obtain ⟨i0, hi0, hz0, hz1, hz2⟩ := info_parts mkinfo
  have HIN := Lib.hid (And.intro hi0 (And.intro hz0 (And.intro hz1 hz2))); clear hi0 hz0 hz1 hz2
  intro n
  induction n using Nat.strongRecOn with
  | ind n ih =>
    intro L at_ A cap st w hn h1 ha hcap hcm hrow hrow2 hs hsum hm
    obtain ⟨bh, hbh⟩ : ∃ bh, Sht.has pick at_ n = bh := ⟨_, rfl⟩
    have HBH := Lib.hid hbh
    have hh0 : Sht.has pick at_ n = pick.any (Sht.inr at_ n) := rfl
    have hgn := hm.m.lt
    have HM := Lib.hid (And.intro hm (And.intro hrow hrow2)); clear hm hrow hrow2
    obtain ⟨m, hM⟩ : ∃ m, pick.length = m := ⟨_, rfl⟩
    have HMM := Lib.hid hM
    rw [hM] at hc2 ih ⊢
    clear hbh hM
    have HIH := Lib.hid ih; clear ih
    go_enter Tryd.func24, Tryd.ntmps24
    go_wp2_with fail
    go_loopw [9, 10] (fun v9 v10 wr => ∃ (k : Nat) (s : Bool), k ≤ m ∧ v10 = .int .i64 (k : Int) ∧ v9 = .bool s ∧ (pick.take k).any (Sht.inr at_ n) = s ∧ wr = w) (fun _ v10 _ => m - (intOf v10).toNat)
    case atStart => exact ⟨0, false, Nat.zero_le _, rfl, rfl, rfl, rfl⟩
    case round =>
      obtain ⟨k, s, hk, rfl, rfl, hany, rfl⟩ := hrel
      by_cases hlt : k < m
      · have hkl : k < pick.length := by rw [HMM.out]; exact hlt
        obtain ⟨b, off, rfl, hcell⟩ := RowI.get HM.out.2.2 k hkl
        have hst := Sht.any_step pick at_ n k hkl
        rw [hany] at hst
        generalize pick[k]'hkl = x at hcell hst
        have HST := Lib.hid hst; clear hst hh0
        have hki : (k : Int) < (m : Int) := by omega
        cases s with
        | true =>
          go_wp2_with fail
          go_roundw
          case rel => exact ⟨k + 1, true, by omega, by go_num, rfl, by rw [HST.out]; rfl, trivial⟩
          case measure => simp [intOf]; omega
        | false =>
          rcases inr_cases x at_ n with ⟨c1, c2, c3⟩ | ⟨c1, c2, c3⟩ | ⟨c1, c3⟩
          · go_wp2_with fail
            go_roundw
            case rel => exact ⟨k + 1, true, by omega, by go_num, rfl, by rw [HST.out, c3]; rfl, trivial⟩
            case measure => simp [intOf]; omega
          · go_wp2_with fail
            go_roundw
            case rel => exact ⟨k + 1, false, by omega, by go_num, rfl, by rw [HST.out, c3]; rfl, trivial⟩
            case measure => simp [intOf]; omega
          · go_wp2_with fail
            go_roundw
            case rel => exact ⟨k + 1, false, by omega, by go_num, rfl, by rw [HST.out, c3]; rfl, trivial⟩
            case measure => simp [intOf]; omega
      · have hkn : k = m := by omega
        subst hkn
        have htk : pick.take k = pick := List.take_of_length_le (by rw [HMM.out]; exact Nat.le_refl _)
        rw [htk, ← hh0] at hany
        subst hany
        clear htk hh0 HBH
        cases hh : Sht.has pick at_ n with
        | false =>
          have HBN := Lib.hid (Sht.beside_not l L at_ pick (by rw [hn]; exact hh))
          have hRT := mkRoot_any g nb tv l hr A L cap st wr (by omega) (by omega) hcm HM.out.2.1 hs (by omega) HM.out.1
          have hal := (Mk.rootAsks_len l _ L hn).2 h1
          rw [hn] at hRT
          unfold MkPost at hRT
          generalize Mk.root l L = y at *
          generalize Mk.rootAsks l L = ts at *
          have HRT := Lib.hid hRT; clear hRT hh
          go_wp2_with fail
          refine (HRT.out).mono ?_
          rintro e w3 ⟨rfl, hm3, hv3⟩
          go_wp2_with fail
          go_ret
          rw [HBN.out]
          exact ⟨_, ts, rfl, own_one w3 y wr.heap.size hv3.size, by omega, hm3.below (belowB w3 _), hv3.alloc _⟩
        | true =>
          by_cases h2 : 2 ≤ n
          · have HBN := Lib.hid (Sht.beside_more l L at_ pick (by rw [hn]; exact hh) (by omega))
            rw [hn] at HBN
            have hlt := Mk.below_lt h2
            have hpos := Mk.below_pos n
            have hl1 : (L.take (Mk.below n)).length = Mk.below n := by rw [List.length_take]; omega
            have hl2 : (L.drop (Mk.below n)).length = n - Mk.below n := by rw [List.length_drop]; omega
            have HGO := Lib.hid (fun e h1 h2 => Mk.below_go (n := n) (e := e) h1 h2)
            have I1 := HIH.out (Mk.below n) hlt (L.take (Mk.below n)) at_ A cap st wr hl1 hpos (by omega) (by omega) hcm (HM.out.2.1.take _) HM.out.2.2 (fun s hx => hs s (List.mem_of_mem_take hx)) (by omega) HM.out.1
            have I2 := fun st' W (hv : Mv wr W [g, nb]) (hs' : st'.sums ≤ st.sums + Mk.below n) (hM' : MkW W g nb tv l st') => HIH.out (n - Mk.below n) (by omega) (L.drop (Mk.below n)) (at_ + Mk.below n) (A.map (·.add (Mk.below n))) (cap - Mk.below n) st' W hl2 (by omega) (by omega) (by omega) (by omega) (by
              have := (HM.out.2.1.mv hv (fun x hx => hx)).aft cap (Mk.below n) (by omega)
              unfold aft at this
              rwa [if_neg (by omega), Nat.mul_one] at this) (RowC.mv HM.out.2.2 hv (fun x hx => hx)) (fun s hx => hs s (List.mem_of_mem_drop hx)) (by omega) hM'
            have hbl1 := Sht.beside_le l (L.take (Mk.below n)) at_ pick (by omega)
            have hbl2 := Sht.beside_le l (L.drop (Mk.below n)) (at_ + Mk.below n) pick (by omega)
            rw [hl1] at hbl1
            rw [hl2] at hbl2
            unfold RowPost at I1 I2
            rw [show ((at_ + Mk.below n : Nat) : Int) = (at_ : Int) + (Mk.below n : Int) from by omega] at I2
            clear hh hl1 hl2 hs HIH
            generalize Sht.beside l (L.take (Mk.below n)) at_ pick = R1 at *
            generalize Sht.beside l (L.drop (Mk.below n)) (at_ + Mk.below n) pick = R2 at *
            generalize Mk.below n = kk at *
            have HI1 := Lib.hid I1; clear I1
            have HI2 := Lib.hid I2; clear I2
            have hb1 : ((n : Int) == 1) = false := by simpa using (show ¬ (n : Int) = 1 by omega)
            obtain ⟨wo, hwo⟩ : ∃ wo, wr = wo := ⟨_, rfl⟩
            have HWO := Lib.hid hwo
            rw [hwo] at HM HI1 HI2 hgn ⊢
            clear hwo
            go_wp2_with fail
            go_loopw [11] (fun v11 wr => ∃ e : Nat, 2 ^ e < n ∧ v11 = .int .i64 ((2 ^ e : Nat) : Int) ∧ wr = wo) (fun v11 _ => n - (intOf v11).toNat)
            case atStart => exact ⟨0, by omega, rfl, rfl⟩
            case round =>
              obtain ⟨e, he, rfl, rfl⟩ := hrel
              have hpos2 := Nat.two_pow_pos e
              obtain ⟨q, hq⟩ : ∃ q, 2 ^ e = q := ⟨_, rfl⟩
              have hs2 : 2 ^ (e + 1) = 2 * q := by rw [Nat.pow_succ, hq]; omega
              have HB := Lib.hid (fun h => HGO.out e he h)
              rw [hq] at HB he hpos2 ⊢
              have HS := Lib.hid hs2; clear hs2 hq
              by_cases hlq : 2 * q < n
              · have hi : 2 * (q : Int) < (n : Int) := by omega
                go_wp2_with fail
                go_roundw
                case rel => exact ⟨e + 1, by rw [HS.out]; omega, by rw [HS.out]; go_num, trivial⟩
                case measure => simp [intOf]; omega
              · have hi : ¬ 2 * (q : Int) < (n : Int) := by omega
                have hqk := HB.out hlq
                subst hqk
                clear hlq HS HB hpos2 he HGO
                have hkc : q ≤ cap := by omega
                have hkn : q ≤ n := by omega
                have hne : ¬ cap = q := by omega
                go_wp2_with fail
                refine (HI1.out).mono ?_
                rintro e w5 ⟨v1, ts1, rfl, hown1, hts1, hm5, hv5⟩
                have H5 := Lib.hid (And.intro hm5 (And.intro hv5 hown1)); clear hm5 hv5 hown1
                go_wp2_with fail
                refine (HI2.out _ w5 H5.out.2.1 (by rw [Mill.steps_sums]; omega) H5.out.1).mono ?_
                rintro e w7 ⟨v2, ts2, rfl, hown2, hts2, hm7, hv7⟩
                have hown1' := own_mv H5.out.2.2 hv7 (by intro z hz; simp only [List.mem_cons, List.not_mem_nil, or_false] at hz; omega)
                obtain ⟨A3, cap3, rfl, hc3, hcm3, _, _, hR3⟩ := own_rowC (s := v1.ownBlock.toList) hown2 (fun x hx => (H5.out.2.2.lt x (by simpa using hx)).2) (by decide)
                have hcm3' : cap3 ≤ 9223372036854775807 := by simpa only [maxLen] using hcm3
                have hv17 := H5.out.2.1.trans hv7
                rw [← Mill.steps_app] at hm7
                have H7 := Lib.hid (And.intro hm7 (And.intro hv17 (And.intro hown1' hR3))); clear hm7 hv17 hown1' hR3 hown2 hv7 H5 hcm3
                obtain ⟨r1, hr1⟩ : ∃ r, R1.length = r := ⟨_, rfl⟩
                obtain ⟨r2, hr2⟩ : ∃ r, R2.length = r := ⟨_, rfl⟩
                rw [hr1] at hbl1 H7
                rw [hr2] at hbl2 hc3 ⊢
                have HRR := Lib.hid (And.intro hr1 hr2); clear hr1 hr2 HI1 HI2
                obtain ⟨wp, hwp⟩ : ∃ wp, wr = wp := ⟨_, rfl⟩
                have HWP := Lib.hid hwp
                rw [hwp] at HM H7 hgn
                clear hwp
                go_wp2_with fail
                go_loopw [12, 14] (fun v12 v14 wq => ∃ (j : Nat), j ≤ r2 ∧ v14 = .int .i64 (j : Int) ∧ wq.ownsRow wp.heap.size 9 1 v12 (r1 + j) (tvs (R1 ++ R2.take j)) ∧ RowC wq v12.ownBlock.toList A3 (tvs R2) ∧ MkW wq g nb tv l (Mill.steps l (ts1 ++ ts2) st) ∧ Mv wp wq [g, nb]) (fun _ v14 _ => r2 - (intOf v14).toNat)
                case atStart => exact ⟨0, Nat.zero_le _, rfl, by rw [List.take_zero, List.append_nil]; exact H7.out.2.2.1, H7.out.2.2.2, H7.out.1, H7.out.2.1⟩
                case round =>
                  obtain ⟨j, hj, rfl, hown, hrc, hmk, hvk⟩ := hrel
                  by_cases hlj : j < r2
                  · have hjl : j < R2.length := by rw [HRR.out.2]; exact hlj
                    obtain ⟨b, off, rfl, hcell⟩ := hrc.text j hjl
                    have hst := Sht.tvs_take_step R2 j hjl
                    generalize R2[j]'hjl = y at hcell hst
                    have HST := Lib.hid hst; clear hst
                    have HOWN := Lib.hid (hown.alloc (.cells #[.string (S y)] 9))
                    have HMADE := Lib.hid (made_one wr y)
                    have hsz := hvk.size
                    have HK := Lib.hid (And.intro hown (And.intro hrc (And.intro hmk hvk))); clear hown hrc hmk hvk
                    go_wp2_with (at_builtin; refine wpList_append_own_at _ rfl (.tmp 79) (.tmp 84) 31 rfl wp.heap.size 9 i0 (.string ⟨#[]⟩) 1 16 Tryd.underlying31 HIN.out.1 HIN.out.2.1 HIN.out.2.2.1 HIN.out.2.2.2 rfl (by decide) u12 (r1 + j) (tvs (R1 ++ R2.take j)) rfl HOWN.out ⟨wr.heap.size, 0, none⟩ 1 1 [.string (S y)] rfl rfl HMADE.out (by simp [Value.oneCell']) (by simp only [maxLen]; omega) (by omega) (by simp; omega) ?_; intro v8 w8 hown8 hg8 hnil8 hat8)
                    have hg8' := grown_alloc _ hg8
                    have hrw8 : ∀ q, u12.ownBlock = some q → wp.heap.size ≤ q := fun q hq => (HK.out.1.lt q hq).1
                    have hv8 := HK.out.2.2.2.own hg8' hrw8
                    have hm8 := MkW.own HM.out.1 HK.out.2.2.1 hg8' hrw8
                    have hr8 := RowC.hop HK.out.2.1 hg8' hat8 (by simp)
                    have hown9 : w8.ownsRow wp.heap.size 9 1 v8 (r1 + (j + 1)) (tvs (R1 ++ R2.take (j + 1))) := by
                      rw [HST.out, ← List.append_assoc, ← tvs_snoc, ← Nat.add_assoc]; exact hown8
                    clear hown8 hg8 hnil8 hat8 hg8' HOWN HMADE
                    go_wp2_with fail
                    go_roundw
                    case rel => exact ⟨j + 1, by omega, by go_num, hown9, hr8, hm8, hv8⟩
                    case measure => simp [intOf]; omega
                  · have hjn : j = r2 := by omega
                    subst hjn
                    have htk : R2.take j = R2 := List.take_of_length_le (by rw [HRR.out.2]; exact Nat.le_refl _)
                    rw [htk] at hown
                    have hll : (R1 ++ R2).length = r1 + j := by rw [List.length_append, HRR.out.1, HRR.out.2]
                    have HF : Hid (RowPost wp g nb tv l st (R1 ++ R2) n (.returned u12) wr) := ⟨u12, ts1 ++ ts2, rfl, by rw [hll]; exact hown, by rw [List.length_append]; omega, hmk, hvk⟩
                    clear hown hrc hmk hvk hll
                    go_wp2_with fail
                    go_ret
                    rw [HBN.out, HWO.out, HWP.out]
                    exact HF.out
          · have hn1 : n = 1 := by omega
            subst hn1
            have HBN := Lib.hid (Sht.beside_leaf l L at_ pick (by rw [hn]; exact hh) (by omega))
            clear hh
            go_wp2_with fail
            go_ret
            rw [HBN.out]
            exact ⟨_, [], rfl, World.ownsRow_nil _ _ _ _, Nat.zero_le _, HM.out.1, Mv.refl _ _⟩
end
end Go.Proofs.YtgjknfphmmlcdaaDoor
