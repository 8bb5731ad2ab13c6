/-
  The contract of the eighth layer's statements' own build.
-/
import Derived.Test.YtgjknfphmmlcdaaDoorShtBeside
import Derived.Test.YtgjknfphmmlcdaaDoorShtReb
namespace Go.Proofs.YtgjknfphmmlcdaaDoor
open Go.RowKit
set_option linter.unusedVariables false

namespace Sht
open Mk
theorem run_short (l : List Mill.En) (hr : Mill.right l = true) (pick : List Int) (B : Nat) (hB : 32 ≤ B) : ∀ (n at_ : Nat) (s : Left), (∀ x ∈ s.lf, x.length ≤ B) → (∀ x ∈ s.nd, x.length ≤ B) → (run l pick at_ n s).1.length ≤ B ∧ (∀ x ∈ (run l pick at_ n s).2.lf, x.length ≤ B) ∧ (∀ x ∈ (run l pick at_ n s).2.nd, x.length ≤ B) := by
  intro n
  induction n using Nat.strongRecOn with
  | ind n ih =>
    intro at_ s h1 h2
    cases h : has pick at_ n with
    | false =>
      rw [run_not l pick at_ n s h]
      obtain ⟨lf, nd, bad⟩ := s
      cases nd with
      | nil => exact ⟨Nat.zero_le _, h1, h2⟩
      | cons x r => exact ⟨h2 x (by simp), h1, fun y hy => h2 y (List.mem_cons_of_mem _ hy)⟩
    | true =>
      by_cases hn : 2 ≤ n
      · rw [run_more l pick at_ n s h hn]
        obtain ⟨k1, k2, k3⟩ := ih (below n) (below_lt hn) at_ s h1 h2
        obtain ⟨j1, j2, j3⟩ := ih (n - below n) (by have := below_pos n; omega) (at_ + below n) _ k2 k3
        exact ⟨by show (node l _ _).length ≤ B; rw [node_len l hr]; exact hB, j2, j3⟩
      · rw [run_leaf l pick at_ n s h hn]
        obtain ⟨lf, nd, bad⟩ := s
        cases lf with
        | nil => exact ⟨Nat.zero_le _, h1, h2⟩
        | cons x r => exact ⟨h1 x (by simp), fun y hy => h1 y (List.mem_cons_of_mem _ hy), h2⟩
end Sht
theorem MkW.turn {w w' : World} {g nb gp : Nat} {l : List Mill.En} {st : Mill.St} (h : MkW w g nb none l st) (ho : Only w w' gp) (h1 : gp ≠ g) (h2 : gp ≠ nb) (h3 : 2 ≤ gp) : MkW w' g nb none l st := by
  have hv := Mv.of_only ho (s := [gp]) (by simp)
  refine ⟨h.m.mv hv ?_ ?_ (fun b hb => by cases hb), hv.tabs h.t (fun x hx => ?_), h.g2, h.n2⟩
  · simp only [List.mem_cons, List.not_mem_nil, or_false]; exact fun e => h1 e.symm
  · simp only [List.mem_cons, List.not_mem_nil, or_false]; exact fun e => h2 e.symm
  · simp only [List.mem_cons, List.not_mem_nil, or_false] at hx; omega
/-- What is left of a proof, in block gp, beside a mill. -/
structure PlW (w W : World) (g nb gp : Nat) (l : List Mill.En) (st : Mill.St) (A2 : Option Addr) (P : List Int) (c2 : Nat) (s : Sht.Left) : Prop where
  ex : ∃ (B : Option Addr) (cB : Nat) (C : Option Addr) (cC : Nat), Has W gp 55 #[.slice A2 P.length c2, .slice B s.lf.length cB, .slice C s.nd.length cC, .bool s.bad] ∧ s.lf.length ≤ cB ∧ cB ≤ 9223372036854775807 ∧ RowS W [g, nb, gp] B s.lf ∧ s.nd.length ≤ cC ∧ cC ≤ 9223372036854775807 ∧ RowS W [g, nb, gp] C s.nd
  i : RowI W [g, nb, gp] A2 P
  m : MkW W g nb none l st
  v : Mv w W [g, nb, gp]
theorem PlW.step {w W W' : World} {g nb gp : Nat} {l : List Mill.En} {st st' : Mill.St} {A2 : Option Addr} {P : List Int} {c2 : Nat} {s : Sht.Left} (h : PlW w W g nb gp l st A2 P c2 s) (hm : MkW W' g nb none l st') (hv : Mv W W' [g, nb]) (hg : gp ∉ [g, nb]) : PlW w W' g nb gp l st' A2 P c2 s := by
  obtain ⟨⟨B, cB, C, cC, hH, h1, h2, h3, h4, h5, h6⟩, hi, _, hv0⟩ := h
  have hs : ∀ x ∈ [g, nb], x ∈ [g, nb, gp] := fun x hx => by
    simp only [List.mem_cons, List.not_mem_nil, or_false] at hx ⊢
    omega
  exact ⟨⟨B, cB, C, cC, hv.has hH hg, h1, h2, h3.mv hv hs, h4, h5, h6.mv hv hs⟩, RowC.mv hi hv hs, hm, hv0.trans (hv.wide hs)⟩
/-- What build leaves. -/
def BdPost (w : World) (g nb gp : Nat) (l : List Mill.En) (st : Mill.St) (A2 : Option Addr) (P : List Int) (c2 : Nat) (r : Mk.T × Sht.Left) (n : Nat) (e : Ending) (w' : World) : Prop :=
  ∃ ts : List (List UInt8), e = .returned (.string (S r.1)) ∧ ts.length + 1 ≤ n ∧ PlW w w' g nb gp l (Mill.steps l ts st) A2 P c2 r.2
theorem RowS.turn {w w' : World} {s : List Nat} {gp : Nat} {A : Option Addr} {L : List (List UInt8)} (h : RowS w s A L) (ho : Only w w' gp) (hg : gp ∈ s) : RowS w' s A L := h.mv (Mv.of_only ho (s := [gp]) (by simp)) (fun x hx => by simp only [List.mem_cons, List.not_mem_nil, or_false] at hx; rw [hx]; exact hg)
theorem RowI.turn {w w' : World} {s : List Nat} {gp : Nat} {A : Option Addr} {L : List Int} (h : RowI w s A L) (ho : Only w w' gp) (hg : gp ∈ s) : RowI w' s A L := RowC.mv h (Mv.of_only ho (s := [gp]) (by simp)) (fun x hx => by simp only [List.mem_cons, List.not_mem_nil, or_false] at hx; rw [hx]; exact hg)

theorem PlW.put {w W : World} {g nb gp : Nat} {l : List Mill.En} {st : Mill.St} {A2 : Option Addr} {P : List Int} {c2 : Nat} (lf nd : List (List UInt8)) (bad : Bool) (B : Option Addr) (cB : Nat) (C : Option Addr) (cC : Nat) (j : Nat) (v : Value)
    (hH : Has (W.setCell ⟨gp, j, none⟩ v) gp 55 #[.slice A2 P.length c2, .slice B lf.length cB, .slice C nd.length cC, .bool bad]) (h1 : lf.length ≤ cB) (h2 : cB ≤ 9223372036854775807) (h3 : RowS W [g, nb, gp] B lf) (h4 : nd.length ≤ cC) (h5 : cC ≤ 9223372036854775807) (h6 : RowS W [g, nb, gp] C nd)
    (hi : RowI W [g, nb, gp] A2 P) (hm : MkW W g nb none l st) (hv : Mv w W [g, nb, gp]) (hg1 : gp ≠ g) (hg2 : gp ≠ nb) (hg3 : 2 ≤ gp) : PlW w (W.setCell ⟨gp, j, none⟩ v) g nb gp l st A2 P c2 ⟨lf, nd, bad⟩ := by
  have ho := Only.set W gp j v
  have hmem : gp ∈ [g, nb, gp] := by simp
  exact ⟨⟨B, cB, C, cC, hH, h1, h2, h3.turn ho hmem, h4, h5, h6.turn ho hmem⟩, hi.turn ho hmem, hm.turn ho hg1 hg2 hg3, hv.trans (Mv.of_only ho hmem)⟩
theorem row_rest {W : World} {s : List Nat} {b off cap : Nat} {x : List UInt8} {r : List (List UInt8)} (h : RowS W s (some ⟨b, off, none⟩) (x :: r)) (h1 : r.length + 1 ≤ cap) : cap = 1 ∧ r = [] ∨ ¬ cap = 1 ∧ RowS W s (some ⟨b, off + 1, none⟩) r := by
  by_cases hc : cap = 1
  · exact Or.inl ⟨hc, List.eq_nil_of_length_eq_zero (by omega)⟩
  · refine Or.inr ⟨hc, ?_⟩
    have := h.aft cap 1 (by simpa using h1)
    unfold aft at this
    rw [if_neg hc, Option.map_some, add_flat'] at this
    exact this

section
variable (w0 : World) (g nb gp : Nat) (l : List Mill.En)
set_option maxRecDepth 100000 in
set_option maxHeartbeats 8000000 in
theorem slBuild_any (hr : Mill.right l = true) (A2 : Option Addr) (pick : List Int) (c2 : Nat) (hc2 : pick.length ≤ c2) (hcm2 : c2 ≤ 9223372036854775807) (hg1 : gp ≠ g) (hg2 : gp ≠ nb) (hg3 : 2 ≤ gp) : ∀ (n : Nat) (s : Sht.Left) (at_ : Nat) (st : Mill.St) (w : World), 1 ≤ n → at_ + n ≤ 1000 →
    (∀ x ∈ s.lf, x.length ≤ 1000000000000000) → (∀ x ∈ s.nd, x.length ≤ 1000000000000000) → st.sums + 2 * n ≤ 1000000000 → PlW w0 w g nb gp l st A2 pick c2 s →
    Calls Tryd.prog 26 #[.pointer (some ⟨gp, 0, none⟩), .pointer (some ⟨g, 0, none⟩), .int .i64 (at_ : Int), .int .i64 (n : Int)] w (BdPost w0 g nb gp l st A2 pick c2 (Sht.run l pick at_ n s) n) := by
  intro n
  induction n using Nat.strongRecOn with
  | ind n ih =>
    intro s at_ st w h1 ha hsl hsn hsum hp
    have hh0 : Sht.has pick at_ n = pick.any (Sht.inr at_ n) := rfl
    have HPW := Lib.hid hp
    obtain ⟨⟨B, cB, C, cC, hH, b1, b2, b3, b4, b5, b6⟩, hi, hm, hv⟩ := hp
    have hgl := hH.lt
    have p0 : w.cell? ⟨gp, 0, none⟩ = some (.slice A2 pick.length c2) := hH.cell 0
    have p1 : w.cell? ⟨gp, 1, none⟩ = some (.slice B s.lf.length cB) := hH.cell 1
    have p2 : w.cell? ⟨gp, 2, none⟩ = some (.slice C s.nd.length cC) := hH.cell 2
    have p3 : w.cell? ⟨gp, 3, none⟩ = some (.bool s.bad) := hH.cell 3
    have f1 := hH.free 1
    have f2 := hH.free 2
    have f3 := hH.free 3
    have HI := Lib.hid hi; clear hi
    have HR := Lib.hid (And.intro b3 (And.intro b6 (And.intro hH (And.intro hm hv)))); clear b3 b6 hH hm hv
    have HIH := Lib.hid ih; clear ih
    obtain ⟨m, hM⟩ : ∃ m, pick.length = m := ⟨_, rfl⟩
    have HMM := Lib.hid hM
    rw [hM] at hc2 p0
    clear hM
    go_enter Tryd.func26, Tryd.ntmps26
    go_wp2_with fail
    go_loopw [9, 10] (fun v9 v10 wr => ∃ (k : Nat) (s : Bool), k ≤ m ∧ v10 = .int .i64 (k : Int) ∧ v9 = .bool s ∧ (pick.take k).any (Sht.inr at_ n) = s ∧ wr = w) (fun _ v10 _ => m - (intOf v10).toNat)
    case atStart => exact ⟨0, false, Nat.zero_le _, rfl, rfl, rfl, rfl⟩
    case round =>
      obtain ⟨k, bs, hk, rfl, rfl, hany, rfl⟩ := hrel
      by_cases hlt : k < m
      · have hkl : k < pick.length := by rw [HMM.out]; exact hlt
        obtain ⟨b, off, rfl, hcell⟩ := RowI.get HI.out k hkl
        have hst := Sht.any_step pick at_ n k hkl
        rw [hany] at hst
        generalize pick[k]'hkl = x at hcell hst
        have HST := Lib.hid hst; clear hst hh0
        have hki : (k : Int) < (m : Int) := by omega
        cases bs with
        | true =>
          go_wp2_with fail
          go_roundw
          case rel => exact ⟨k + 1, true, by omega, by go_num, rfl, by rw [HST.out]; rfl, trivial⟩
          case measure => simp [intOf]; omega
        | false =>
          rcases inr_cases x at_ n with ⟨c1, c2, c3⟩ | ⟨c1, c2, c3⟩ | ⟨c1, c3⟩
          · go_wp2_with fail
            go_roundw
            case rel => exact ⟨k + 1, true, by omega, by go_num, rfl, by rw [HST.out, c3]; rfl, trivial⟩
            case measure => simp [intOf]; omega
          · go_wp2_with fail
            go_roundw
            case rel => exact ⟨k + 1, false, by omega, by go_num, rfl, by rw [HST.out, c3]; rfl, trivial⟩
            case measure => simp [intOf]; omega
          · go_wp2_with fail
            go_roundw
            case rel => exact ⟨k + 1, false, by omega, by go_num, rfl, by rw [HST.out, c3]; rfl, trivial⟩
            case measure => simp [intOf]; omega
      · have hkn : k = m := by omega
        subst hkn
        have htk : pick.take k = pick := List.take_of_length_le (by rw [HMM.out]; exact Nat.le_refl _)
        rw [htk, ← hh0] at hany
        subst hany
        clear htk hh0
        cases hh : Sht.has pick at_ n with
        | false =>
          have HRN := Lib.hid (Sht.run_not l pick at_ n s hh)
          clear hh HIH
          obtain ⟨lf, nd, bad⟩ := s
          dsimp only at *
          cases nd with
          | nil =>
            have hset := HR.out.2.2.1.set 3 (.bool true)
            have hpl := PlW.put lf [] true B cB C cC 3 (.bool true) (by simpa using hset) b1 b2 HR.out.1 (Nat.zero_le _) b5 (RowS.nil _ _ _) HI.out HR.out.2.2.2.1 HR.out.2.2.2.2 hg1 hg2 hg3
            have HF : Hid (BdPost w0 g nb gp l st A2 pick c2 (([], ⟨lf, [], true⟩) : Mk.T × Sht.Left) n (.returned (.string (S []))) (wr.setCell ⟨gp, 3, none⟩ (.bool true))) := ⟨[], rfl, h1, hpl⟩
            clear hset hpl b1 b4
            generalize lf.length = nlf at *
            go_wp2_with fail
            go_ret
            rw [HRN.out]
            exact HF.out
          | cons x r =>
            obtain ⟨b, off, rfl, hbl, hbs, hrr⟩ := HR.out.2.1 (by simp)
            have c0 : wr.cell? ⟨b, off, none⟩ = some (.string (S x)) := hrr 0 (by simp)
            have hbg : b ≠ gp := fun e => hbs (by rw [e]; simp)
            clear hrr hbs
            rw [List.length_cons] at b4 p2
            rcases row_rest HR.out.2.1 b4 with ⟨hc, hr0⟩ | ⟨hc, hrest⟩
            · subst hc
              subst hr0
              have hset := HR.out.2.2.1.set 2 (.slice (some ⟨b, off, none⟩) 0 0)
              have hpl := PlW.put lf [] bad B cB (some ⟨b, off, none⟩) 0 2 (.slice (some ⟨b, off, none⟩) 0 0) (by simpa using hset) b1 b2 HR.out.1 (Nat.zero_le _) (by omega) (RowS.nil _ _ _) HI.out HR.out.2.2.2.1 HR.out.2.2.2.2 hg1 hg2 hg3
              have HF : Hid (BdPost w0 g nb gp l st A2 pick c2 ((x, ⟨lf, [], bad⟩) : Mk.T × Sht.Left) n (.returned (.string (S x))) (wr.setCell ⟨gp, 2, none⟩ (.slice (some ⟨b, off, none⟩) 0 0))) := ⟨[], rfl, h1, hpl⟩
              clear hset hpl b1
              generalize lf.length = nlf at *
              go_wp2_with fail
              go_ret
              rw [HRN.out]
              exact HF.out
            · have hset := HR.out.2.2.1.set 2 (.slice (some ⟨b, off + 1, none⟩) r.length (cC - 1))
              have hpl := PlW.put lf r bad B cB (some ⟨b, off + 1, none⟩) (cC - 1) 2 (.slice (some ⟨b, off + 1, none⟩) r.length (cC - 1)) (by simpa using hset) b1 b2 HR.out.1 (by omega) (by omega) hrest HI.out HR.out.2.2.2.1 HR.out.2.2.2.2 hg1 hg2 hg3
              have HF : Hid (BdPost w0 g nb gp l st A2 pick c2 ((x, ⟨lf, r, bad⟩) : Mk.T × Sht.Left) n (.returned (.string (S x))) (wr.setCell ⟨gp, 2, none⟩ (.slice (some ⟨b, off + 1, none⟩) r.length (cC - 1)))) := ⟨[], rfl, h1, hpl⟩
              clear hset hpl b1
              generalize lf.length = nlf at *
              generalize r.length = nr at *
              go_wp2_with fail
              go_ret
              rw [HRN.out]
              exact HF.out
        | true =>
          by_cases h2 : 2 ≤ n
          · have HRN := Lib.hid (Sht.run_more l pick at_ n s hh h2)
            have hlt := Mk.below_lt h2
            have hpos := Mk.below_pos n
            have HGO := Lib.hid (fun e h1 h2 => Mk.below_go (n := n) (e := e) h1 h2)
            obtain ⟨k1, k2, k3⟩ := Sht.run_short l hr pick 1000000000000000 (by omega) (Mk.below n) at_ s hsl hsn
            have j1 := (Sht.run_short l hr pick 1000000000000000 (by omega) (n - Mk.below n) (at_ + Mk.below n) _ k2 k3).1
            have I1 := HIH.out (Mk.below n) hlt s at_ st wr hpos (by omega) hsl hsn (by omega) HPW.out
            have I2 := fun st' W (hs' : st'.sums ≤ st.sums + Mk.below n) (hM' : PlW w0 W g nb gp l st' A2 pick c2 (Sht.run l pick at_ (Mk.below n) s).2) => HIH.out (n - Mk.below n) (by omega) (Sht.run l pick at_ (Mk.below n) s).2 (at_ + Mk.below n) st' W (by omega) (by omega) k2 k3 (by omega) hM'
            have I3 := fun st' W hM hs => bigNode_any g nb none l hr st' W _ _ hM k1 j1 hs
            unfold BdPost at I1 I2
            unfold MkPost at I3
            rw [show ((at_ + Mk.below n : Nat) : Int) = (at_ : Int) + (Mk.below n : Int) from by omega] at I2
            clear hh k2 k3 HIH hsl hsn p1 p2 p3 f1 f2 f3 k1 j1
            generalize Sht.run l pick at_ (Mk.below n) s = ra at *
            generalize Sht.run l pick (at_ + Mk.below n) (n - Mk.below n) ra.2 = rb at *
            obtain ⟨xa, sa⟩ := ra
            obtain ⟨xb, sb⟩ := rb
            dsimp only at *
            generalize Mk.node l xa xb = y at *
            generalize hqc : [(1 :: xa) ++ xb] = qc at *
            have hqc1 : qc.length = 1 := by rw [← hqc]; rfl
            clear hqc
            generalize Mk.below n = kk at *
            have HI1 := Lib.hid I1; clear I1
            have HI2 := Lib.hid I2; clear I2
            have HI3 := Lib.hid I3; clear I3
            have hb1 : ((n : Int) == 1) = false := by simpa using (show ¬ (n : Int) = 1 by omega)
            clear HR b1 b2 b4 b5 HPW
            obtain ⟨wo, hwo⟩ : ∃ wo, wr = wo := ⟨_, rfl⟩
            rw [hwo] at HI1 p0 ⊢
            clear hwo HI
            go_wp2_with fail
            clear p0
            go_loopw [13] (fun v13 wr => ∃ e : Nat, 2 ^ e < n ∧ v13 = .int .i64 ((2 ^ e : Nat) : Int) ∧ wr = wo) (fun v13 _ => n - (intOf v13).toNat)
            case atStart => exact ⟨0, by omega, rfl, rfl⟩
            case round =>
              obtain ⟨e, he, rfl, rfl⟩ := hrel
              have hpos2 := Nat.two_pow_pos e
              obtain ⟨q, hq⟩ : ∃ q, 2 ^ e = q := ⟨_, rfl⟩
              have hs2 : 2 ^ (e + 1) = 2 * q := by rw [Nat.pow_succ, hq]; omega
              have HB := Lib.hid (fun h => HGO.out e he h)
              rw [hq] at HB he hpos2 ⊢
              have HS := Lib.hid hs2; clear hs2 hq
              by_cases hlq : 2 * q < n
              · have hi : 2 * (q : Int) < (n : Int) := by omega
                go_wp2_with fail
                go_roundw
                case rel => exact ⟨e + 1, by rw [HS.out]; omega, by rw [HS.out]; go_num, trivial⟩
                case measure => simp [intOf]; omega
              · have hi : ¬ 2 * (q : Int) < (n : Int) := by omega
                have hqk := HB.out hlq
                subst hqk
                clear hlq HS HB hpos2 he HGO
                go_wp2_with fail
                refine (HI1.out).mono ?_
                rintro e w5 ⟨ts1, rfl, hts1, hp5⟩
                go_wp2_with fail
                rw [show (n : Int) - (q : Int) = ((n - q : Nat) : Int) from by omega]
                refine (HI2.out _ w5 (by rw [Mill.steps_sums]; omega) hp5).mono ?_
                rintro e w7 ⟨ts2, rfl, hts2, hp7⟩
                clear hp5
                have HP7 := Lib.hid hp7; clear hp7
                go_wp2_with fail
                refine (HI3.out _ w7 HP7.out.m (by rw [Mill.steps_sums, Mill.steps_sums]; omega)).mono ?_
                rintro e w8 ⟨rfl, hm8, hv8⟩
                have hp8 := HP7.out.step hm8 hv8 (by simp only [List.mem_cons, List.not_mem_nil, or_false]; omega)
                rw [← Mill.steps_app, ← Mill.steps_app] at hp8
                have HF : Hid (BdPost w0 g nb gp l st A2 pick c2 ((y, sb) : Mk.T × Sht.Left) n (.returned (.string (S y))) w8) := ⟨(ts1 ++ (ts2 ++ qc)), rfl, by rw [List.length_append, List.length_append]; omega, hp8⟩
                clear hp8 hm8 hv8
                go_wp2_with fail
                go_ret
                rw [HRN.out]
                exact HF.out
          · have hn1 : n = 1 := by omega
            subst hn1
            have HRN := Lib.hid (Sht.run_leaf l pick at_ 1 s hh (by omega))
            clear hh HIH
            obtain ⟨lf, nd, bad⟩ := s
            dsimp only at *
            cases lf with
            | nil =>
              have hset := HR.out.2.2.1.set 3 (.bool true)
              have hpl := PlW.put [] nd true B cB C cC 3 (.bool true) (by simpa using hset) (Nat.zero_le _) b2 (RowS.nil _ _ _) b4 b5 HR.out.2.1 HI.out HR.out.2.2.2.1 HR.out.2.2.2.2 hg1 hg2 hg3
              have HF : Hid (BdPost w0 g nb gp l st A2 pick c2 (([], ⟨[], nd, true⟩) : Mk.T × Sht.Left) 1 (.returned (.string (S []))) (wr.setCell ⟨gp, 3, none⟩ (.bool true))) := ⟨[], rfl, Nat.le_refl _, hpl⟩
              clear hset hpl b1 b4
              generalize nd.length = nnd at *
              go_wp2_with fail
              go_ret
              rw [HRN.out]
              exact HF.out
            | cons x r =>
              obtain ⟨b, off, rfl, hbl, hbs, hrr⟩ := HR.out.1 (by simp)
              have c0 : wr.cell? ⟨b, off, none⟩ = some (.string (S x)) := hrr 0 (by simp)
              have hbg : b ≠ gp := fun e => hbs (by rw [e]; simp)
              clear hrr hbs
              rw [List.length_cons] at b1 p1
              rcases row_rest HR.out.1 b1 with ⟨hc, hr0⟩ | ⟨hc, hrest⟩
              · subst hc
                subst hr0
                have hset := HR.out.2.2.1.set 1 (.slice (some ⟨b, off, none⟩) 0 0)
                have hpl := PlW.put [] nd bad (some ⟨b, off, none⟩) 0 C cC 1 (.slice (some ⟨b, off, none⟩) 0 0) (by simpa using hset) (Nat.zero_le _) (by omega) (RowS.nil _ _ _) b4 b5 HR.out.2.1 HI.out HR.out.2.2.2.1 HR.out.2.2.2.2 hg1 hg2 hg3
                have HF : Hid (BdPost w0 g nb gp l st A2 pick c2 ((x, ⟨[], nd, bad⟩) : Mk.T × Sht.Left) 1 (.returned (.string (S x))) (wr.setCell ⟨gp, 1, none⟩ (.slice (some ⟨b, off, none⟩) 0 0))) := ⟨[], rfl, Nat.le_refl _, hpl⟩
                clear hset hpl b4
                generalize nd.length = nnd at *
                go_wp2_with fail
                go_ret
                rw [HRN.out]
                exact HF.out
              · have hset := HR.out.2.2.1.set 1 (.slice (some ⟨b, off + 1, none⟩) r.length (cB - 1))
                have hpl := PlW.put r nd bad (some ⟨b, off + 1, none⟩) (cB - 1) C cC 1 (.slice (some ⟨b, off + 1, none⟩) r.length (cB - 1)) (by simpa using hset) (by omega) (by omega) hrest b4 b5 HR.out.2.1 HI.out HR.out.2.2.2.1 HR.out.2.2.2.2 hg1 hg2 hg3
                have HF : Hid (BdPost w0 g nb gp l st A2 pick c2 ((x, ⟨r, nd, bad⟩) : Mk.T × Sht.Left) 1 (.returned (.string (S x))) (wr.setCell ⟨gp, 1, none⟩ (.slice (some ⟨b, off + 1, none⟩) r.length (cB - 1)))) := ⟨[], rfl, Nat.le_refl _, hpl⟩
                clear hset hpl b4
                generalize nd.length = nnd at *
                generalize r.length = nr at *
                go_wp2_with fail
                go_ret
                rw [HRN.out]
                exact HF.out
end
end Go.Proofs.YtgjknfphmmlcdaaDoor
