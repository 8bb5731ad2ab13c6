/-
  The reference's RightEntry of the fourteenth layer.
-/
import Derived.Test.YtojemaaljjibiaaPEvRefA
import Derived.Test.YtojemaaljjibiaaPStaTwo
import Derived.Test.YtojemaaljjibiaaPStaThree
open List (setIfInBounds_toArray set_cons_zero set_cons_succ)
namespace Go.Proofs.Ytojemaaljjibiaa
open Go.RowKit
open Go.Op (bytesLess)
set_option linter.unusedVariables false

/-- Texts that are not endless. -/
structure EntFew (e : Ent) : Prop where
  id : e.id.length ≤ 1000000
  h : ∀ x ∈ e.H, x.length ≤ 1000000
  n : ∀ x ∈ e.L, x.n.length ≤ 1000000
  p : ∀ x ∈ e.L, x.p.length ≤ 1000000
  c : ∀ x ∈ e.L, x.c.length ≤ 1000000
/-- What a loop over holds reads. -/
abbrev HoldS (b0 bh oh o1 o2 n c : Nat) (x y : List UInt8) (W : World) : Prop :=
  W.cell? ⟨b0, 6, none⟩ = some (.slice (some ⟨bh, oh, none⟩) n c) ∧ W.cell? ⟨bh, o1, none⟩ = some (.string (S x)) ∧ W.cell? ⟨bh, o2, none⟩ = some (.string (S y))
/-- What a loop over slips reads. -/
abbrev SlipS (b0 bl ol o2 sb n c : Nat) (x : Slp) (y : List UInt8) (W : World) : Prop :=
  W.cell? ⟨b0, 4, none⟩ = some (.slice (some ⟨bl, ol, none⟩) n c) ∧ W.cell? ⟨bl, o2, none⟩ = some (.string (S y)) ∧ W.cell? ⟨sb, 0, none⟩ = some (.string (S x.n)) ∧ W.cell? ⟨sb, 1, none⟩ = some (.string (S x.p))
theorem eword_b (l : List UInt8) (hb : l.length ≤ 1000000) (most : Nat) (w : World) :
    Calls Try.prog 50 #[.string (S l), .int .i64 (most : Int)] w fun r w' => r = .returned (.bool (Pap.word most l)) ∧ Below w.heap.size w w' :=
  (eword_any l hb most w).mono fun r w' ⟨h, m, e⟩ => ⟨h, by rw [e]; exact evDrew (Below.refl _ w) m⟩
set_option maxRecDepth 100000 in
set_option maxHeartbeats 16000000 in
theorem erightE_any {w : World} {e : Ent} {A B : Option Addr} {ca cb : Nat} (hin : EntIn w [] e A ca B cb) (hf : EntFew e) :
    Calls Try.prog 49 #[.agg #[.string (S e.id), .int .i64 e.cls, .int .i64 e.born, .int .i64 e.slot, .slice A e.L.length ca, .bool e.gone, .slice B e.H.length cb]] w fun r w' => r = .returned (.bool (Ev.entR e)) ∧ Below w.heap.size w w' := by
  rw [Ev.entR_eq]
  have hways := Lib.hid (Ev.ent0_ways e)
  have HE1 : Hid (Ev.ent1 e = (Ev.ent0 e && decide (1 ≤ e.L.length ∧ e.L.length ≤ 12) && decide (e.H.length ≤ 4))) := Lib.hid rfl
  have HID := Lib.hid (fun W => eword_any e.id hf.id 24 W)
  have HFH := Lib.hid hf
  have hb0 : Below w.heap.size w (w.alloc (.cells #[.string (S e.id), .int .i64 e.cls, .int .i64 e.born, .int .i64 e.slot, .slice A e.L.length ca, .bool e.gone, .slice B e.H.length cb] 33)) := (Below.refl _ w).alloc (Nat.le_refl _) _
  have hin0 := EntIn.at hin hb0 (s := [w.heap.size]) (fun x hx => by rw [List.mem_singleton.1 hx]; exact Nat.le_refl _)
  have hh := Has.made w 33 #[.string (S e.id), .int .i64 e.cls, .int .i64 e.born, .int .i64 e.slot, .slice A e.L.length ca, .bool e.gone, .slice B e.H.length cb]
  have HB := Lib.hid hb0
  clear hf hb0 hin
  obtain ⟨id, cls, born, slot, L, gone, H⟩ := e
  dsimp only at *
  generalize Ev.ent1 ⟨id, cls, born, slot, L, gone, H⟩ = E1 at *
  generalize Ev.ent0 ⟨id, cls, born, slot, L, gone, H⟩ = E0 at *
  generalize Pap.word 24 id = wd at *
  go_enter Try.func49, Try.ntmps49
  go_upto_region 1 with fail
  generalize w.alloc (.cells #[.string (S id), .int .i64 cls, .int .i64 born, .int .i64 slot, .slice A L.length ca, .bool gone, .slice B H.length cb] 33) = W0 at HB hin0 hh ⊢
  generalize hb0 : w.heap.size = b0 at hin0 hh ⊢
  have y0 : W0.cell? ⟨b0, 0, none⟩ = some (.string (S id)) := hh.cell 0
  have y1 : W0.cell? ⟨b0, 1, none⟩ = some (.int .i64 cls) := hh.cell 1
  have y2 : W0.cell? ⟨b0, 2, none⟩ = some (.int .i64 born) := hh.cell 2
  have y3 : W0.cell? ⟨b0, 3, none⟩ = some (.int .i64 slot) := hh.cell 3
  have y4 : W0.cell? ⟨b0, 4, none⟩ = some (.slice A L.length ca) := hh.cell 4
  have y5 : W0.cell? ⟨b0, 5, none⟩ = some (.bool gone) := hh.cell 5
  have y6 : W0.cell? ⟨b0, 6, none⟩ = some (.slice B H.length cb) := hh.cell 6
  have HIN := Lib.hid (And.intro hin0 (And.intro hh hb0))
  clear hin0 hh hb0
  go_cut [3] from 7 to 39 (fun v3 wr => ∃ u : Bool, v3 = .bool u ∧ Hid (u = E0 ∧ ∃ m, wr = W0.drewN m))
  case first =>
    rcases hways.out with ⟨q1, q⟩ | ⟨q1, q2, q⟩ | ⟨q1, q2, q3, q⟩ | ⟨q1, q2, q3, q4, q⟩ | ⟨q1, q2, q3, q4, q5, q⟩ | ⟨q1, q2, q3, q4, q5, q6, q⟩ | ⟨q1, q2, q3, q4, q5, q6, q7, q⟩ | ⟨q1, q2, q3, q4, q5, q6, q7, q⟩
    all_goals
      subst q1
      have HQ := Lib.hid q
      clear q hways HE1
      go_wp2_with fail
      refine (HID.out _).mono ?_
      rintro r w1 ⟨rfl, m, rfl⟩
      go_wp2_with fail
      go_meet
      exact ⟨_, rfl, Lib.hid ⟨by first | exact HQ.out.symm | (rw [HQ.out]; exact decide_eq_false (by omega)) | (rw [HQ.out]; exact decide_eq_true (by omega)), m, rfl⟩⟩
  case rest =>
    obtain ⟨u, rfl, hu⟩ := hcut
    obtain ⟨rfl, m0, rfl⟩ := hu.out
    clear hu hways HID
    have hor : Hid ((u = false ∧ E1 = false) ∨ (u = true ∧ ¬ (1 : Int) ≤ (L.length : Int) ∧ E1 = false) ∨ (u = true ∧ (1 : Int) ≤ (L.length : Int) ∧ ¬ (L.length : Int) ≤ 12 ∧ E1 = false) ∨ (u = true ∧ (1 : Int) ≤ (L.length : Int) ∧ (L.length : Int) ≤ 12 ∧ ¬ (H.length : Int) ≤ 4 ∧ E1 = false) ∨ (u = true ∧ (1 : Int) ≤ (L.length : Int) ∧ (L.length : Int) ≤ 12 ∧ (H.length : Int) ≤ 4 ∧ E1 = true)) := Lib.hid (by
      rw [HE1.out]
      cases u
      · exact Or.inl ⟨rfl, by simp⟩
      · by_cases a1 : 1 ≤ L.length
        · by_cases a2 : L.length ≤ 12
          · by_cases a3 : H.length ≤ 4
            · exact Or.inr (Or.inr (Or.inr (Or.inr ⟨rfl, by omega, by omega, by omega, by simp [a1, a2, a3]⟩)))
            · exact Or.inr (Or.inr (Or.inr (Or.inl ⟨rfl, by omega, by omega, by omega, by simp [a3]⟩)))
          · exact Or.inr (Or.inr (Or.inl ⟨rfl, by omega, by omega, by simp [a2]⟩))
        · exact Or.inr (Or.inl ⟨rfl, by omega, by simp [a1]⟩))
    go_upto_region 2 with fail
    go_cut [3] from 40 to 58 (fun v3 wr => ∃ u : Bool, v3 = .bool u ∧ Hid (u = E1 ∧ ∃ m, wr = W0.drewN m))
    case first =>
      rcases hor.out with ⟨q1, q⟩ | ⟨q1, q2, q⟩ | ⟨q1, q2, q3, q⟩ | ⟨q1, q2, q3, q4, q⟩ | ⟨q1, q2, q3, q4, q⟩
      all_goals
        subst q1
        have HQ := Lib.hid q
        clear q hor HE1
        go_wp2_with fail
        go_meet
        exact ⟨_, rfl, Lib.hid ⟨by first | exact HQ.out.symm | (rw [HQ.out]; exact decide_eq_false (by omega)) | (rw [HQ.out]; exact decide_eq_true (by omega)), m0, rfl⟩⟩
    case rest =>
      obtain ⟨u', rfl, hu⟩ := hcut
      obtain ⟨rfl, m1, rfl⟩ := hu.out
      clear hu hor HE1
      go_wp2_with fail
      go_loopg [3, 4] H.length (fun n v3 v4 wr => ∃ k : Nat, k + n = H.length ∧ v4 = .int .i64 (k : Int) ∧ (∃ u : Bool, v3 = .bool u ∧ Hid (u = (u' && Ev.upTo (Ev.holdOk H) k))) ∧ Hid (Below W0.heap.size W0 wr))
      case atStart => exact ⟨0, Nat.zero_add _, rfl, ⟨u', rfl, Lib.hid (by simp [Ev.upTo])⟩, Lib.hid (evDrew (Below.refl _ W0) m1)⟩
      case round =>
        obtain ⟨k, hkn, rfl, ⟨u, rfl, HU⟩, HM⟩ := hrel
        have z6 : wr.cell? ⟨b0, 6, none⟩ = some (.slice B H.length cb) := (HIN.out.2.1.below HM.out HIN.out.2.1.lt).cell 6
        clear y0 y1 y2 y3 y4 y5 y6
        cases gk with
        | zero =>
          have hlt : ¬ (k : Int) < (H.length : Int) := by omega
          obtain rfl : k = H.length := by omega
          have z4 : wr.cell? ⟨b0, 4, none⟩ = some (.slice A L.length ca) := (HIN.out.2.1.below HM.out HIN.out.2.1.lt).cell 4
          have HU1 := Lib.hid (And.intro HU.out HM.out)
          clear hkn HU HM
          generalize wr = wo at *
          go_wp2_with fail
          go_loopg [3, 5] L.length (fun n v3 v5 wr => ∃ k : Nat, k + n = L.length ∧ v5 = .int .i64 (k : Int) ∧ (∃ x : Bool, v3 = .bool x ∧ Hid (x = (u && Ev.upTo (Ev.slpOk gone L) k))) ∧ Hid (Below W0.heap.size W0 wr))
          case atStart => exact ⟨0, Nat.zero_add _, rfl, ⟨u, rfl, Lib.hid (by simp [Ev.upTo])⟩, Lib.hid HU1.out.2⟩
          case round =>
            obtain ⟨k, hkn, rfl, ⟨u2, rfl, HU⟩, HM⟩ := hrel
            have z4 : wr.cell? ⟨b0, 4, none⟩ = some (.slice A L.length ca) := (HIN.out.2.1.below HM.out HIN.out.2.1.lt).cell 4
            clear z6
            cases gk with
            | zero =>
              have hlt : ¬ (k : Int) < (L.length : Int) := by omega
              obtain rfl : k = L.length := by omega
              have HF := Lib.hid (And.intro HU.out HM.out)
              clear hkn HU HM
              go_wp2_with fail
              go_ret
              exact ⟨by rw [HF.out.1, HU1.out.1]; rfl, HB.out.trans (HF.out.2.mono HB.out.size)⟩
            | succ n =>
              have hlt : (k : Int) < (L.length : Int) := by omega
              have hk : k < L.length := by omega
              have hinc : IntKind.i64.wrap ((k : Int) + 1) = (k : Int) + 1 := by
                have h1 := HIN.out.1.ma
                have h2 := HIN.out.1.la
                dsimp only at h2
                rw [IntKind.wrap_i64]
                omega
              have hkc : (k : Int) < (ca : Int) := by have := HIN.out.1.la; dsimp only at this; omega
              have hk0 : (0 : Int) ≤ (k : Int) := by omega
              obtain ⟨bl, ol, hA, hblt, -, p0, p1, p2, p3⟩ := RowP.get (HIN.out.1.rl.below HM.out) k hk
              have HXB := Lib.hid (HFH.out.n _ (List.getElem_mem hk))
              have hgx : L.getD k Ev.zSlp = L[k]'hk := Ev.getD_at hk
              have hgn : (L.map Slp.n).getD k [] = (L[k]'hk).n := by rw [Ev.getD_at (by rw [List.length_map]; exact hk), List.getElem_map]
              have HO : Hid (Ev.slpOk gone L k = (Ev.slipR gone (L[k]'hk) && (k == 0 || bytesLess ((L.map Slp.n).getD (k - 1) []) (L[k]'hk).n))) := Lib.hid (by unfold Ev.slpOk Ev.aft1; rw [hgx, hgn])
              have HUP : Hid (∀ x : Bool, x = (u2 && Ev.slpOk gone L k) → x = (u && Ev.upTo (Ev.slpOk gone L) (k + 1))) := Lib.hid (fun x hx => by
                rw [hx, HU.out]
                show _ = (u && (Ev.upTo (Ev.slpOk gone L) k && Ev.slpOk gone L k))
                rw [Bool.and_assoc])
              have HPV : Hid (0 < k → ∃ y, (L.map Slp.n).getD (k - 1) [] = y ∧ wr.cell? ⟨bl, ol + (k - 1) * 4, none⟩ = some (.string (S y))) := Lib.hid (fun hp => by
                obtain ⟨b', o', hA', -, -, hcp, -, -, -⟩ := RowP.get (HIN.out.1.rl.below HM.out) (k - 1) (Nat.lt_of_le_of_lt (Nat.sub_le k 1) hk)
                rw [hA] at hA'
                injection hA' with hA'
                injection hA' with e1 e2
                exact ⟨_, by rw [Ev.getD_at (by rw [List.length_map]; exact Nat.lt_of_le_of_lt (Nat.sub_le k 1) hk), List.getElem_map], by rw [e1, e2]; exact hcp⟩)
              have HBL : Hid (bl < wr.heap.size) := Lib.hid hblt
              dsimp only at p0 p1 p2 p3
              subst hA
              generalize L[k]'hk = s at p0 p1 p2 p3 HXB HO
              obtain ⟨sn, sp, sc, se⟩ := s
              dsimp only at p0 p1 p2 p3 HXB HO
              have HN := Lib.hid hkn
              clear hkn HU hgx hgn hblt
              go_upto_region 11 with fail
              have hsh := Has.made wr 51 #[.string (S sn), .string (S sp), .string (S sc), .bool se]
              have hbw : Below W0.heap.size W0 (wr.alloc (.cells #[.string (S sn), .string (S sp), .string (S sc), .bool se] 51)) := HM.out.trans (((Below.refl wr.heap.size wr).alloc (Nat.le_refl _) _).mono HM.out.size)
              have hbr : Below wr.heap.size wr (wr.alloc (.cells #[.string (S sn), .string (S sp), .string (S sc), .bool se] 51)) := (Below.refl wr.heap.size wr).alloc (Nat.le_refl _) _
              have HPV2 : Hid (0 < k → ∃ y, (L.map Slp.n).getD (k - 1) [] = y ∧ (wr.alloc (.cells #[.string (S sn), .string (S sp), .string (S sc), .bool se] 51)).cell? ⟨bl, ol + (k - 1) * 4, none⟩ = some (.string (S y))) := Lib.hid (fun hp => by
                obtain ⟨y, h1, h2⟩ := HPV.out hp
                exact ⟨y, h1, (World.cell?_of_block (hbr.block bl HBL.out)).trans h2⟩)
              have HP0 := Lib.hid ((World.cell?_of_block (hbr.block bl HBL.out)).trans p0)
              have HBL2 : Hid (bl < (wr.alloc (.cells #[.string (S sn), .string (S sp), .string (S sc), .bool se] 51)).heap.size) := Lib.hid (Nat.lt_of_lt_of_le HBL.out hbr.size)
              clear p0 p1 p2 p3 z4 HPV HBL hbr HM
              generalize wr.alloc (.cells #[.string (S sn), .string (S sp), .string (S sc), .bool se] 51) = W1 at *
              generalize wr.heap.size = sb at *
              have HSH := Lib.hid (And.intro hsh hbw)
              have z4 : W1.cell? ⟨b0, 4, none⟩ = some (.slice (some ⟨bl, ol, none⟩) L.length ca) := (HIN.out.2.1.below hbw HIN.out.2.1.lt).cell 4
              have s0 : W1.cell? ⟨sb, 0, none⟩ = some (.string (S sn)) := hsh.cell 0
              have s1 : W1.cell? ⟨sb, 1, none⟩ = some (.string (S sp)) := hsh.cell 1
              have hbl : ∀ {W : World}, Below W1.heap.size W1 W → b0 < W.heap.size ∧ bl < W.heap.size ∧ sb < W.heap.size := fun {W} hW => ⟨Nat.lt_of_lt_of_le HIN.out.2.1.lt (Nat.le_trans HSH.out.2.size hW.size), Nat.lt_of_lt_of_le HBL2.out hW.size, Nat.lt_of_lt_of_le HSH.out.1.lt hW.size⟩
              clear hsh hbw
              have hbd : Below W1.heap.size W1 W1.drew := (Below.refl _ W1).drew
              obtain ⟨DD, hDD⟩ : ∃ DD : Bool, DD = (u2 && (Pap.word 16 sn && decide (sp.length = 32) && (k == 0 || bytesLess ((L.map Slp.n).getD (k - 1) []) sn))) := ⟨_, rfl⟩
              have HDD := Lib.hid hDD
              clear hDD
              go_cut [3] from 105 to 132 (fun v3 wx => ∃ d : Bool, v3 = .bool d ∧ Hid (d = DD ∧ Below W1.heap.size W1 wx))
              case first =>
                have HW := Lib.hid (fun W => eword_b sn HXB.out 16 W)
                generalize Pap.word 16 sn = wk at HW HDD
                cases u2 with
                | false =>
                  have HD : Hid (false = DD) := Lib.hid (by rw [HDD.out]; rfl)
                  have hx : SlipS b0 bl ol (ol + k * 4) sb L.length ca ⟨sn, sp, sc, se⟩ sn W1.drew := ⟨z4, HP0.out, s0, s1⟩
                  clear z4 s0 s1 HDD HPV2 HW
                  refine wp_region_held_drew (S := SlipS b0 bl ol (ol + k * 4) sb L.length ca ⟨sn, sp, sc, se⟩ sn) (by kernel_rfl) hx (fun hHeld => ?_)
                  first
                  | (refine tkW (i := 0) (v := ?_) rfl rfl ?_ ?_; rotate_left; (focus (intro w hSw; (try dsimp only at hSw); go_simp; first | done | with_reducible rfl)); (simp only [Act.at, setIfInBounds_toArray, set_cons_zero, set_cons_succ]))
                  | (refine tkU (i := 0) rfl rfl ?_; (simp only [Act.at, setIfInBounds_toArray, set_cons_zero, set_cons_succ]))
                  first
                  | (refine tkW (i := 1) (v := ?_) rfl rfl ?_ ?_; rotate_left; (focus (intro w hSw; (try dsimp only at hSw); go_simp; first | done | with_reducible rfl)); (simp only [Act.at, setIfInBounds_toArray, set_cons_zero, set_cons_succ]))
                  | (refine tkU (i := 1) rfl rfl ?_; (simp only [Act.at, setIfInBounds_toArray, set_cons_zero, set_cons_succ]))
                  first
                  | (refine tkW (i := 2) (v := ?_) rfl rfl ?_ ?_; rotate_left; (focus (intro w hSw; (try dsimp only at hSw); go_simp; first | done | with_reducible rfl)); (simp only [Act.at, setIfInBounds_toArray, set_cons_zero, set_cons_succ]))
                  | (refine tkU (i := 2) rfl rfl ?_; (simp only [Act.at, setIfInBounds_toArray, set_cons_zero, set_cons_succ]))
                  first
                  | (refine tkW (i := 3) (v := ?_) rfl rfl ?_ ?_; rotate_left; (focus (intro w hSw; (try dsimp only at hSw); go_simp; first | done | with_reducible rfl)); (simp only [Act.at, setIfInBounds_toArray, set_cons_zero, set_cons_succ]))
                  | (refine tkU (i := 3) rfl rfl ?_; (simp only [Act.at, setIfInBounds_toArray, set_cons_zero, set_cons_succ]))
                  first
                  | (refine tkW (i := 4) (v := ?_) rfl rfl ?_ ?_; rotate_left; (focus (intro w hSw; (try dsimp only at hSw); go_simp; first | done | with_reducible rfl)); (simp only [Act.at, setIfInBounds_toArray, set_cons_zero, set_cons_succ]))
                  | (refine tkU (i := 4) rfl rfl ?_; (simp only [Act.at, setIfInBounds_toArray, set_cons_zero, set_cons_succ]))
                  first
                  | (refine tkW (i := 5) (v := ?_) rfl rfl ?_ ?_; rotate_left; (focus (intro w hSw; (try dsimp only at hSw); go_simp; first | done | with_reducible rfl)); (simp only [Act.at, setIfInBounds_toArray, set_cons_zero, set_cons_succ]))
                  | (refine tkU (i := 5) rfl rfl ?_; (simp only [Act.at, setIfInBounds_toArray, set_cons_zero, set_cons_succ]))
                  first
                  | (refine tkW (i := 6) (v := ?_) rfl rfl ?_ ?_; rotate_left; (focus (intro w hSw; (try dsimp only at hSw); go_simp; first | done | with_reducible rfl)); (simp only [Act.at, setIfInBounds_toArray, set_cons_zero, set_cons_succ]))
                  | (refine tkU (i := 6) rfl rfl ?_; (simp only [Act.at, setIfInBounds_toArray, set_cons_zero, set_cons_succ]))
                  first
                  | (refine tkW (i := 7) (v := ?_) rfl rfl ?_ ?_; rotate_left; (focus (intro w hSw; (try dsimp only at hSw); go_simp; first | done | with_reducible rfl)); (simp only [Act.at, setIfInBounds_toArray, set_cons_zero, set_cons_succ]))
                  | (refine tkU (i := 7) rfl rfl ?_; (simp only [Act.at, setIfInBounds_toArray, set_cons_zero, set_cons_succ]))
                  first
                  | (refine tkW (i := 8) (v := ?_) rfl rfl ?_ ?_; rotate_left; (focus (intro w hSw; (try dsimp only at hSw); go_simp; first | done | with_reducible rfl)); (simp only [Act.at, setIfInBounds_toArray, set_cons_zero, set_cons_succ]))
                  | (refine tkU (i := 8) rfl rfl ?_; (simp only [Act.at, setIfInBounds_toArray, set_cons_zero, set_cons_succ]))
                  first
                  | (refine tkW (i := 9) (v := ?_) rfl rfl ?_ ?_; rotate_left; (focus (intro w hSw; (try dsimp only at hSw); go_simp; first | done | with_reducible rfl)); (simp only [Act.at, setIfInBounds_toArray, set_cons_zero, set_cons_succ]))
                  | (refine tkU (i := 9) rfl rfl ?_; (simp only [Act.at, setIfInBounds_toArray, set_cons_zero, set_cons_succ]))
                  first
                  | (refine tkW (i := 10) (v := ?_) rfl rfl ?_ ?_; rotate_left; (focus (intro w hSw; (try dsimp only at hSw); go_simp; first | done | with_reducible rfl)); (simp only [Act.at, setIfInBounds_toArray, set_cons_zero, set_cons_succ]))
                  | (refine tkU (i := 10) rfl rfl ?_; (simp only [Act.at, setIfInBounds_toArray, set_cons_zero, set_cons_succ]))
                  first
                  | (refine tkW (i := 11) (v := ?_) rfl rfl ?_ ?_; rotate_left; (focus (intro w hSw; (try dsimp only at hSw); go_simp; first | done | with_reducible rfl)); (simp only [Act.at, setIfInBounds_toArray, set_cons_zero, set_cons_succ]))
                  | (refine tkU (i := 11) rfl rfl ?_; (simp only [Act.at, setIfInBounds_toArray, set_cons_zero, set_cons_succ]))
                  first
                  | (refine tkW (i := 12) (v := ?_) rfl rfl ?_ ?_; rotate_left; (focus (intro w hSw; (try dsimp only at hSw); go_simp; first | done | with_reducible rfl)); (simp only [Act.at, setIfInBounds_toArray, set_cons_zero, set_cons_succ]))
                  | (refine tkU (i := 12) rfl rfl ?_; (simp only [Act.at, setIfInBounds_toArray, set_cons_zero, set_cons_succ]))
                  first
                  | (refine tkW (i := 13) (v := ?_) rfl rfl ?_ ?_; rotate_left; (focus (intro w hSw; (try dsimp only at hSw); go_simp; first | done | with_reducible rfl)); (simp only [Act.at, setIfInBounds_toArray, set_cons_zero, set_cons_succ]))
                  | (refine tkU (i := 13) rfl rfl ?_; (simp only [Act.at, setIfInBounds_toArray, set_cons_zero, set_cons_succ]))
                  first
                  | (refine tkW (i := 14) (v := ?_) rfl rfl ?_ ?_; rotate_left; (focus (intro w hSw; (try dsimp only at hSw); go_simp; first | done | with_reducible rfl)); (simp only [Act.at, setIfInBounds_toArray, set_cons_zero, set_cons_succ]))
                  | (refine tkU (i := 14) rfl rfl ?_; (simp only [Act.at, setIfInBounds_toArray, set_cons_zero, set_cons_succ]))
                  first
                  | (refine tkW (i := 15) (v := ?_) rfl rfl ?_ ?_; rotate_left; (focus (intro w hSw; (try dsimp only at hSw); go_simp; first | done | with_reducible rfl)); (simp only [Act.at, setIfInBounds_toArray, set_cons_zero, set_cons_succ]))
                  | (refine tkU (i := 15) rfl rfl ?_; (simp only [Act.at, setIfInBounds_toArray, set_cons_zero, set_cons_succ]))
                  first
                  | (refine tkW (i := 16) (v := ?_) rfl rfl ?_ ?_; rotate_left; (focus (intro w hSw; (try dsimp only at hSw); go_simp; first | done | with_reducible rfl)); (simp only [Act.at, setIfInBounds_toArray, set_cons_zero, set_cons_succ]))
                  | (refine tkU (i := 16) rfl rfl ?_; (simp only [Act.at, setIfInBounds_toArray, set_cons_zero, set_cons_succ]))
                  first
                  | (refine tkW (i := 17) (v := ?_) rfl rfl ?_ ?_; rotate_left; (focus (intro w hSw; (try dsimp only at hSw); go_simp; first | done | with_reducible rfl)); (simp only [Act.at, setIfInBounds_toArray, set_cons_zero, set_cons_succ]))
                  | (refine tkU (i := 17) rfl rfl ?_; (simp only [Act.at, setIfInBounds_toArray, set_cons_zero, set_cons_succ]))
                  first
                  | (refine tkW (i := 18) (v := ?_) rfl rfl ?_ ?_; rotate_left; (focus (intro w hSw; (try dsimp only at hSw); go_simp; first | done | with_reducible rfl)); (simp only [Act.at, setIfInBounds_toArray, set_cons_zero, set_cons_succ]))
                  | (refine tkU (i := 18) rfl rfl ?_; (simp only [Act.at, setIfInBounds_toArray, set_cons_zero, set_cons_succ]))
                  first
                  | (refine tkW (i := 19) (v := ?_) rfl rfl ?_ ?_; rotate_left; (focus (intro w hSw; (try dsimp only at hSw); go_simp; first | done | with_reducible rfl)); (simp only [Act.at, setIfInBounds_toArray, set_cons_zero, set_cons_succ]))
                  | (refine tkU (i := 19) rfl rfl ?_; (simp only [Act.at, setIfInBounds_toArray, set_cons_zero, set_cons_succ]))
                  first
                  | (refine tkW (i := 20) (v := ?_) rfl rfl ?_ ?_; rotate_left; (focus (intro w hSw; (try dsimp only at hSw); go_simp; first | done | with_reducible rfl)); (simp only [Act.at, setIfInBounds_toArray, set_cons_zero, set_cons_succ]))
                  | (refine tkU (i := 20) rfl rfl ?_; (simp only [Act.at, setIfInBounds_toArray, set_cons_zero, set_cons_succ]))
                  first
                  | (refine tkW (i := 21) (v := ?_) rfl rfl ?_ ?_; rotate_left; (focus (intro w hSw; (try dsimp only at hSw); go_simp; first | done | with_reducible rfl)); (simp only [Act.at, setIfInBounds_toArray, set_cons_zero, set_cons_succ]))
                  | (refine tkU (i := 21) rfl rfl ?_; (simp only [Act.at, setIfInBounds_toArray, set_cons_zero, set_cons_succ]))
                  first
                  | (refine tkW (i := 22) (v := ?_) rfl rfl ?_ ?_; rotate_left; (focus (intro w hSw; (try dsimp only at hSw); go_simp; first | done | with_reducible rfl)); (simp only [Act.at, setIfInBounds_toArray, set_cons_zero, set_cons_succ]))
                  | (refine tkU (i := 22) rfl rfl ?_; (simp only [Act.at, setIfInBounds_toArray, set_cons_zero, set_cons_succ]))
                  first
                  | (refine tkW (i := 23) (v := ?_) rfl rfl ?_ ?_; rotate_left; (focus (intro w hSw; (try dsimp only at hSw); go_simp; first | done | with_reducible rfl)); (simp only [Act.at, setIfInBounds_toArray, set_cons_zero, set_cons_succ]))
                  | (refine tkU (i := 23) rfl rfl ?_; (simp only [Act.at, setIfInBounds_toArray, set_cons_zero, set_cons_succ]))
                  first
                  | (refine tkW (i := 24) (v := ?_) rfl rfl ?_ ?_; rotate_left; (focus (intro w hSw; (try dsimp only at hSw); go_simp; first | done | with_reducible rfl)); (simp only [Act.at, setIfInBounds_toArray, set_cons_zero, set_cons_succ]))
                  | (refine tkU (i := 24) rfl rfl ?_; (simp only [Act.at, setIfInBounds_toArray, set_cons_zero, set_cons_succ]))
                  first
                  | (refine tkW (i := 25) (v := ?_) rfl rfl ?_ ?_; rotate_left; (focus (intro w hSw; (try dsimp only at hSw); go_simp; first | done | with_reducible rfl)); (simp only [Act.at, setIfInBounds_toArray, set_cons_zero, set_cons_succ]))
                  | (refine tkU (i := 25) rfl rfl ?_; (simp only [Act.at, setIfInBounds_toArray, set_cons_zero, set_cons_succ]))
                  first
                  | (refine tkW (i := 26) (v := ?_) rfl rfl ?_ ?_; rotate_left; (focus (intro w hSw; (try dsimp only at hSw); go_simp; first | done | with_reducible rfl)); (simp only [Act.at, setIfInBounds_toArray, set_cons_zero, set_cons_succ]))
                  | (refine tkU (i := 26) rfl rfl ?_; (simp only [Act.at, setIfInBounds_toArray, set_cons_zero, set_cons_succ]))
                  first
                  | (refine tkW (i := 27) (v := ?_) rfl rfl ?_ ?_; rotate_left; (focus (intro w hSw; (try dsimp only at hSw); go_simp; first | done | with_reducible rfl)); (simp only [Act.at, setIfInBounds_toArray, set_cons_zero, set_cons_succ]))
                  | (refine tkU (i := 27) rfl rfl ?_; (simp only [Act.at, setIfInBounds_toArray, set_cons_zero, set_cons_succ]))
                  first
                  | (refine tkW (i := 28) (v := ?_) rfl rfl ?_ ?_; rotate_left; (focus (intro w hSw; (try dsimp only at hSw); go_simp; first | done | with_reducible rfl)); (simp only [Act.at, setIfInBounds_toArray, set_cons_zero, set_cons_succ]))
                  | (refine tkU (i := 28) rfl rfl ?_; (simp only [Act.at, setIfInBounds_toArray, set_cons_zero, set_cons_succ]))
                  refine wpAnyH_done (by kernel_rfl) ?_ _
                  go_wp2_with fail
                  go_meet
                  exact ⟨_, rfl, Lib.hid ⟨HD.out, hbd⟩⟩
                | true =>
                  cases wk with
                  | false =>
                    have HD : Hid (false = DD) := Lib.hid (by rw [HDD.out]; rfl)
                    have hx : SlipS b0 bl ol (ol + k * 4) sb L.length ca ⟨sn, sp, sc, se⟩ sn W1.drew := ⟨z4, HP0.out, s0, s1⟩
                    clear z4 s0 s1 HDD HPV2
                    refine wp_region_held_drew (S := SlipS b0 bl ol (ol + k * 4) sb L.length ca ⟨sn, sp, sc, se⟩ sn) (by kernel_rfl) hx (fun hHeld => ?_)
                    first
                    | (refine tkW (i := 0) (v := ?_) rfl rfl ?_ ?_; rotate_left; (focus (intro w hSw; (try dsimp only at hSw); go_simp; first | done | with_reducible rfl)); (simp only [Act.at, setIfInBounds_toArray, set_cons_zero, set_cons_succ]))
                    | (refine tkU (i := 0) rfl rfl ?_; (simp only [Act.at, setIfInBounds_toArray, set_cons_zero, set_cons_succ]))
                    first
                    | (refine tkW (i := 1) (v := ?_) rfl rfl ?_ ?_; rotate_left; (focus (intro w hSw; (try dsimp only at hSw); go_simp; first | done | with_reducible rfl)); (simp only [Act.at, setIfInBounds_toArray, set_cons_zero, set_cons_succ]))
                    | (refine tkU (i := 1) rfl rfl ?_; (simp only [Act.at, setIfInBounds_toArray, set_cons_zero, set_cons_succ]))
                    first
                    | (refine tkW (i := 2) (v := ?_) rfl rfl ?_ ?_; rotate_left; (focus (intro w hSw; (try dsimp only at hSw); go_simp; first | done | with_reducible rfl)); (simp only [Act.at, setIfInBounds_toArray, set_cons_zero, set_cons_succ]))
                    | (refine tkU (i := 2) rfl rfl ?_; (simp only [Act.at, setIfInBounds_toArray, set_cons_zero, set_cons_succ]))
                    first
                    | (refine tkW (i := 3) (v := ?_) rfl rfl ?_ ?_; rotate_left; (focus (intro w hSw; (try dsimp only at hSw); go_simp; first | done | with_reducible rfl)); (simp only [Act.at, setIfInBounds_toArray, set_cons_zero, set_cons_succ]))
                    | (refine tkU (i := 3) rfl rfl ?_; (simp only [Act.at, setIfInBounds_toArray, set_cons_zero, set_cons_succ]))
                    refine take_call (i := 4) (by kernel_rfl) rfl rfl (by rfl) (fun K hK => ?_)
                    go_simp
                    refine (HW.out _).mono ?_
                    rintro r w2 ⟨rfl, hb2⟩
                    have hx2 : SlipS b0 bl ol (ol + k * 4) sb L.length ca ⟨sn, sp, sc, se⟩ sn w2 := ⟨(World.cell?_of_block (hb2.block b0 (hbl hbd).1)).trans hx.1, (World.cell?_of_block (hb2.block bl (hbl hbd).2.1)).trans hx.2.1, (World.cell?_of_block (hb2.block sb (hbl hbd).2.2)).trans hx.2.2.1, (World.cell?_of_block (hb2.block sb (hbl hbd).2.2)).trans hx.2.2.2⟩
                    have hbd2 := hbd.trans (hb2.mono hbd.size)
                    clear hx hHeld hb2 hbd HW
                    refine hK.out _ _ hx2 (fun hHeld => ?_)
                    clear hK K
                    try simp only [Act.put, setIfInBounds_toArray, set_cons_zero, set_cons_succ]
                    first
                    | (refine tkW (i := 5) (v := ?_) rfl rfl ?_ ?_; rotate_left; (focus (intro w hSw; (try dsimp only at hSw); go_simp; first | done | with_reducible rfl)); (simp only [Act.at, setIfInBounds_toArray, set_cons_zero, set_cons_succ]))
                    | (refine tkU (i := 5) rfl rfl ?_; (simp only [Act.at, setIfInBounds_toArray, set_cons_zero, set_cons_succ]))
                    first
                    | (refine tkW (i := 6) (v := ?_) rfl rfl ?_ ?_; rotate_left; (focus (intro w hSw; (try dsimp only at hSw); go_simp; first | done | with_reducible rfl)); (simp only [Act.at, setIfInBounds_toArray, set_cons_zero, set_cons_succ]))
                    | (refine tkU (i := 6) rfl rfl ?_; (simp only [Act.at, setIfInBounds_toArray, set_cons_zero, set_cons_succ]))
                    first
                    | (refine tkW (i := 7) (v := ?_) rfl rfl ?_ ?_; rotate_left; (focus (intro w hSw; (try dsimp only at hSw); go_simp; first | done | with_reducible rfl)); (simp only [Act.at, setIfInBounds_toArray, set_cons_zero, set_cons_succ]))
                    | (refine tkU (i := 7) rfl rfl ?_; (simp only [Act.at, setIfInBounds_toArray, set_cons_zero, set_cons_succ]))
                    first
                    | (refine tkW (i := 8) (v := ?_) rfl rfl ?_ ?_; rotate_left; (focus (intro w hSw; (try dsimp only at hSw); go_simp; first | done | with_reducible rfl)); (simp only [Act.at, setIfInBounds_toArray, set_cons_zero, set_cons_succ]))
                    | (refine tkU (i := 8) rfl rfl ?_; (simp only [Act.at, setIfInBounds_toArray, set_cons_zero, set_cons_succ]))
                    first
                    | (refine tkW (i := 9) (v := ?_) rfl rfl ?_ ?_; rotate_left; (focus (intro w hSw; (try dsimp only at hSw); go_simp; first | done | with_reducible rfl)); (simp only [Act.at, setIfInBounds_toArray, set_cons_zero, set_cons_succ]))
                    | (refine tkU (i := 9) rfl rfl ?_; (simp only [Act.at, setIfInBounds_toArray, set_cons_zero, set_cons_succ]))
                    first
                    | (refine tkW (i := 10) (v := ?_) rfl rfl ?_ ?_; rotate_left; (focus (intro w hSw; (try dsimp only at hSw); go_simp; first | done | with_reducible rfl)); (simp only [Act.at, setIfInBounds_toArray, set_cons_zero, set_cons_succ]))
                    | (refine tkU (i := 10) rfl rfl ?_; (simp only [Act.at, setIfInBounds_toArray, set_cons_zero, set_cons_succ]))
                    first
                    | (refine tkW (i := 11) (v := ?_) rfl rfl ?_ ?_; rotate_left; (focus (intro w hSw; (try dsimp only at hSw); go_simp; first | done | with_reducible rfl)); (simp only [Act.at, setIfInBounds_toArray, set_cons_zero, set_cons_succ]))
                    | (refine tkU (i := 11) rfl rfl ?_; (simp only [Act.at, setIfInBounds_toArray, set_cons_zero, set_cons_succ]))
                    first
                    | (refine tkW (i := 12) (v := ?_) rfl rfl ?_ ?_; rotate_left; (focus (intro w hSw; (try dsimp only at hSw); go_simp; first | done | with_reducible rfl)); (simp only [Act.at, setIfInBounds_toArray, set_cons_zero, set_cons_succ]))
                    | (refine tkU (i := 12) rfl rfl ?_; (simp only [Act.at, setIfInBounds_toArray, set_cons_zero, set_cons_succ]))
                    first
                    | (refine tkW (i := 13) (v := ?_) rfl rfl ?_ ?_; rotate_left; (focus (intro w hSw; (try dsimp only at hSw); go_simp; first | done | with_reducible rfl)); (simp only [Act.at, setIfInBounds_toArray, set_cons_zero, set_cons_succ]))
                    | (refine tkU (i := 13) rfl rfl ?_; (simp only [Act.at, setIfInBounds_toArray, set_cons_zero, set_cons_succ]))
                    first
                    | (refine tkW (i := 14) (v := ?_) rfl rfl ?_ ?_; rotate_left; (focus (intro w hSw; (try dsimp only at hSw); go_simp; first | done | with_reducible rfl)); (simp only [Act.at, setIfInBounds_toArray, set_cons_zero, set_cons_succ]))
                    | (refine tkU (i := 14) rfl rfl ?_; (simp only [Act.at, setIfInBounds_toArray, set_cons_zero, set_cons_succ]))
                    first
                    | (refine tkW (i := 15) (v := ?_) rfl rfl ?_ ?_; rotate_left; (focus (intro w hSw; (try dsimp only at hSw); go_simp; first | done | with_reducible rfl)); (simp only [Act.at, setIfInBounds_toArray, set_cons_zero, set_cons_succ]))
                    | (refine tkU (i := 15) rfl rfl ?_; (simp only [Act.at, setIfInBounds_toArray, set_cons_zero, set_cons_succ]))
                    first
                    | (refine tkW (i := 16) (v := ?_) rfl rfl ?_ ?_; rotate_left; (focus (intro w hSw; (try dsimp only at hSw); go_simp; first | done | with_reducible rfl)); (simp only [Act.at, setIfInBounds_toArray, set_cons_zero, set_cons_succ]))
                    | (refine tkU (i := 16) rfl rfl ?_; (simp only [Act.at, setIfInBounds_toArray, set_cons_zero, set_cons_succ]))
                    first
                    | (refine tkW (i := 17) (v := ?_) rfl rfl ?_ ?_; rotate_left; (focus (intro w hSw; (try dsimp only at hSw); go_simp; first | done | with_reducible rfl)); (simp only [Act.at, setIfInBounds_toArray, set_cons_zero, set_cons_succ]))
                    | (refine tkU (i := 17) rfl rfl ?_; (simp only [Act.at, setIfInBounds_toArray, set_cons_zero, set_cons_succ]))
                    first
                    | (refine tkW (i := 18) (v := ?_) rfl rfl ?_ ?_; rotate_left; (focus (intro w hSw; (try dsimp only at hSw); go_simp; first | done | with_reducible rfl)); (simp only [Act.at, setIfInBounds_toArray, set_cons_zero, set_cons_succ]))
                    | (refine tkU (i := 18) rfl rfl ?_; (simp only [Act.at, setIfInBounds_toArray, set_cons_zero, set_cons_succ]))
                    first
                    | (refine tkW (i := 19) (v := ?_) rfl rfl ?_ ?_; rotate_left; (focus (intro w hSw; (try dsimp only at hSw); go_simp; first | done | with_reducible rfl)); (simp only [Act.at, setIfInBounds_toArray, set_cons_zero, set_cons_succ]))
                    | (refine tkU (i := 19) rfl rfl ?_; (simp only [Act.at, setIfInBounds_toArray, set_cons_zero, set_cons_succ]))
                    first
                    | (refine tkW (i := 20) (v := ?_) rfl rfl ?_ ?_; rotate_left; (focus (intro w hSw; (try dsimp only at hSw); go_simp; first | done | with_reducible rfl)); (simp only [Act.at, setIfInBounds_toArray, set_cons_zero, set_cons_succ]))
                    | (refine tkU (i := 20) rfl rfl ?_; (simp only [Act.at, setIfInBounds_toArray, set_cons_zero, set_cons_succ]))
                    first
                    | (refine tkW (i := 21) (v := ?_) rfl rfl ?_ ?_; rotate_left; (focus (intro w hSw; (try dsimp only at hSw); go_simp; first | done | with_reducible rfl)); (simp only [Act.at, setIfInBounds_toArray, set_cons_zero, set_cons_succ]))
                    | (refine tkU (i := 21) rfl rfl ?_; (simp only [Act.at, setIfInBounds_toArray, set_cons_zero, set_cons_succ]))
                    first
                    | (refine tkW (i := 22) (v := ?_) rfl rfl ?_ ?_; rotate_left; (focus (intro w hSw; (try dsimp only at hSw); go_simp; first | done | with_reducible rfl)); (simp only [Act.at, setIfInBounds_toArray, set_cons_zero, set_cons_succ]))
                    | (refine tkU (i := 22) rfl rfl ?_; (simp only [Act.at, setIfInBounds_toArray, set_cons_zero, set_cons_succ]))
                    first
                    | (refine tkW (i := 23) (v := ?_) rfl rfl ?_ ?_; rotate_left; (focus (intro w hSw; (try dsimp only at hSw); go_simp; first | done | with_reducible rfl)); (simp only [Act.at, setIfInBounds_toArray, set_cons_zero, set_cons_succ]))
                    | (refine tkU (i := 23) rfl rfl ?_; (simp only [Act.at, setIfInBounds_toArray, set_cons_zero, set_cons_succ]))
                    first
                    | (refine tkW (i := 24) (v := ?_) rfl rfl ?_ ?_; rotate_left; (focus (intro w hSw; (try dsimp only at hSw); go_simp; first | done | with_reducible rfl)); (simp only [Act.at, setIfInBounds_toArray, set_cons_zero, set_cons_succ]))
                    | (refine tkU (i := 24) rfl rfl ?_; (simp only [Act.at, setIfInBounds_toArray, set_cons_zero, set_cons_succ]))
                    first
                    | (refine tkW (i := 25) (v := ?_) rfl rfl ?_ ?_; rotate_left; (focus (intro w hSw; (try dsimp only at hSw); go_simp; first | done | with_reducible rfl)); (simp only [Act.at, setIfInBounds_toArray, set_cons_zero, set_cons_succ]))
                    | (refine tkU (i := 25) rfl rfl ?_; (simp only [Act.at, setIfInBounds_toArray, set_cons_zero, set_cons_succ]))
                    first
                    | (refine tkW (i := 26) (v := ?_) rfl rfl ?_ ?_; rotate_left; (focus (intro w hSw; (try dsimp only at hSw); go_simp; first | done | with_reducible rfl)); (simp only [Act.at, setIfInBounds_toArray, set_cons_zero, set_cons_succ]))
                    | (refine tkU (i := 26) rfl rfl ?_; (simp only [Act.at, setIfInBounds_toArray, set_cons_zero, set_cons_succ]))
                    first
                    | (refine tkW (i := 27) (v := ?_) rfl rfl ?_ ?_; rotate_left; (focus (intro w hSw; (try dsimp only at hSw); go_simp; first | done | with_reducible rfl)); (simp only [Act.at, setIfInBounds_toArray, set_cons_zero, set_cons_succ]))
                    | (refine tkU (i := 27) rfl rfl ?_; (simp only [Act.at, setIfInBounds_toArray, set_cons_zero, set_cons_succ]))
                    first
                    | (refine tkW (i := 28) (v := ?_) rfl rfl ?_ ?_; rotate_left; (focus (intro w hSw; (try dsimp only at hSw); go_simp; first | done | with_reducible rfl)); (simp only [Act.at, setIfInBounds_toArray, set_cons_zero, set_cons_succ]))
                    | (refine tkU (i := 28) rfl rfl ?_; (simp only [Act.at, setIfInBounds_toArray, set_cons_zero, set_cons_succ]))
                    refine wpAnyH_done (by kernel_rfl) ?_ _
                    go_wp2_with fail
                    go_meet
                    exact ⟨_, rfl, Lib.hid ⟨HD.out, hbd2⟩⟩
                  | true =>
                    by_cases h32 : sp.length = 32
                    · have h32a : ((sp.length : Int) == 32) = true := by rw [h32]; rfl
                      by_cases hz : k = 0
                      · have hkz : ((k : Int) == 0) = true := by rw [beq_iff_eq]; omega
                        have HD : Hid (true = DD) := Lib.hid (by rw [HDD.out, decide_eq_true h32, show (k == 0) = true from by rw [beq_iff_eq]; exact hz]; rfl)
                        have hx : SlipS b0 bl ol (ol + k * 4) sb L.length ca ⟨sn, sp, sc, se⟩ sn W1.drew := ⟨z4, HP0.out, s0, s1⟩
                        clear z4 s0 s1 HDD HPV2 hz h32
                        refine wp_region_held_drew (S := SlipS b0 bl ol (ol + k * 4) sb L.length ca ⟨sn, sp, sc, se⟩ sn) (by kernel_rfl) hx (fun hHeld => ?_)
                        first
                        | (refine tkW (i := 0) (v := ?_) rfl rfl ?_ ?_; rotate_left; (focus (intro w hSw; (try dsimp only at hSw); go_simp; first | done | with_reducible rfl)); (simp only [Act.at, setIfInBounds_toArray, set_cons_zero, set_cons_succ]))
                        | (refine tkU (i := 0) rfl rfl ?_; (simp only [Act.at, setIfInBounds_toArray, set_cons_zero, set_cons_succ]))
                        first
                        | (refine tkW (i := 1) (v := ?_) rfl rfl ?_ ?_; rotate_left; (focus (intro w hSw; (try dsimp only at hSw); go_simp; first | done | with_reducible rfl)); (simp only [Act.at, setIfInBounds_toArray, set_cons_zero, set_cons_succ]))
                        | (refine tkU (i := 1) rfl rfl ?_; (simp only [Act.at, setIfInBounds_toArray, set_cons_zero, set_cons_succ]))
                        first
                        | (refine tkW (i := 2) (v := ?_) rfl rfl ?_ ?_; rotate_left; (focus (intro w hSw; (try dsimp only at hSw); go_simp; first | done | with_reducible rfl)); (simp only [Act.at, setIfInBounds_toArray, set_cons_zero, set_cons_succ]))
                        | (refine tkU (i := 2) rfl rfl ?_; (simp only [Act.at, setIfInBounds_toArray, set_cons_zero, set_cons_succ]))
                        first
                        | (refine tkW (i := 3) (v := ?_) rfl rfl ?_ ?_; rotate_left; (focus (intro w hSw; (try dsimp only at hSw); go_simp; first | done | with_reducible rfl)); (simp only [Act.at, setIfInBounds_toArray, set_cons_zero, set_cons_succ]))
                        | (refine tkU (i := 3) rfl rfl ?_; (simp only [Act.at, setIfInBounds_toArray, set_cons_zero, set_cons_succ]))
                        refine take_call (i := 4) (by kernel_rfl) rfl rfl (by rfl) (fun K hK => ?_)
                        go_simp
                        refine (HW.out _).mono ?_
                        rintro r w2 ⟨rfl, hb2⟩
                        have hx2 : SlipS b0 bl ol (ol + k * 4) sb L.length ca ⟨sn, sp, sc, se⟩ sn w2 := ⟨(World.cell?_of_block (hb2.block b0 (hbl hbd).1)).trans hx.1, (World.cell?_of_block (hb2.block bl (hbl hbd).2.1)).trans hx.2.1, (World.cell?_of_block (hb2.block sb (hbl hbd).2.2)).trans hx.2.2.1, (World.cell?_of_block (hb2.block sb (hbl hbd).2.2)).trans hx.2.2.2⟩
                        have hbd2 := hbd.trans (hb2.mono hbd.size)
                        clear hx hHeld hb2 hbd HW
                        refine hK.out _ _ hx2 (fun hHeld => ?_)
                        clear hK K
                        try simp only [Act.put, setIfInBounds_toArray, set_cons_zero, set_cons_succ]
                        first
                        | (refine tkW (i := 5) (v := ?_) rfl rfl ?_ ?_; rotate_left; (focus (intro w hSw; (try dsimp only at hSw); go_simp; first | done | with_reducible rfl)); (simp only [Act.at, setIfInBounds_toArray, set_cons_zero, set_cons_succ]))
                        | (refine tkU (i := 5) rfl rfl ?_; (simp only [Act.at, setIfInBounds_toArray, set_cons_zero, set_cons_succ]))
                        first
                        | (refine tkW (i := 6) (v := ?_) rfl rfl ?_ ?_; rotate_left; (focus (intro w hSw; (try dsimp only at hSw); go_simp; first | done | with_reducible rfl)); (simp only [Act.at, setIfInBounds_toArray, set_cons_zero, set_cons_succ]))
                        | (refine tkU (i := 6) rfl rfl ?_; (simp only [Act.at, setIfInBounds_toArray, set_cons_zero, set_cons_succ]))
                        first
                        | (refine tkW (i := 7) (v := ?_) rfl rfl ?_ ?_; rotate_left; (focus (intro w hSw; (try dsimp only at hSw); go_simp; first | done | with_reducible rfl)); (simp only [Act.at, setIfInBounds_toArray, set_cons_zero, set_cons_succ]))
                        | (refine tkU (i := 7) rfl rfl ?_; (simp only [Act.at, setIfInBounds_toArray, set_cons_zero, set_cons_succ]))
                        first
                        | (refine tkW (i := 8) (v := ?_) rfl rfl ?_ ?_; rotate_left; (focus (intro w hSw; (try dsimp only at hSw); go_simp; first | done | with_reducible rfl)); (simp only [Act.at, setIfInBounds_toArray, set_cons_zero, set_cons_succ]))
                        | (refine tkU (i := 8) rfl rfl ?_; (simp only [Act.at, setIfInBounds_toArray, set_cons_zero, set_cons_succ]))
                        first
                        | (refine tkW (i := 9) (v := ?_) rfl rfl ?_ ?_; rotate_left; (focus (intro w hSw; (try dsimp only at hSw); go_simp; first | done | with_reducible rfl)); (simp only [Act.at, setIfInBounds_toArray, set_cons_zero, set_cons_succ]))
                        | (refine tkU (i := 9) rfl rfl ?_; (simp only [Act.at, setIfInBounds_toArray, set_cons_zero, set_cons_succ]))
                        first
                        | (refine tkW (i := 10) (v := ?_) rfl rfl ?_ ?_; rotate_left; (focus (intro w hSw; (try dsimp only at hSw); go_simp; first | done | with_reducible rfl)); (simp only [Act.at, setIfInBounds_toArray, set_cons_zero, set_cons_succ]))
                        | (refine tkU (i := 10) rfl rfl ?_; (simp only [Act.at, setIfInBounds_toArray, set_cons_zero, set_cons_succ]))
                        first
                        | (refine tkW (i := 11) (v := ?_) rfl rfl ?_ ?_; rotate_left; (focus (intro w hSw; (try dsimp only at hSw); go_simp; first | done | with_reducible rfl)); (simp only [Act.at, setIfInBounds_toArray, set_cons_zero, set_cons_succ]))
                        | (refine tkU (i := 11) rfl rfl ?_; (simp only [Act.at, setIfInBounds_toArray, set_cons_zero, set_cons_succ]))
                        first
                        | (refine tkW (i := 12) (v := ?_) rfl rfl ?_ ?_; rotate_left; (focus (intro w hSw; (try dsimp only at hSw); go_simp; first | done | with_reducible rfl)); (simp only [Act.at, setIfInBounds_toArray, set_cons_zero, set_cons_succ]))
                        | (refine tkU (i := 12) rfl rfl ?_; (simp only [Act.at, setIfInBounds_toArray, set_cons_zero, set_cons_succ]))
                        first
                        | (refine tkW (i := 13) (v := ?_) rfl rfl ?_ ?_; rotate_left; (focus (intro w hSw; (try dsimp only at hSw); go_simp; first | done | with_reducible rfl)); (simp only [Act.at, setIfInBounds_toArray, set_cons_zero, set_cons_succ]))
                        | (refine tkU (i := 13) rfl rfl ?_; (simp only [Act.at, setIfInBounds_toArray, set_cons_zero, set_cons_succ]))
                        first
                        | (refine tkW (i := 14) (v := ?_) rfl rfl ?_ ?_; rotate_left; (focus (intro w hSw; (try dsimp only at hSw); go_simp; first | done | with_reducible rfl)); (simp only [Act.at, setIfInBounds_toArray, set_cons_zero, set_cons_succ]))
                        | (refine tkU (i := 14) rfl rfl ?_; (simp only [Act.at, setIfInBounds_toArray, set_cons_zero, set_cons_succ]))
                        first
                        | (refine tkW (i := 15) (v := ?_) rfl rfl ?_ ?_; rotate_left; (focus (intro w hSw; (try dsimp only at hSw); go_simp; first | done | with_reducible rfl)); (simp only [Act.at, setIfInBounds_toArray, set_cons_zero, set_cons_succ]))
                        | (refine tkU (i := 15) rfl rfl ?_; (simp only [Act.at, setIfInBounds_toArray, set_cons_zero, set_cons_succ]))
                        first
                        | (refine tkW (i := 16) (v := ?_) rfl rfl ?_ ?_; rotate_left; (focus (intro w hSw; (try dsimp only at hSw); go_simp; first | done | with_reducible rfl)); (simp only [Act.at, setIfInBounds_toArray, set_cons_zero, set_cons_succ]))
                        | (refine tkU (i := 16) rfl rfl ?_; (simp only [Act.at, setIfInBounds_toArray, set_cons_zero, set_cons_succ]))
                        first
                        | (refine tkW (i := 17) (v := ?_) rfl rfl ?_ ?_; rotate_left; (focus (intro w hSw; (try dsimp only at hSw); go_simp; first | done | with_reducible rfl)); (simp only [Act.at, setIfInBounds_toArray, set_cons_zero, set_cons_succ]))
                        | (refine tkU (i := 17) rfl rfl ?_; (simp only [Act.at, setIfInBounds_toArray, set_cons_zero, set_cons_succ]))
                        first
                        | (refine tkW (i := 18) (v := ?_) rfl rfl ?_ ?_; rotate_left; (focus (intro w hSw; (try dsimp only at hSw); go_simp; first | done | with_reducible rfl)); (simp only [Act.at, setIfInBounds_toArray, set_cons_zero, set_cons_succ]))
                        | (refine tkU (i := 18) rfl rfl ?_; (simp only [Act.at, setIfInBounds_toArray, set_cons_zero, set_cons_succ]))
                        first
                        | (refine tkW (i := 19) (v := ?_) rfl rfl ?_ ?_; rotate_left; (focus (intro w hSw; (try dsimp only at hSw); go_simp; first | done | with_reducible rfl)); (simp only [Act.at, setIfInBounds_toArray, set_cons_zero, set_cons_succ]))
                        | (refine tkU (i := 19) rfl rfl ?_; (simp only [Act.at, setIfInBounds_toArray, set_cons_zero, set_cons_succ]))
                        first
                        | (refine tkW (i := 20) (v := ?_) rfl rfl ?_ ?_; rotate_left; (focus (intro w hSw; (try dsimp only at hSw); go_simp; first | done | with_reducible rfl)); (simp only [Act.at, setIfInBounds_toArray, set_cons_zero, set_cons_succ]))
                        | (refine tkU (i := 20) rfl rfl ?_; (simp only [Act.at, setIfInBounds_toArray, set_cons_zero, set_cons_succ]))
                        first
                        | (refine tkW (i := 21) (v := ?_) rfl rfl ?_ ?_; rotate_left; (focus (intro w hSw; (try dsimp only at hSw); go_simp; first | done | with_reducible rfl)); (simp only [Act.at, setIfInBounds_toArray, set_cons_zero, set_cons_succ]))
                        | (refine tkU (i := 21) rfl rfl ?_; (simp only [Act.at, setIfInBounds_toArray, set_cons_zero, set_cons_succ]))
                        first
                        | (refine tkW (i := 22) (v := ?_) rfl rfl ?_ ?_; rotate_left; (focus (intro w hSw; (try dsimp only at hSw); go_simp; first | done | with_reducible rfl)); (simp only [Act.at, setIfInBounds_toArray, set_cons_zero, set_cons_succ]))
                        | (refine tkU (i := 22) rfl rfl ?_; (simp only [Act.at, setIfInBounds_toArray, set_cons_zero, set_cons_succ]))
                        first
                        | (refine tkW (i := 23) (v := ?_) rfl rfl ?_ ?_; rotate_left; (focus (intro w hSw; (try dsimp only at hSw); go_simp; first | done | with_reducible rfl)); (simp only [Act.at, setIfInBounds_toArray, set_cons_zero, set_cons_succ]))
                        | (refine tkU (i := 23) rfl rfl ?_; (simp only [Act.at, setIfInBounds_toArray, set_cons_zero, set_cons_succ]))
                        first
                        | (refine tkW (i := 24) (v := ?_) rfl rfl ?_ ?_; rotate_left; (focus (intro w hSw; (try dsimp only at hSw); go_simp; first | done | with_reducible rfl)); (simp only [Act.at, setIfInBounds_toArray, set_cons_zero, set_cons_succ]))
                        | (refine tkU (i := 24) rfl rfl ?_; (simp only [Act.at, setIfInBounds_toArray, set_cons_zero, set_cons_succ]))
                        first
                        | (refine tkW (i := 25) (v := ?_) rfl rfl ?_ ?_; rotate_left; (focus (intro w hSw; (try dsimp only at hSw); go_simp; first | done | with_reducible rfl)); (simp only [Act.at, setIfInBounds_toArray, set_cons_zero, set_cons_succ]))
                        | (refine tkU (i := 25) rfl rfl ?_; (simp only [Act.at, setIfInBounds_toArray, set_cons_zero, set_cons_succ]))
                        first
                        | (refine tkW (i := 26) (v := ?_) rfl rfl ?_ ?_; rotate_left; (focus (intro w hSw; (try dsimp only at hSw); go_simp; first | done | with_reducible rfl)); (simp only [Act.at, setIfInBounds_toArray, set_cons_zero, set_cons_succ]))
                        | (refine tkU (i := 26) rfl rfl ?_; (simp only [Act.at, setIfInBounds_toArray, set_cons_zero, set_cons_succ]))
                        first
                        | (refine tkW (i := 27) (v := ?_) rfl rfl ?_ ?_; rotate_left; (focus (intro w hSw; (try dsimp only at hSw); go_simp; first | done | with_reducible rfl)); (simp only [Act.at, setIfInBounds_toArray, set_cons_zero, set_cons_succ]))
                        | (refine tkU (i := 27) rfl rfl ?_; (simp only [Act.at, setIfInBounds_toArray, set_cons_zero, set_cons_succ]))
                        first
                        | (refine tkW (i := 28) (v := ?_) rfl rfl ?_ ?_; rotate_left; (focus (intro w hSw; (try dsimp only at hSw); go_simp; first | done | with_reducible rfl)); (simp only [Act.at, setIfInBounds_toArray, set_cons_zero, set_cons_succ]))
                        | (refine tkU (i := 28) rfl rfl ?_; (simp only [Act.at, setIfInBounds_toArray, set_cons_zero, set_cons_succ]))
                        refine wpAnyH_done (by kernel_rfl) ?_ _
                        go_wp2_with fail
                        go_meet
                        exact ⟨_, rfl, Lib.hid ⟨HD.out, hbd2⟩⟩
                      · have hkz : ((k : Int) == 0) = false := by rw [beq_eq_false_iff_ne]; omega
                        obtain ⟨y, hy, hcy⟩ := HPV2.out (by omega)
                        obtain ⟨k1, hk1⟩ : ∃ k1 : Nat, k1 = k - 1 := ⟨_, rfl⟩
                        have HD : Hid (bytesLess y sn = DD) := Lib.hid (by
                          rw [HDD.out, decide_eq_true h32, hy, show (k == 0) = false from by rw [beq_eq_false_iff_ne]; exact hz]
                          rfl)
                        rw [← hk1] at hcy
                        have hdec : IntKind.i64.wrap ((k : Int) - 1) = (k1 : Int) := by
                          have h1 := HIN.out.1.ma
                          have h2 := HIN.out.1.la
                          dsimp only at h2
                          rw [IntKind.wrap_i64]
                          omega
                        have hk1c : (k1 : Int) < (L.length : Int) := by omega
                        have hk10 : (0 : Int) ≤ (k1 : Int) := by omega
                        have hx : SlipS b0 bl ol (ol + k1 * 4) sb L.length ca ⟨sn, sp, sc, se⟩ y W1.drew := ⟨z4, hcy, s0, s1⟩
                        clear z4 s0 s1 HDD HPV2 hz hy hk1 hcy h32
                        refine wp_region_held_drew (S := SlipS b0 bl ol (ol + k1 * 4) sb L.length ca ⟨sn, sp, sc, se⟩ y) (by kernel_rfl) hx (fun hHeld => ?_)
                        first
                        | (refine tkW (i := 0) (v := ?_) rfl rfl ?_ ?_; rotate_left; (focus (intro w hSw; (try dsimp only at hSw); go_simp; first | done | with_reducible rfl)); (simp only [Act.at, setIfInBounds_toArray, set_cons_zero, set_cons_succ]))
                        | (refine tkU (i := 0) rfl rfl ?_; (simp only [Act.at, setIfInBounds_toArray, set_cons_zero, set_cons_succ]))
                        first
                        | (refine tkW (i := 1) (v := ?_) rfl rfl ?_ ?_; rotate_left; (focus (intro w hSw; (try dsimp only at hSw); go_simp; first | done | with_reducible rfl)); (simp only [Act.at, setIfInBounds_toArray, set_cons_zero, set_cons_succ]))
                        | (refine tkU (i := 1) rfl rfl ?_; (simp only [Act.at, setIfInBounds_toArray, set_cons_zero, set_cons_succ]))
                        first
                        | (refine tkW (i := 2) (v := ?_) rfl rfl ?_ ?_; rotate_left; (focus (intro w hSw; (try dsimp only at hSw); go_simp; first | done | with_reducible rfl)); (simp only [Act.at, setIfInBounds_toArray, set_cons_zero, set_cons_succ]))
                        | (refine tkU (i := 2) rfl rfl ?_; (simp only [Act.at, setIfInBounds_toArray, set_cons_zero, set_cons_succ]))
                        first
                        | (refine tkW (i := 3) (v := ?_) rfl rfl ?_ ?_; rotate_left; (focus (intro w hSw; (try dsimp only at hSw); go_simp; first | done | with_reducible rfl)); (simp only [Act.at, setIfInBounds_toArray, set_cons_zero, set_cons_succ]))
                        | (refine tkU (i := 3) rfl rfl ?_; (simp only [Act.at, setIfInBounds_toArray, set_cons_zero, set_cons_succ]))
                        refine take_call (i := 4) (by kernel_rfl) rfl rfl (by rfl) (fun K hK => ?_)
                        go_simp
                        refine (HW.out _).mono ?_
                        rintro r w2 ⟨rfl, hb2⟩
                        have hx2 : SlipS b0 bl ol (ol + k1 * 4) sb L.length ca ⟨sn, sp, sc, se⟩ y w2 := ⟨(World.cell?_of_block (hb2.block b0 (hbl hbd).1)).trans hx.1, (World.cell?_of_block (hb2.block bl (hbl hbd).2.1)).trans hx.2.1, (World.cell?_of_block (hb2.block sb (hbl hbd).2.2)).trans hx.2.2.1, (World.cell?_of_block (hb2.block sb (hbl hbd).2.2)).trans hx.2.2.2⟩
                        have hbd2 := hbd.trans (hb2.mono hbd.size)
                        clear hx hHeld hb2 hbd HW
                        refine hK.out _ _ hx2 (fun hHeld => ?_)
                        clear hK K
                        try simp only [Act.put, setIfInBounds_toArray, set_cons_zero, set_cons_succ]
                        first
                        | (refine tkW (i := 5) (v := ?_) rfl rfl ?_ ?_; rotate_left; (focus (intro w hSw; (try dsimp only at hSw); go_simp; first | done | with_reducible rfl)); (simp only [Act.at, setIfInBounds_toArray, set_cons_zero, set_cons_succ]))
                        | (refine tkU (i := 5) rfl rfl ?_; (simp only [Act.at, setIfInBounds_toArray, set_cons_zero, set_cons_succ]))
                        first
                        | (refine tkW (i := 6) (v := ?_) rfl rfl ?_ ?_; rotate_left; (focus (intro w hSw; (try dsimp only at hSw); go_simp; first | done | with_reducible rfl)); (simp only [Act.at, setIfInBounds_toArray, set_cons_zero, set_cons_succ]))
                        | (refine tkU (i := 6) rfl rfl ?_; (simp only [Act.at, setIfInBounds_toArray, set_cons_zero, set_cons_succ]))
                        first
                        | (refine tkW (i := 7) (v := ?_) rfl rfl ?_ ?_; rotate_left; (focus (intro w hSw; (try dsimp only at hSw); go_simp; first | done | with_reducible rfl)); (simp only [Act.at, setIfInBounds_toArray, set_cons_zero, set_cons_succ]))
                        | (refine tkU (i := 7) rfl rfl ?_; (simp only [Act.at, setIfInBounds_toArray, set_cons_zero, set_cons_succ]))
                        first
                        | (refine tkW (i := 8) (v := ?_) rfl rfl ?_ ?_; rotate_left; (focus (intro w hSw; (try dsimp only at hSw); go_simp; first | done | with_reducible rfl)); (simp only [Act.at, setIfInBounds_toArray, set_cons_zero, set_cons_succ]))
                        | (refine tkU (i := 8) rfl rfl ?_; (simp only [Act.at, setIfInBounds_toArray, set_cons_zero, set_cons_succ]))
                        first
                        | (refine tkW (i := 9) (v := ?_) rfl rfl ?_ ?_; rotate_left; (focus (intro w hSw; (try dsimp only at hSw); go_simp; first | done | with_reducible rfl)); (simp only [Act.at, setIfInBounds_toArray, set_cons_zero, set_cons_succ]))
                        | (refine tkU (i := 9) rfl rfl ?_; (simp only [Act.at, setIfInBounds_toArray, set_cons_zero, set_cons_succ]))
                        first
                        | (refine tkW (i := 10) (v := ?_) rfl rfl ?_ ?_; rotate_left; (focus (intro w hSw; (try dsimp only at hSw); go_simp; first | done | with_reducible rfl)); (simp only [Act.at, setIfInBounds_toArray, set_cons_zero, set_cons_succ]))
                        | (refine tkU (i := 10) rfl rfl ?_; (simp only [Act.at, setIfInBounds_toArray, set_cons_zero, set_cons_succ]))
                        first
                        | (refine tkW (i := 11) (v := ?_) rfl rfl ?_ ?_; rotate_left; (focus (intro w hSw; (try dsimp only at hSw); go_simp; first | done | with_reducible rfl)); (simp only [Act.at, setIfInBounds_toArray, set_cons_zero, set_cons_succ]))
                        | (refine tkU (i := 11) rfl rfl ?_; (simp only [Act.at, setIfInBounds_toArray, set_cons_zero, set_cons_succ]))
                        first
                        | (refine tkW (i := 12) (v := ?_) rfl rfl ?_ ?_; rotate_left; (focus (intro w hSw; (try dsimp only at hSw); go_simp; first | done | with_reducible rfl)); (simp only [Act.at, setIfInBounds_toArray, set_cons_zero, set_cons_succ]))
                        | (refine tkU (i := 12) rfl rfl ?_; (simp only [Act.at, setIfInBounds_toArray, set_cons_zero, set_cons_succ]))
                        first
                        | (refine tkW (i := 13) (v := ?_) rfl rfl ?_ ?_; rotate_left; (focus (intro w hSw; (try dsimp only at hSw); go_simp; first | done | with_reducible rfl)); (simp only [Act.at, setIfInBounds_toArray, set_cons_zero, set_cons_succ]))
                        | (refine tkU (i := 13) rfl rfl ?_; (simp only [Act.at, setIfInBounds_toArray, set_cons_zero, set_cons_succ]))
                        first
                        | (refine tkW (i := 14) (v := ?_) rfl rfl ?_ ?_; rotate_left; (focus (intro w hSw; (try dsimp only at hSw); go_simp; first | done | with_reducible rfl)); (simp only [Act.at, setIfInBounds_toArray, set_cons_zero, set_cons_succ]))
                        | (refine tkU (i := 14) rfl rfl ?_; (simp only [Act.at, setIfInBounds_toArray, set_cons_zero, set_cons_succ]))
                        first
                        | (refine tkW (i := 15) (v := ?_) rfl rfl ?_ ?_; rotate_left; (focus (intro w hSw; (try dsimp only at hSw); go_simp; first | done | with_reducible rfl)); (simp only [Act.at, setIfInBounds_toArray, set_cons_zero, set_cons_succ]))
                        | (refine tkU (i := 15) rfl rfl ?_; (simp only [Act.at, setIfInBounds_toArray, set_cons_zero, set_cons_succ]))
                        first
                        | (refine tkW (i := 16) (v := ?_) rfl rfl ?_ ?_; rotate_left; (focus (intro w hSw; (try dsimp only at hSw); go_simp; first | done | with_reducible rfl)); (simp only [Act.at, setIfInBounds_toArray, set_cons_zero, set_cons_succ]))
                        | (refine tkU (i := 16) rfl rfl ?_; (simp only [Act.at, setIfInBounds_toArray, set_cons_zero, set_cons_succ]))
                        first
                        | (refine tkW (i := 17) (v := ?_) rfl rfl ?_ ?_; rotate_left; (focus (intro w hSw; (try dsimp only at hSw); go_simp; first | done | with_reducible rfl)); (simp only [Act.at, setIfInBounds_toArray, set_cons_zero, set_cons_succ]))
                        | (refine tkU (i := 17) rfl rfl ?_; (simp only [Act.at, setIfInBounds_toArray, set_cons_zero, set_cons_succ]))
                        first
                        | (refine tkW (i := 18) (v := ?_) rfl rfl ?_ ?_; rotate_left; (focus (intro w hSw; (try dsimp only at hSw); go_simp; first | done | with_reducible rfl)); (simp only [Act.at, setIfInBounds_toArray, set_cons_zero, set_cons_succ]))
                        | (refine tkU (i := 18) rfl rfl ?_; (simp only [Act.at, setIfInBounds_toArray, set_cons_zero, set_cons_succ]))
                        first
                        | (refine tkW (i := 19) (v := ?_) rfl rfl ?_ ?_; rotate_left; (focus (intro w hSw; (try dsimp only at hSw); go_simp; first | done | with_reducible rfl)); (simp only [Act.at, setIfInBounds_toArray, set_cons_zero, set_cons_succ]))
                        | (refine tkU (i := 19) rfl rfl ?_; (simp only [Act.at, setIfInBounds_toArray, set_cons_zero, set_cons_succ]))
                        first
                        | (refine tkW (i := 20) (v := ?_) rfl rfl ?_ ?_; rotate_left; (focus (intro w hSw; (try dsimp only at hSw); go_simp; first | done | with_reducible rfl)); (simp only [Act.at, setIfInBounds_toArray, set_cons_zero, set_cons_succ]))
                        | (refine tkU (i := 20) rfl rfl ?_; (simp only [Act.at, setIfInBounds_toArray, set_cons_zero, set_cons_succ]))
                        first
                        | (refine tkW (i := 21) (v := ?_) rfl rfl ?_ ?_; rotate_left; (focus (intro w hSw; (try dsimp only at hSw); go_simp; first | done | with_reducible rfl)); (simp only [Act.at, setIfInBounds_toArray, set_cons_zero, set_cons_succ]))
                        | (refine tkU (i := 21) rfl rfl ?_; (simp only [Act.at, setIfInBounds_toArray, set_cons_zero, set_cons_succ]))
                        first
                        | (refine tkW (i := 22) (v := ?_) rfl rfl ?_ ?_; rotate_left; (focus (intro w hSw; (try dsimp only at hSw); go_simp; first | done | with_reducible rfl)); (simp only [Act.at, setIfInBounds_toArray, set_cons_zero, set_cons_succ]))
                        | (refine tkU (i := 22) rfl rfl ?_; (simp only [Act.at, setIfInBounds_toArray, set_cons_zero, set_cons_succ]))
                        first
                        | (refine tkW (i := 23) (v := ?_) rfl rfl ?_ ?_; rotate_left; (focus (intro w hSw; (try dsimp only at hSw); go_simp; first | done | with_reducible rfl)); (simp only [Act.at, setIfInBounds_toArray, set_cons_zero, set_cons_succ]))
                        | (refine tkU (i := 23) rfl rfl ?_; (simp only [Act.at, setIfInBounds_toArray, set_cons_zero, set_cons_succ]))
                        first
                        | (refine tkW (i := 24) (v := ?_) rfl rfl ?_ ?_; rotate_left; (focus (intro w hSw; (try dsimp only at hSw); go_simp; first | done | with_reducible rfl)); (simp only [Act.at, setIfInBounds_toArray, set_cons_zero, set_cons_succ]))
                        | (refine tkU (i := 24) rfl rfl ?_; (simp only [Act.at, setIfInBounds_toArray, set_cons_zero, set_cons_succ]))
                        first
                        | (refine tkW (i := 25) (v := ?_) rfl rfl ?_ ?_; rotate_left; (focus (intro w hSw; (try dsimp only at hSw); go_simp; first | done | with_reducible rfl)); (simp only [Act.at, setIfInBounds_toArray, set_cons_zero, set_cons_succ]))
                        | (refine tkU (i := 25) rfl rfl ?_; (simp only [Act.at, setIfInBounds_toArray, set_cons_zero, set_cons_succ]))
                        first
                        | (refine tkW (i := 26) (v := ?_) rfl rfl ?_ ?_; rotate_left; (focus (intro w hSw; (try dsimp only at hSw); go_simp; first | done | with_reducible rfl)); (simp only [Act.at, setIfInBounds_toArray, set_cons_zero, set_cons_succ]))
                        | (refine tkU (i := 26) rfl rfl ?_; (simp only [Act.at, setIfInBounds_toArray, set_cons_zero, set_cons_succ]))
                        first
                        | (refine tkW (i := 27) (v := ?_) rfl rfl ?_ ?_; rotate_left; (focus (intro w hSw; (try dsimp only at hSw); go_simp; first | done | with_reducible rfl)); (simp only [Act.at, setIfInBounds_toArray, set_cons_zero, set_cons_succ]))
                        | (refine tkU (i := 27) rfl rfl ?_; (simp only [Act.at, setIfInBounds_toArray, set_cons_zero, set_cons_succ]))
                        first
                        | (refine tkW (i := 28) (v := ?_) rfl rfl ?_ ?_; rotate_left; (focus (intro w hSw; (try dsimp only at hSw); go_simp; first | done | with_reducible rfl)); (simp only [Act.at, setIfInBounds_toArray, set_cons_zero, set_cons_succ]))
                        | (refine tkU (i := 28) rfl rfl ?_; (simp only [Act.at, setIfInBounds_toArray, set_cons_zero, set_cons_succ]))
                        refine wpAnyH_done (by kernel_rfl) ?_ _
                        go_wp2_with fail
                        go_meet
                        exact ⟨_, rfl, Lib.hid ⟨HD.out, hbd2⟩⟩
                    · have h32a : ((sp.length : Int) == 32) = false := by rw [beq_eq_false_iff_ne]; omega
                      have HD : Hid (false = DD) := Lib.hid (by rw [HDD.out, decide_eq_false h32]; rfl)
                      have hx : SlipS b0 bl ol (ol + k * 4) sb L.length ca ⟨sn, sp, sc, se⟩ sn W1.drew := ⟨z4, HP0.out, s0, s1⟩
                      clear z4 s0 s1 HDD HPV2 h32
                      refine wp_region_held_drew (S := SlipS b0 bl ol (ol + k * 4) sb L.length ca ⟨sn, sp, sc, se⟩ sn) (by kernel_rfl) hx (fun hHeld => ?_)
                      first
                      | (refine tkW (i := 0) (v := ?_) rfl rfl ?_ ?_; rotate_left; (focus (intro w hSw; (try dsimp only at hSw); go_simp; first | done | with_reducible rfl)); (simp only [Act.at, setIfInBounds_toArray, set_cons_zero, set_cons_succ]))
                      | (refine tkU (i := 0) rfl rfl ?_; (simp only [Act.at, setIfInBounds_toArray, set_cons_zero, set_cons_succ]))
                      first
                      | (refine tkW (i := 1) (v := ?_) rfl rfl ?_ ?_; rotate_left; (focus (intro w hSw; (try dsimp only at hSw); go_simp; first | done | with_reducible rfl)); (simp only [Act.at, setIfInBounds_toArray, set_cons_zero, set_cons_succ]))
                      | (refine tkU (i := 1) rfl rfl ?_; (simp only [Act.at, setIfInBounds_toArray, set_cons_zero, set_cons_succ]))
                      first
                      | (refine tkW (i := 2) (v := ?_) rfl rfl ?_ ?_; rotate_left; (focus (intro w hSw; (try dsimp only at hSw); go_simp; first | done | with_reducible rfl)); (simp only [Act.at, setIfInBounds_toArray, set_cons_zero, set_cons_succ]))
                      | (refine tkU (i := 2) rfl rfl ?_; (simp only [Act.at, setIfInBounds_toArray, set_cons_zero, set_cons_succ]))
                      first
                      | (refine tkW (i := 3) (v := ?_) rfl rfl ?_ ?_; rotate_left; (focus (intro w hSw; (try dsimp only at hSw); go_simp; first | done | with_reducible rfl)); (simp only [Act.at, setIfInBounds_toArray, set_cons_zero, set_cons_succ]))
                      | (refine tkU (i := 3) rfl rfl ?_; (simp only [Act.at, setIfInBounds_toArray, set_cons_zero, set_cons_succ]))
                      refine take_call (i := 4) (by kernel_rfl) rfl rfl (by rfl) (fun K hK => ?_)
                      go_simp
                      refine (HW.out _).mono ?_
                      rintro r w2 ⟨rfl, hb2⟩
                      have hx2 : SlipS b0 bl ol (ol + k * 4) sb L.length ca ⟨sn, sp, sc, se⟩ sn w2 := ⟨(World.cell?_of_block (hb2.block b0 (hbl hbd).1)).trans hx.1, (World.cell?_of_block (hb2.block bl (hbl hbd).2.1)).trans hx.2.1, (World.cell?_of_block (hb2.block sb (hbl hbd).2.2)).trans hx.2.2.1, (World.cell?_of_block (hb2.block sb (hbl hbd).2.2)).trans hx.2.2.2⟩
                      have hbd2 := hbd.trans (hb2.mono hbd.size)
                      clear hx hHeld hb2 hbd HW
                      refine hK.out _ _ hx2 (fun hHeld => ?_)
                      clear hK K
                      try simp only [Act.put, setIfInBounds_toArray, set_cons_zero, set_cons_succ]
                      first
                      | (refine tkW (i := 5) (v := ?_) rfl rfl ?_ ?_; rotate_left; (focus (intro w hSw; (try dsimp only at hSw); go_simp; first | done | with_reducible rfl)); (simp only [Act.at, setIfInBounds_toArray, set_cons_zero, set_cons_succ]))
                      | (refine tkU (i := 5) rfl rfl ?_; (simp only [Act.at, setIfInBounds_toArray, set_cons_zero, set_cons_succ]))
                      first
                      | (refine tkW (i := 6) (v := ?_) rfl rfl ?_ ?_; rotate_left; (focus (intro w hSw; (try dsimp only at hSw); go_simp; first | done | with_reducible rfl)); (simp only [Act.at, setIfInBounds_toArray, set_cons_zero, set_cons_succ]))
                      | (refine tkU (i := 6) rfl rfl ?_; (simp only [Act.at, setIfInBounds_toArray, set_cons_zero, set_cons_succ]))
                      first
                      | (refine tkW (i := 7) (v := ?_) rfl rfl ?_ ?_; rotate_left; (focus (intro w hSw; (try dsimp only at hSw); go_simp; first | done | with_reducible rfl)); (simp only [Act.at, setIfInBounds_toArray, set_cons_zero, set_cons_succ]))
                      | (refine tkU (i := 7) rfl rfl ?_; (simp only [Act.at, setIfInBounds_toArray, set_cons_zero, set_cons_succ]))
                      first
                      | (refine tkW (i := 8) (v := ?_) rfl rfl ?_ ?_; rotate_left; (focus (intro w hSw; (try dsimp only at hSw); go_simp; first | done | with_reducible rfl)); (simp only [Act.at, setIfInBounds_toArray, set_cons_zero, set_cons_succ]))
                      | (refine tkU (i := 8) rfl rfl ?_; (simp only [Act.at, setIfInBounds_toArray, set_cons_zero, set_cons_succ]))
                      first
                      | (refine tkW (i := 9) (v := ?_) rfl rfl ?_ ?_; rotate_left; (focus (intro w hSw; (try dsimp only at hSw); go_simp; first | done | with_reducible rfl)); (simp only [Act.at, setIfInBounds_toArray, set_cons_zero, set_cons_succ]))
                      | (refine tkU (i := 9) rfl rfl ?_; (simp only [Act.at, setIfInBounds_toArray, set_cons_zero, set_cons_succ]))
                      first
                      | (refine tkW (i := 10) (v := ?_) rfl rfl ?_ ?_; rotate_left; (focus (intro w hSw; (try dsimp only at hSw); go_simp; first | done | with_reducible rfl)); (simp only [Act.at, setIfInBounds_toArray, set_cons_zero, set_cons_succ]))
                      | (refine tkU (i := 10) rfl rfl ?_; (simp only [Act.at, setIfInBounds_toArray, set_cons_zero, set_cons_succ]))
                      first
                      | (refine tkW (i := 11) (v := ?_) rfl rfl ?_ ?_; rotate_left; (focus (intro w hSw; (try dsimp only at hSw); go_simp; first | done | with_reducible rfl)); (simp only [Act.at, setIfInBounds_toArray, set_cons_zero, set_cons_succ]))
                      | (refine tkU (i := 11) rfl rfl ?_; (simp only [Act.at, setIfInBounds_toArray, set_cons_zero, set_cons_succ]))
                      first
                      | (refine tkW (i := 12) (v := ?_) rfl rfl ?_ ?_; rotate_left; (focus (intro w hSw; (try dsimp only at hSw); go_simp; first | done | with_reducible rfl)); (simp only [Act.at, setIfInBounds_toArray, set_cons_zero, set_cons_succ]))
                      | (refine tkU (i := 12) rfl rfl ?_; (simp only [Act.at, setIfInBounds_toArray, set_cons_zero, set_cons_succ]))
                      first
                      | (refine tkW (i := 13) (v := ?_) rfl rfl ?_ ?_; rotate_left; (focus (intro w hSw; (try dsimp only at hSw); go_simp; first | done | with_reducible rfl)); (simp only [Act.at, setIfInBounds_toArray, set_cons_zero, set_cons_succ]))
                      | (refine tkU (i := 13) rfl rfl ?_; (simp only [Act.at, setIfInBounds_toArray, set_cons_zero, set_cons_succ]))
                      first
                      | (refine tkW (i := 14) (v := ?_) rfl rfl ?_ ?_; rotate_left; (focus (intro w hSw; (try dsimp only at hSw); go_simp; first | done | with_reducible rfl)); (simp only [Act.at, setIfInBounds_toArray, set_cons_zero, set_cons_succ]))
                      | (refine tkU (i := 14) rfl rfl ?_; (simp only [Act.at, setIfInBounds_toArray, set_cons_zero, set_cons_succ]))
                      first
                      | (refine tkW (i := 15) (v := ?_) rfl rfl ?_ ?_; rotate_left; (focus (intro w hSw; (try dsimp only at hSw); go_simp; first | done | with_reducible rfl)); (simp only [Act.at, setIfInBounds_toArray, set_cons_zero, set_cons_succ]))
                      | (refine tkU (i := 15) rfl rfl ?_; (simp only [Act.at, setIfInBounds_toArray, set_cons_zero, set_cons_succ]))
                      first
                      | (refine tkW (i := 16) (v := ?_) rfl rfl ?_ ?_; rotate_left; (focus (intro w hSw; (try dsimp only at hSw); go_simp; first | done | with_reducible rfl)); (simp only [Act.at, setIfInBounds_toArray, set_cons_zero, set_cons_succ]))
                      | (refine tkU (i := 16) rfl rfl ?_; (simp only [Act.at, setIfInBounds_toArray, set_cons_zero, set_cons_succ]))
                      first
                      | (refine tkW (i := 17) (v := ?_) rfl rfl ?_ ?_; rotate_left; (focus (intro w hSw; (try dsimp only at hSw); go_simp; first | done | with_reducible rfl)); (simp only [Act.at, setIfInBounds_toArray, set_cons_zero, set_cons_succ]))
                      | (refine tkU (i := 17) rfl rfl ?_; (simp only [Act.at, setIfInBounds_toArray, set_cons_zero, set_cons_succ]))
                      first
                      | (refine tkW (i := 18) (v := ?_) rfl rfl ?_ ?_; rotate_left; (focus (intro w hSw; (try dsimp only at hSw); go_simp; first | done | with_reducible rfl)); (simp only [Act.at, setIfInBounds_toArray, set_cons_zero, set_cons_succ]))
                      | (refine tkU (i := 18) rfl rfl ?_; (simp only [Act.at, setIfInBounds_toArray, set_cons_zero, set_cons_succ]))
                      first
                      | (refine tkW (i := 19) (v := ?_) rfl rfl ?_ ?_; rotate_left; (focus (intro w hSw; (try dsimp only at hSw); go_simp; first | done | with_reducible rfl)); (simp only [Act.at, setIfInBounds_toArray, set_cons_zero, set_cons_succ]))
                      | (refine tkU (i := 19) rfl rfl ?_; (simp only [Act.at, setIfInBounds_toArray, set_cons_zero, set_cons_succ]))
                      first
                      | (refine tkW (i := 20) (v := ?_) rfl rfl ?_ ?_; rotate_left; (focus (intro w hSw; (try dsimp only at hSw); go_simp; first | done | with_reducible rfl)); (simp only [Act.at, setIfInBounds_toArray, set_cons_zero, set_cons_succ]))
                      | (refine tkU (i := 20) rfl rfl ?_; (simp only [Act.at, setIfInBounds_toArray, set_cons_zero, set_cons_succ]))
                      first
                      | (refine tkW (i := 21) (v := ?_) rfl rfl ?_ ?_; rotate_left; (focus (intro w hSw; (try dsimp only at hSw); go_simp; first | done | with_reducible rfl)); (simp only [Act.at, setIfInBounds_toArray, set_cons_zero, set_cons_succ]))
                      | (refine tkU (i := 21) rfl rfl ?_; (simp only [Act.at, setIfInBounds_toArray, set_cons_zero, set_cons_succ]))
                      first
                      | (refine tkW (i := 22) (v := ?_) rfl rfl ?_ ?_; rotate_left; (focus (intro w hSw; (try dsimp only at hSw); go_simp; first | done | with_reducible rfl)); (simp only [Act.at, setIfInBounds_toArray, set_cons_zero, set_cons_succ]))
                      | (refine tkU (i := 22) rfl rfl ?_; (simp only [Act.at, setIfInBounds_toArray, set_cons_zero, set_cons_succ]))
                      first
                      | (refine tkW (i := 23) (v := ?_) rfl rfl ?_ ?_; rotate_left; (focus (intro w hSw; (try dsimp only at hSw); go_simp; first | done | with_reducible rfl)); (simp only [Act.at, setIfInBounds_toArray, set_cons_zero, set_cons_succ]))
                      | (refine tkU (i := 23) rfl rfl ?_; (simp only [Act.at, setIfInBounds_toArray, set_cons_zero, set_cons_succ]))
                      first
                      | (refine tkW (i := 24) (v := ?_) rfl rfl ?_ ?_; rotate_left; (focus (intro w hSw; (try dsimp only at hSw); go_simp; first | done | with_reducible rfl)); (simp only [Act.at, setIfInBounds_toArray, set_cons_zero, set_cons_succ]))
                      | (refine tkU (i := 24) rfl rfl ?_; (simp only [Act.at, setIfInBounds_toArray, set_cons_zero, set_cons_succ]))
                      first
                      | (refine tkW (i := 25) (v := ?_) rfl rfl ?_ ?_; rotate_left; (focus (intro w hSw; (try dsimp only at hSw); go_simp; first | done | with_reducible rfl)); (simp only [Act.at, setIfInBounds_toArray, set_cons_zero, set_cons_succ]))
                      | (refine tkU (i := 25) rfl rfl ?_; (simp only [Act.at, setIfInBounds_toArray, set_cons_zero, set_cons_succ]))
                      first
                      | (refine tkW (i := 26) (v := ?_) rfl rfl ?_ ?_; rotate_left; (focus (intro w hSw; (try dsimp only at hSw); go_simp; first | done | with_reducible rfl)); (simp only [Act.at, setIfInBounds_toArray, set_cons_zero, set_cons_succ]))
                      | (refine tkU (i := 26) rfl rfl ?_; (simp only [Act.at, setIfInBounds_toArray, set_cons_zero, set_cons_succ]))
                      first
                      | (refine tkW (i := 27) (v := ?_) rfl rfl ?_ ?_; rotate_left; (focus (intro w hSw; (try dsimp only at hSw); go_simp; first | done | with_reducible rfl)); (simp only [Act.at, setIfInBounds_toArray, set_cons_zero, set_cons_succ]))
                      | (refine tkU (i := 27) rfl rfl ?_; (simp only [Act.at, setIfInBounds_toArray, set_cons_zero, set_cons_succ]))
                      first
                      | (refine tkW (i := 28) (v := ?_) rfl rfl ?_ ?_; rotate_left; (focus (intro w hSw; (try dsimp only at hSw); go_simp; first | done | with_reducible rfl)); (simp only [Act.at, setIfInBounds_toArray, set_cons_zero, set_cons_succ]))
                      | (refine tkU (i := 28) rfl rfl ?_; (simp only [Act.at, setIfInBounds_toArray, set_cons_zero, set_cons_succ]))
                      refine wpAnyH_done (by kernel_rfl) ?_ _
                      go_wp2_with fail
                      go_meet
                      exact ⟨_, rfl, Lib.hid ⟨HD.out, hbd2⟩⟩
              case rest =>
                obtain ⟨d, rfl, hd⟩ := hcut
                obtain ⟨rfl, hwc⟩ := hd.out
                have c2 : wc.cell? ⟨sb, 2, none⟩ = some (.string (S sc)) := (HSH.out.1.below hwc HSH.out.1.lt).cell 2
                have c3 : wc.cell? ⟨sb, 3, none⟩ = some (.bool se) := (HSH.out.1.below hwc HSH.out.1.lt).cell 3
                have HWC : Hid (Below W0.heap.size W0 wc) := Lib.hid (HSH.out.2.trans (hwc.mono HSH.out.2.size))
                have c5 : wc.cell? ⟨b0, 5, none⟩ = some (.bool gone) := (HIN.out.2.1.below HWC.out HIN.out.2.1.lt).cell 5
                have HDE : Hid (∀ x : Bool, x = (d && (if se then decide (sc.length = 0) else decide (16 ≤ sc.length ∧ sc.length ≤ 224) && !gone)) → x = (u2 && Ev.slpOk gone L k)) := Lib.hid (fun x hx => by
                  rw [hx, HDD.out, HO.out]
                  unfold Ev.slipR
                  dsimp only
                  generalize (if se then decide (sc.length = 0) else decide (16 ≤ sc.length ∧ sc.length ≤ 224) && !gone) = q1
                  generalize Pap.word 16 sn = q2
                  generalize decide (sp.length = 32) = q3
                  generalize (k == 0 || bytesLess ((L.map Slp.n).getD (k - 1) []) sn) = q4
                  cases u2 <;> cases q1 <;> cases q2 <;> cases q3 <;> cases q4 <;> rfl)
                clear hd hwc hbl hbd z4 s0 s1 HP0 HPV2 HDD HXB HO HBL2
                cases d with
                | false =>
                  cases se with
                  | true =>
                    go_wp2_with fail
                    go_roundg n
                    case measure => omega
                    case rel => exact ⟨k + 1, by have := HN.out; omega, by go_num, ⟨false, rfl, Lib.hid (HUP.out _ (HDE.out _ (by rfl)))⟩, Lib.hid HWC.out⟩
                  | false =>
                    go_wp2_with fail
                    go_roundg n
                    case measure => omega
                    case rel => exact ⟨k + 1, by have := HN.out; omega, by go_num, ⟨false, rfl, Lib.hid (HUP.out _ (HDE.out _ (by rfl)))⟩, Lib.hid HWC.out⟩
                | true =>
                  cases se with
                  | true =>
                    by_cases hc : sc = []
                    · subst hc
                      go_wp2_with fail
                      go_roundg n
                      case measure => omega
                      case rel => exact ⟨k + 1, by have := HN.out; omega, by go_num, ⟨true, rfl, Lib.hid (HUP.out _ (HDE.out _ (by rfl)))⟩, Lib.hid HWC.out⟩
                    · have hc1 : (sc == []) = false := by rw [beq_eq_false_iff_ne]; exact hc
                      have HC := Lib.hid (show ¬ sc.length = 0 from fun e => hc (List.length_eq_zero_iff.1 e))
                      go_wp2_with fail
                      go_roundg n
                      case measure => omega
                      case rel => exact ⟨k + 1, by have := HN.out; omega, by go_num, ⟨false, rfl, Lib.hid (HUP.out _ (HDE.out _ (by rw [if_pos trivial, decide_eq_false HC.out]; rfl)))⟩, Lib.hid HWC.out⟩
                  | false =>
                    by_cases g1 : 16 ≤ sc.length
                    · have g1i : (16 : Int) ≤ (sc.length : Int) := by omega
                      by_cases g2 : sc.length ≤ 224
                      · have g2i : (sc.length : Int) ≤ 224 := by omega
                        have HG := Lib.hid (And.intro g1 g2)
                        clear g1 g2
                        cases gone with
                        | true =>
                          go_wp2_with fail
                          go_roundg n
                          case measure => omega
                          case rel => exact ⟨k + 1, by have := HN.out; omega, by go_num, ⟨false, rfl, Lib.hid (HUP.out _ (HDE.out _ (by rw [if_neg (by decide), decide_eq_true HG.out]; rfl)))⟩, Lib.hid HWC.out⟩
                        | false =>
                          go_wp2_with fail
                          go_roundg n
                          case measure => omega
                          case rel => exact ⟨k + 1, by have := HN.out; omega, by go_num, ⟨true, rfl, Lib.hid (HUP.out _ (HDE.out _ (by rw [if_neg (by decide), decide_eq_true HG.out]; rfl)))⟩, Lib.hid HWC.out⟩
                      · have g2i : ¬ (sc.length : Int) ≤ 224 := by omega
                        have HG := Lib.hid g2
                        clear g1 g2
                        go_wp2_with fail
                        go_roundg n
                        case measure => omega
                        case rel => exact ⟨k + 1, by have := HN.out; omega, by go_num, ⟨false, rfl, Lib.hid (HUP.out _ (HDE.out _ (by rw [if_neg (by decide), decide_eq_false (fun x => HG.out x.2)]; rfl)))⟩, Lib.hid HWC.out⟩
                    · have g1i : ¬ (16 : Int) ≤ (sc.length : Int) := by omega
                      have HG := Lib.hid g1
                      clear g1
                      go_wp2_with fail
                      go_roundg n
                      case measure => omega
                      case rel => exact ⟨k + 1, by have := HN.out; omega, by go_num, ⟨false, rfl, Lib.hid (HUP.out _ (HDE.out _ (by rw [if_neg (by decide), decide_eq_false (fun x => HG.out x.1)]; rfl)))⟩, Lib.hid HWC.out⟩
        | succ n =>
          have hlt : (k : Int) < (H.length : Int) := by omega
          have hk : k < H.length := by omega
          have hinc : IntKind.i64.wrap ((k : Int) + 1) = (k : Int) + 1 := by
            have h1 := HIN.out.1.mb
            have h2 := HIN.out.1.lb
            dsimp only at h2
            rw [IntKind.wrap_i64]
            omega
          have hkc : (k : Int) < (cb : Int) := by have := HIN.out.1.lb; dsimp only at this; omega
          have hk0 : (0 : Int) ≤ (k : Int) := by omega
          obtain ⟨bh, oh, hB, -, -, hck⟩ := RowT.get (HIN.out.1.rh.below HM.out) k hk
          have HXB := Lib.hid (HFH.out.h _ (List.getElem_mem hk))
          have hgx : H.getD k [] = H[k]'hk := Ev.getD_at hk
          have HO : Hid (Ev.holdOk H k = (Pap.word 16 (H[k]'hk) && (k == 0 || bytesLess (H.getD (k - 1) []) (H[k]'hk)))) := Lib.hid (by unfold Ev.holdOk Ev.aft1; rw [hgx])
          have HUP : Hid (∀ x : Bool, x = (u && Ev.holdOk H k) → x = (u' && Ev.upTo (Ev.holdOk H) (k + 1))) := Lib.hid (fun x hx => by
            rw [hx, HU.out]
            show _ = (u' && (Ev.upTo (Ev.holdOk H) k && Ev.holdOk H k))
            rw [Bool.and_assoc])
          have HPV : Hid (0 < k → ∃ y, H.getD (k - 1) [] = y ∧ wr.cell? ⟨bh, oh + (k - 1), none⟩ = some (.string (S y))) := Lib.hid (fun hp => by
            obtain ⟨bh', oh', hB', -, -, hcp⟩ := RowT.get (HIN.out.1.rh.below HM.out) (k - 1) (Nat.lt_of_le_of_lt (Nat.sub_le k 1) hk)
            rw [hB] at hB'
            injection hB' with hB'
            injection hB' with e1 e2
            exact ⟨_, Ev.getD_at (Nat.lt_of_le_of_lt (Nat.sub_le k 1) hk), by rw [e1, e2]; exact hcp⟩)
          dsimp only at hck
          subst hB
          generalize H[k]'hk = x at hck HXB HO
          have HW := Lib.hid (fun W => eword_b x HXB.out 16 W)
          generalize Pap.word 16 x = wk at HW HO
          have HN := Lib.hid hkn
          have hbd : Below W0.heap.size W0 wr.drew := HM.out.drew
          clear hkn HU hgx HXB
          cases u with
          | false =>
            have hx : HoldS b0 bh oh (oh + k) (oh + k) H.length cb x x wr.drew := ⟨z6, hck, hck⟩
            clear hck HW HO HPV
            go_upto_region 6 with fail
            clear z6
            refine wp_region_held_drew (S := HoldS b0 bh oh (oh + k) (oh + k) H.length cb x x) (by kernel_rfl) hx (fun hHeld => ?_)
            first
            | (refine tkW (i := 0) (v := ?_) rfl rfl ?_ ?_; rotate_left; (focus (intro w hSw; (try dsimp only at hSw); go_simp; first | done | with_reducible rfl)); (simp only [Act.at, setIfInBounds_toArray, set_cons_zero, set_cons_succ]))
            | (refine tkU (i := 0) rfl rfl ?_; (simp only [Act.at, setIfInBounds_toArray, set_cons_zero, set_cons_succ]))
            first
            | (refine tkW (i := 1) (v := ?_) rfl rfl ?_ ?_; rotate_left; (focus (intro w hSw; (try dsimp only at hSw); go_simp; first | done | with_reducible rfl)); (simp only [Act.at, setIfInBounds_toArray, set_cons_zero, set_cons_succ]))
            | (refine tkU (i := 1) rfl rfl ?_; (simp only [Act.at, setIfInBounds_toArray, set_cons_zero, set_cons_succ]))
            first
            | (refine tkW (i := 2) (v := ?_) rfl rfl ?_ ?_; rotate_left; (focus (intro w hSw; (try dsimp only at hSw); go_simp; first | done | with_reducible rfl)); (simp only [Act.at, setIfInBounds_toArray, set_cons_zero, set_cons_succ]))
            | (refine tkU (i := 2) rfl rfl ?_; (simp only [Act.at, setIfInBounds_toArray, set_cons_zero, set_cons_succ]))
            first
            | (refine tkW (i := 3) (v := ?_) rfl rfl ?_ ?_; rotate_left; (focus (intro w hSw; (try dsimp only at hSw); go_simp; first | done | with_reducible rfl)); (simp only [Act.at, setIfInBounds_toArray, set_cons_zero, set_cons_succ]))
            | (refine tkU (i := 3) rfl rfl ?_; (simp only [Act.at, setIfInBounds_toArray, set_cons_zero, set_cons_succ]))
            first
            | (refine tkW (i := 4) (v := ?_) rfl rfl ?_ ?_; rotate_left; (focus (intro w hSw; (try dsimp only at hSw); go_simp; first | done | with_reducible rfl)); (simp only [Act.at, setIfInBounds_toArray, set_cons_zero, set_cons_succ]))
            | (refine tkU (i := 4) rfl rfl ?_; (simp only [Act.at, setIfInBounds_toArray, set_cons_zero, set_cons_succ]))
            first
            | (refine tkW (i := 5) (v := ?_) rfl rfl ?_ ?_; rotate_left; (focus (intro w hSw; (try dsimp only at hSw); go_simp; first | done | with_reducible rfl)); (simp only [Act.at, setIfInBounds_toArray, set_cons_zero, set_cons_succ]))
            | (refine tkU (i := 5) rfl rfl ?_; (simp only [Act.at, setIfInBounds_toArray, set_cons_zero, set_cons_succ]))
            first
            | (refine tkW (i := 6) (v := ?_) rfl rfl ?_ ?_; rotate_left; (focus (intro w hSw; (try dsimp only at hSw); go_simp; first | done | with_reducible rfl)); (simp only [Act.at, setIfInBounds_toArray, set_cons_zero, set_cons_succ]))
            | (refine tkU (i := 6) rfl rfl ?_; (simp only [Act.at, setIfInBounds_toArray, set_cons_zero, set_cons_succ]))
            first
            | (refine tkW (i := 7) (v := ?_) rfl rfl ?_ ?_; rotate_left; (focus (intro w hSw; (try dsimp only at hSw); go_simp; first | done | with_reducible rfl)); (simp only [Act.at, setIfInBounds_toArray, set_cons_zero, set_cons_succ]))
            | (refine tkU (i := 7) rfl rfl ?_; (simp only [Act.at, setIfInBounds_toArray, set_cons_zero, set_cons_succ]))
            first
            | (refine tkW (i := 8) (v := ?_) rfl rfl ?_ ?_; rotate_left; (focus (intro w hSw; (try dsimp only at hSw); go_simp; first | done | with_reducible rfl)); (simp only [Act.at, setIfInBounds_toArray, set_cons_zero, set_cons_succ]))
            | (refine tkU (i := 8) rfl rfl ?_; (simp only [Act.at, setIfInBounds_toArray, set_cons_zero, set_cons_succ]))
            first
            | (refine tkW (i := 9) (v := ?_) rfl rfl ?_ ?_; rotate_left; (focus (intro w hSw; (try dsimp only at hSw); go_simp; first | done | with_reducible rfl)); (simp only [Act.at, setIfInBounds_toArray, set_cons_zero, set_cons_succ]))
            | (refine tkU (i := 9) rfl rfl ?_; (simp only [Act.at, setIfInBounds_toArray, set_cons_zero, set_cons_succ]))
            first
            | (refine tkW (i := 10) (v := ?_) rfl rfl ?_ ?_; rotate_left; (focus (intro w hSw; (try dsimp only at hSw); go_simp; first | done | with_reducible rfl)); (simp only [Act.at, setIfInBounds_toArray, set_cons_zero, set_cons_succ]))
            | (refine tkU (i := 10) rfl rfl ?_; (simp only [Act.at, setIfInBounds_toArray, set_cons_zero, set_cons_succ]))
            first
            | (refine tkW (i := 11) (v := ?_) rfl rfl ?_ ?_; rotate_left; (focus (intro w hSw; (try dsimp only at hSw); go_simp; first | done | with_reducible rfl)); (simp only [Act.at, setIfInBounds_toArray, set_cons_zero, set_cons_succ]))
            | (refine tkU (i := 11) rfl rfl ?_; (simp only [Act.at, setIfInBounds_toArray, set_cons_zero, set_cons_succ]))
            first
            | (refine tkW (i := 12) (v := ?_) rfl rfl ?_ ?_; rotate_left; (focus (intro w hSw; (try dsimp only at hSw); go_simp; first | done | with_reducible rfl)); (simp only [Act.at, setIfInBounds_toArray, set_cons_zero, set_cons_succ]))
            | (refine tkU (i := 12) rfl rfl ?_; (simp only [Act.at, setIfInBounds_toArray, set_cons_zero, set_cons_succ]))
            first
            | (refine tkW (i := 13) (v := ?_) rfl rfl ?_ ?_; rotate_left; (focus (intro w hSw; (try dsimp only at hSw); go_simp; first | done | with_reducible rfl)); (simp only [Act.at, setIfInBounds_toArray, set_cons_zero, set_cons_succ]))
            | (refine tkU (i := 13) rfl rfl ?_; (simp only [Act.at, setIfInBounds_toArray, set_cons_zero, set_cons_succ]))
            first
            | (refine tkW (i := 14) (v := ?_) rfl rfl ?_ ?_; rotate_left; (focus (intro w hSw; (try dsimp only at hSw); go_simp; first | done | with_reducible rfl)); (simp only [Act.at, setIfInBounds_toArray, set_cons_zero, set_cons_succ]))
            | (refine tkU (i := 14) rfl rfl ?_; (simp only [Act.at, setIfInBounds_toArray, set_cons_zero, set_cons_succ]))
            first
            | (refine tkW (i := 15) (v := ?_) rfl rfl ?_ ?_; rotate_left; (focus (intro w hSw; (try dsimp only at hSw); go_simp; first | done | with_reducible rfl)); (simp only [Act.at, setIfInBounds_toArray, set_cons_zero, set_cons_succ]))
            | (refine tkU (i := 15) rfl rfl ?_; (simp only [Act.at, setIfInBounds_toArray, set_cons_zero, set_cons_succ]))
            first
            | (refine tkW (i := 16) (v := ?_) rfl rfl ?_ ?_; rotate_left; (focus (intro w hSw; (try dsimp only at hSw); go_simp; first | done | with_reducible rfl)); (simp only [Act.at, setIfInBounds_toArray, set_cons_zero, set_cons_succ]))
            | (refine tkU (i := 16) rfl rfl ?_; (simp only [Act.at, setIfInBounds_toArray, set_cons_zero, set_cons_succ]))
            first
            | (refine tkW (i := 17) (v := ?_) rfl rfl ?_ ?_; rotate_left; (focus (intro w hSw; (try dsimp only at hSw); go_simp; first | done | with_reducible rfl)); (simp only [Act.at, setIfInBounds_toArray, set_cons_zero, set_cons_succ]))
            | (refine tkU (i := 17) rfl rfl ?_; (simp only [Act.at, setIfInBounds_toArray, set_cons_zero, set_cons_succ]))
            first
            | (refine tkW (i := 18) (v := ?_) rfl rfl ?_ ?_; rotate_left; (focus (intro w hSw; (try dsimp only at hSw); go_simp; first | done | with_reducible rfl)); (simp only [Act.at, setIfInBounds_toArray, set_cons_zero, set_cons_succ]))
            | (refine tkU (i := 18) rfl rfl ?_; (simp only [Act.at, setIfInBounds_toArray, set_cons_zero, set_cons_succ]))
            first
            | (refine tkW (i := 19) (v := ?_) rfl rfl ?_ ?_; rotate_left; (focus (intro w hSw; (try dsimp only at hSw); go_simp; first | done | with_reducible rfl)); (simp only [Act.at, setIfInBounds_toArray, set_cons_zero, set_cons_succ]))
            | (refine tkU (i := 19) rfl rfl ?_; (simp only [Act.at, setIfInBounds_toArray, set_cons_zero, set_cons_succ]))
            first
            | (refine tkW (i := 20) (v := ?_) rfl rfl ?_ ?_; rotate_left; (focus (intro w hSw; (try dsimp only at hSw); go_simp; first | done | with_reducible rfl)); (simp only [Act.at, setIfInBounds_toArray, set_cons_zero, set_cons_succ]))
            | (refine tkU (i := 20) rfl rfl ?_; (simp only [Act.at, setIfInBounds_toArray, set_cons_zero, set_cons_succ]))
            first
            | (refine tkW (i := 21) (v := ?_) rfl rfl ?_ ?_; rotate_left; (focus (intro w hSw; (try dsimp only at hSw); go_simp; first | done | with_reducible rfl)); (simp only [Act.at, setIfInBounds_toArray, set_cons_zero, set_cons_succ]))
            | (refine tkU (i := 21) rfl rfl ?_; (simp only [Act.at, setIfInBounds_toArray, set_cons_zero, set_cons_succ]))
            first
            | (refine tkW (i := 22) (v := ?_) rfl rfl ?_ ?_; rotate_left; (focus (intro w hSw; (try dsimp only at hSw); go_simp; first | done | with_reducible rfl)); (simp only [Act.at, setIfInBounds_toArray, set_cons_zero, set_cons_succ]))
            | (refine tkU (i := 22) rfl rfl ?_; (simp only [Act.at, setIfInBounds_toArray, set_cons_zero, set_cons_succ]))
            first
            | (refine tkW (i := 23) (v := ?_) rfl rfl ?_ ?_; rotate_left; (focus (intro w hSw; (try dsimp only at hSw); go_simp; first | done | with_reducible rfl)); (simp only [Act.at, setIfInBounds_toArray, set_cons_zero, set_cons_succ]))
            | (refine tkU (i := 23) rfl rfl ?_; (simp only [Act.at, setIfInBounds_toArray, set_cons_zero, set_cons_succ]))
            first
            | (refine tkW (i := 24) (v := ?_) rfl rfl ?_ ?_; rotate_left; (focus (intro w hSw; (try dsimp only at hSw); go_simp; first | done | with_reducible rfl)); (simp only [Act.at, setIfInBounds_toArray, set_cons_zero, set_cons_succ]))
            | (refine tkU (i := 24) rfl rfl ?_; (simp only [Act.at, setIfInBounds_toArray, set_cons_zero, set_cons_succ]))
            first
            | (refine tkW (i := 25) (v := ?_) rfl rfl ?_ ?_; rotate_left; (focus (intro w hSw; (try dsimp only at hSw); go_simp; first | done | with_reducible rfl)); (simp only [Act.at, setIfInBounds_toArray, set_cons_zero, set_cons_succ]))
            | (refine tkU (i := 25) rfl rfl ?_; (simp only [Act.at, setIfInBounds_toArray, set_cons_zero, set_cons_succ]))
            first
            | (refine tkW (i := 26) (v := ?_) rfl rfl ?_ ?_; rotate_left; (focus (intro w hSw; (try dsimp only at hSw); go_simp; first | done | with_reducible rfl)); (simp only [Act.at, setIfInBounds_toArray, set_cons_zero, set_cons_succ]))
            | (refine tkU (i := 26) rfl rfl ?_; (simp only [Act.at, setIfInBounds_toArray, set_cons_zero, set_cons_succ]))
            first
            | (refine tkW (i := 27) (v := ?_) rfl rfl ?_ ?_; rotate_left; (focus (intro w hSw; (try dsimp only at hSw); go_simp; first | done | with_reducible rfl)); (simp only [Act.at, setIfInBounds_toArray, set_cons_zero, set_cons_succ]))
            | (refine tkU (i := 27) rfl rfl ?_; (simp only [Act.at, setIfInBounds_toArray, set_cons_zero, set_cons_succ]))
            refine wpAnyH_done (by kernel_rfl) ?_ _
            go_wp2_with fail
            go_roundg n
            case measure => omega
            case rel => exact ⟨k + 1, by have := HN.out; omega, by go_num, ⟨false, rfl, Lib.hid (HUP.out _ rfl)⟩, Lib.hid hbd⟩
          | true =>
            have hbl : ∀ {W : World}, Below W0.heap.size W0 W → b0 < W.heap.size ∧ bh < W.heap.size := fun {W} hW => ⟨Nat.lt_of_lt_of_le HIN.out.2.1.lt hW.size, by
              obtain ⟨b1, o1, e1, e2, -, -⟩ := RowT.get HIN.out.1.rh k hk
              injection e1 with e1
              injection e1 with e1 _
              rw [e1]
              exact Nat.lt_of_lt_of_le e2 hW.size⟩
            cases wk with
            | false =>
              have HH : Hid (Ev.holdOk H k = false) := Lib.hid HO.out
              have hx : HoldS b0 bh oh (oh + k) (oh + k) H.length cb x x wr.drew := ⟨z6, hck, hck⟩
              clear hck HO HPV
              go_upto_region 6 with fail
              clear z6
              refine wp_region_held_drew (S := HoldS b0 bh oh (oh + k) (oh + k) H.length cb x x) (by kernel_rfl) hx (fun hHeld => ?_)
              first
              | (refine tkW (i := 0) (v := ?_) rfl rfl ?_ ?_; rotate_left; (focus (intro w hSw; (try dsimp only at hSw); go_simp; first | done | with_reducible rfl)); (simp only [Act.at, setIfInBounds_toArray, set_cons_zero, set_cons_succ]))
              | (refine tkU (i := 0) rfl rfl ?_; (simp only [Act.at, setIfInBounds_toArray, set_cons_zero, set_cons_succ]))
              first
              | (refine tkW (i := 1) (v := ?_) rfl rfl ?_ ?_; rotate_left; (focus (intro w hSw; (try dsimp only at hSw); go_simp; first | done | with_reducible rfl)); (simp only [Act.at, setIfInBounds_toArray, set_cons_zero, set_cons_succ]))
              | (refine tkU (i := 1) rfl rfl ?_; (simp only [Act.at, setIfInBounds_toArray, set_cons_zero, set_cons_succ]))
              first
              | (refine tkW (i := 2) (v := ?_) rfl rfl ?_ ?_; rotate_left; (focus (intro w hSw; (try dsimp only at hSw); go_simp; first | done | with_reducible rfl)); (simp only [Act.at, setIfInBounds_toArray, set_cons_zero, set_cons_succ]))
              | (refine tkU (i := 2) rfl rfl ?_; (simp only [Act.at, setIfInBounds_toArray, set_cons_zero, set_cons_succ]))
              first
              | (refine tkW (i := 3) (v := ?_) rfl rfl ?_ ?_; rotate_left; (focus (intro w hSw; (try dsimp only at hSw); go_simp; first | done | with_reducible rfl)); (simp only [Act.at, setIfInBounds_toArray, set_cons_zero, set_cons_succ]))
              | (refine tkU (i := 3) rfl rfl ?_; (simp only [Act.at, setIfInBounds_toArray, set_cons_zero, set_cons_succ]))
              first
              | (refine tkW (i := 4) (v := ?_) rfl rfl ?_ ?_; rotate_left; (focus (intro w hSw; (try dsimp only at hSw); go_simp; first | done | with_reducible rfl)); (simp only [Act.at, setIfInBounds_toArray, set_cons_zero, set_cons_succ]))
              | (refine tkU (i := 4) rfl rfl ?_; (simp only [Act.at, setIfInBounds_toArray, set_cons_zero, set_cons_succ]))
              first
              | (refine tkW (i := 5) (v := ?_) rfl rfl ?_ ?_; rotate_left; (focus (intro w hSw; (try dsimp only at hSw); go_simp; first | done | with_reducible rfl)); (simp only [Act.at, setIfInBounds_toArray, set_cons_zero, set_cons_succ]))
              | (refine tkU (i := 5) rfl rfl ?_; (simp only [Act.at, setIfInBounds_toArray, set_cons_zero, set_cons_succ]))
              first
              | (refine tkW (i := 6) (v := ?_) rfl rfl ?_ ?_; rotate_left; (focus (intro w hSw; (try dsimp only at hSw); go_simp; first | done | with_reducible rfl)); (simp only [Act.at, setIfInBounds_toArray, set_cons_zero, set_cons_succ]))
              | (refine tkU (i := 6) rfl rfl ?_; (simp only [Act.at, setIfInBounds_toArray, set_cons_zero, set_cons_succ]))
              refine take_call (i := 7) (by kernel_rfl) rfl rfl (by rfl) (fun K hK => ?_)
              go_simp
              refine (HW.out _).mono ?_
              rintro r w2 ⟨rfl, hb2⟩
              have hx2 : HoldS b0 bh oh (oh + k) (oh + k) H.length cb x x w2 := ⟨(World.cell?_of_block (hb2.block b0 (hbl hbd).1)).trans hx.1, (World.cell?_of_block (hb2.block bh (hbl hbd).2)).trans hx.2.1, (World.cell?_of_block (hb2.block bh (hbl hbd).2)).trans hx.2.2⟩
              have hbd2 := hbd.trans (hb2.mono hbd.size)
              clear hx hHeld hb2 hbd HW
              refine hK.out _ _ hx2 (fun hHeld => ?_)
              clear hK K
              try simp only [Act.put, setIfInBounds_toArray, set_cons_zero, set_cons_succ]
              first
              | (refine tkW (i := 8) (v := ?_) rfl rfl ?_ ?_; rotate_left; (focus (intro w hSw; (try dsimp only at hSw); go_simp; first | done | with_reducible rfl)); (simp only [Act.at, setIfInBounds_toArray, set_cons_zero, set_cons_succ]))
              | (refine tkU (i := 8) rfl rfl ?_; (simp only [Act.at, setIfInBounds_toArray, set_cons_zero, set_cons_succ]))
              first
              | (refine tkW (i := 9) (v := ?_) rfl rfl ?_ ?_; rotate_left; (focus (intro w hSw; (try dsimp only at hSw); go_simp; first | done | with_reducible rfl)); (simp only [Act.at, setIfInBounds_toArray, set_cons_zero, set_cons_succ]))
              | (refine tkU (i := 9) rfl rfl ?_; (simp only [Act.at, setIfInBounds_toArray, set_cons_zero, set_cons_succ]))
              first
              | (refine tkW (i := 10) (v := ?_) rfl rfl ?_ ?_; rotate_left; (focus (intro w hSw; (try dsimp only at hSw); go_simp; first | done | with_reducible rfl)); (simp only [Act.at, setIfInBounds_toArray, set_cons_zero, set_cons_succ]))
              | (refine tkU (i := 10) rfl rfl ?_; (simp only [Act.at, setIfInBounds_toArray, set_cons_zero, set_cons_succ]))
              first
              | (refine tkW (i := 11) (v := ?_) rfl rfl ?_ ?_; rotate_left; (focus (intro w hSw; (try dsimp only at hSw); go_simp; first | done | with_reducible rfl)); (simp only [Act.at, setIfInBounds_toArray, set_cons_zero, set_cons_succ]))
              | (refine tkU (i := 11) rfl rfl ?_; (simp only [Act.at, setIfInBounds_toArray, set_cons_zero, set_cons_succ]))
              first
              | (refine tkW (i := 12) (v := ?_) rfl rfl ?_ ?_; rotate_left; (focus (intro w hSw; (try dsimp only at hSw); go_simp; first | done | with_reducible rfl)); (simp only [Act.at, setIfInBounds_toArray, set_cons_zero, set_cons_succ]))
              | (refine tkU (i := 12) rfl rfl ?_; (simp only [Act.at, setIfInBounds_toArray, set_cons_zero, set_cons_succ]))
              first
              | (refine tkW (i := 13) (v := ?_) rfl rfl ?_ ?_; rotate_left; (focus (intro w hSw; (try dsimp only at hSw); go_simp; first | done | with_reducible rfl)); (simp only [Act.at, setIfInBounds_toArray, set_cons_zero, set_cons_succ]))
              | (refine tkU (i := 13) rfl rfl ?_; (simp only [Act.at, setIfInBounds_toArray, set_cons_zero, set_cons_succ]))
              first
              | (refine tkW (i := 14) (v := ?_) rfl rfl ?_ ?_; rotate_left; (focus (intro w hSw; (try dsimp only at hSw); go_simp; first | done | with_reducible rfl)); (simp only [Act.at, setIfInBounds_toArray, set_cons_zero, set_cons_succ]))
              | (refine tkU (i := 14) rfl rfl ?_; (simp only [Act.at, setIfInBounds_toArray, set_cons_zero, set_cons_succ]))
              first
              | (refine tkW (i := 15) (v := ?_) rfl rfl ?_ ?_; rotate_left; (focus (intro w hSw; (try dsimp only at hSw); go_simp; first | done | with_reducible rfl)); (simp only [Act.at, setIfInBounds_toArray, set_cons_zero, set_cons_succ]))
              | (refine tkU (i := 15) rfl rfl ?_; (simp only [Act.at, setIfInBounds_toArray, set_cons_zero, set_cons_succ]))
              first
              | (refine tkW (i := 16) (v := ?_) rfl rfl ?_ ?_; rotate_left; (focus (intro w hSw; (try dsimp only at hSw); go_simp; first | done | with_reducible rfl)); (simp only [Act.at, setIfInBounds_toArray, set_cons_zero, set_cons_succ]))
              | (refine tkU (i := 16) rfl rfl ?_; (simp only [Act.at, setIfInBounds_toArray, set_cons_zero, set_cons_succ]))
              first
              | (refine tkW (i := 17) (v := ?_) rfl rfl ?_ ?_; rotate_left; (focus (intro w hSw; (try dsimp only at hSw); go_simp; first | done | with_reducible rfl)); (simp only [Act.at, setIfInBounds_toArray, set_cons_zero, set_cons_succ]))
              | (refine tkU (i := 17) rfl rfl ?_; (simp only [Act.at, setIfInBounds_toArray, set_cons_zero, set_cons_succ]))
              first
              | (refine tkW (i := 18) (v := ?_) rfl rfl ?_ ?_; rotate_left; (focus (intro w hSw; (try dsimp only at hSw); go_simp; first | done | with_reducible rfl)); (simp only [Act.at, setIfInBounds_toArray, set_cons_zero, set_cons_succ]))
              | (refine tkU (i := 18) rfl rfl ?_; (simp only [Act.at, setIfInBounds_toArray, set_cons_zero, set_cons_succ]))
              first
              | (refine tkW (i := 19) (v := ?_) rfl rfl ?_ ?_; rotate_left; (focus (intro w hSw; (try dsimp only at hSw); go_simp; first | done | with_reducible rfl)); (simp only [Act.at, setIfInBounds_toArray, set_cons_zero, set_cons_succ]))
              | (refine tkU (i := 19) rfl rfl ?_; (simp only [Act.at, setIfInBounds_toArray, set_cons_zero, set_cons_succ]))
              first
              | (refine tkW (i := 20) (v := ?_) rfl rfl ?_ ?_; rotate_left; (focus (intro w hSw; (try dsimp only at hSw); go_simp; first | done | with_reducible rfl)); (simp only [Act.at, setIfInBounds_toArray, set_cons_zero, set_cons_succ]))
              | (refine tkU (i := 20) rfl rfl ?_; (simp only [Act.at, setIfInBounds_toArray, set_cons_zero, set_cons_succ]))
              first
              | (refine tkW (i := 21) (v := ?_) rfl rfl ?_ ?_; rotate_left; (focus (intro w hSw; (try dsimp only at hSw); go_simp; first | done | with_reducible rfl)); (simp only [Act.at, setIfInBounds_toArray, set_cons_zero, set_cons_succ]))
              | (refine tkU (i := 21) rfl rfl ?_; (simp only [Act.at, setIfInBounds_toArray, set_cons_zero, set_cons_succ]))
              first
              | (refine tkW (i := 22) (v := ?_) rfl rfl ?_ ?_; rotate_left; (focus (intro w hSw; (try dsimp only at hSw); go_simp; first | done | with_reducible rfl)); (simp only [Act.at, setIfInBounds_toArray, set_cons_zero, set_cons_succ]))
              | (refine tkU (i := 22) rfl rfl ?_; (simp only [Act.at, setIfInBounds_toArray, set_cons_zero, set_cons_succ]))
              first
              | (refine tkW (i := 23) (v := ?_) rfl rfl ?_ ?_; rotate_left; (focus (intro w hSw; (try dsimp only at hSw); go_simp; first | done | with_reducible rfl)); (simp only [Act.at, setIfInBounds_toArray, set_cons_zero, set_cons_succ]))
              | (refine tkU (i := 23) rfl rfl ?_; (simp only [Act.at, setIfInBounds_toArray, set_cons_zero, set_cons_succ]))
              first
              | (refine tkW (i := 24) (v := ?_) rfl rfl ?_ ?_; rotate_left; (focus (intro w hSw; (try dsimp only at hSw); go_simp; first | done | with_reducible rfl)); (simp only [Act.at, setIfInBounds_toArray, set_cons_zero, set_cons_succ]))
              | (refine tkU (i := 24) rfl rfl ?_; (simp only [Act.at, setIfInBounds_toArray, set_cons_zero, set_cons_succ]))
              first
              | (refine tkW (i := 25) (v := ?_) rfl rfl ?_ ?_; rotate_left; (focus (intro w hSw; (try dsimp only at hSw); go_simp; first | done | with_reducible rfl)); (simp only [Act.at, setIfInBounds_toArray, set_cons_zero, set_cons_succ]))
              | (refine tkU (i := 25) rfl rfl ?_; (simp only [Act.at, setIfInBounds_toArray, set_cons_zero, set_cons_succ]))
              first
              | (refine tkW (i := 26) (v := ?_) rfl rfl ?_ ?_; rotate_left; (focus (intro w hSw; (try dsimp only at hSw); go_simp; first | done | with_reducible rfl)); (simp only [Act.at, setIfInBounds_toArray, set_cons_zero, set_cons_succ]))
              | (refine tkU (i := 26) rfl rfl ?_; (simp only [Act.at, setIfInBounds_toArray, set_cons_zero, set_cons_succ]))
              first
              | (refine tkW (i := 27) (v := ?_) rfl rfl ?_ ?_; rotate_left; (focus (intro w hSw; (try dsimp only at hSw); go_simp; first | done | with_reducible rfl)); (simp only [Act.at, setIfInBounds_toArray, set_cons_zero, set_cons_succ]))
              | (refine tkU (i := 27) rfl rfl ?_; (simp only [Act.at, setIfInBounds_toArray, set_cons_zero, set_cons_succ]))
              refine wpAnyH_done (by kernel_rfl) ?_ _
              go_wp2_with fail
              go_roundg n
              case measure => omega
              case rel => exact ⟨k + 1, by have := HN.out; omega, by go_num, ⟨false, rfl, Lib.hid (HUP.out _ (by rw [HH.out]; rfl))⟩, Lib.hid hbd2⟩
            | true =>
              by_cases hz : k = 0
              · have hkz : ((k : Int) == 0) = true := by rw [beq_iff_eq]; omega
                have HH : Hid (Ev.holdOk H k = true) := Lib.hid (by rw [HO.out, show (k == 0) = true from by rw [beq_iff_eq]; exact hz]; rfl)
                have hx : HoldS b0 bh oh (oh + k) (oh + k) H.length cb x x wr.drew := ⟨z6, hck, hck⟩
                clear hck HO HPV hz
                go_upto_region 6 with fail
                clear z6
                refine wp_region_held_drew (S := HoldS b0 bh oh (oh + k) (oh + k) H.length cb x x) (by kernel_rfl) hx (fun hHeld => ?_)
                first
                | (refine tkW (i := 0) (v := ?_) rfl rfl ?_ ?_; rotate_left; (focus (intro w hSw; (try dsimp only at hSw); go_simp; first | done | with_reducible rfl)); (simp only [Act.at, setIfInBounds_toArray, set_cons_zero, set_cons_succ]))
                | (refine tkU (i := 0) rfl rfl ?_; (simp only [Act.at, setIfInBounds_toArray, set_cons_zero, set_cons_succ]))
                first
                | (refine tkW (i := 1) (v := ?_) rfl rfl ?_ ?_; rotate_left; (focus (intro w hSw; (try dsimp only at hSw); go_simp; first | done | with_reducible rfl)); (simp only [Act.at, setIfInBounds_toArray, set_cons_zero, set_cons_succ]))
                | (refine tkU (i := 1) rfl rfl ?_; (simp only [Act.at, setIfInBounds_toArray, set_cons_zero, set_cons_succ]))
                first
                | (refine tkW (i := 2) (v := ?_) rfl rfl ?_ ?_; rotate_left; (focus (intro w hSw; (try dsimp only at hSw); go_simp; first | done | with_reducible rfl)); (simp only [Act.at, setIfInBounds_toArray, set_cons_zero, set_cons_succ]))
                | (refine tkU (i := 2) rfl rfl ?_; (simp only [Act.at, setIfInBounds_toArray, set_cons_zero, set_cons_succ]))
                first
                | (refine tkW (i := 3) (v := ?_) rfl rfl ?_ ?_; rotate_left; (focus (intro w hSw; (try dsimp only at hSw); go_simp; first | done | with_reducible rfl)); (simp only [Act.at, setIfInBounds_toArray, set_cons_zero, set_cons_succ]))
                | (refine tkU (i := 3) rfl rfl ?_; (simp only [Act.at, setIfInBounds_toArray, set_cons_zero, set_cons_succ]))
                first
                | (refine tkW (i := 4) (v := ?_) rfl rfl ?_ ?_; rotate_left; (focus (intro w hSw; (try dsimp only at hSw); go_simp; first | done | with_reducible rfl)); (simp only [Act.at, setIfInBounds_toArray, set_cons_zero, set_cons_succ]))
                | (refine tkU (i := 4) rfl rfl ?_; (simp only [Act.at, setIfInBounds_toArray, set_cons_zero, set_cons_succ]))
                first
                | (refine tkW (i := 5) (v := ?_) rfl rfl ?_ ?_; rotate_left; (focus (intro w hSw; (try dsimp only at hSw); go_simp; first | done | with_reducible rfl)); (simp only [Act.at, setIfInBounds_toArray, set_cons_zero, set_cons_succ]))
                | (refine tkU (i := 5) rfl rfl ?_; (simp only [Act.at, setIfInBounds_toArray, set_cons_zero, set_cons_succ]))
                first
                | (refine tkW (i := 6) (v := ?_) rfl rfl ?_ ?_; rotate_left; (focus (intro w hSw; (try dsimp only at hSw); go_simp; first | done | with_reducible rfl)); (simp only [Act.at, setIfInBounds_toArray, set_cons_zero, set_cons_succ]))
                | (refine tkU (i := 6) rfl rfl ?_; (simp only [Act.at, setIfInBounds_toArray, set_cons_zero, set_cons_succ]))
                refine take_call (i := 7) (by kernel_rfl) rfl rfl (by rfl) (fun K hK => ?_)
                go_simp
                refine (HW.out _).mono ?_
                rintro r w2 ⟨rfl, hb2⟩
                have hx2 : HoldS b0 bh oh (oh + k) (oh + k) H.length cb x x w2 := ⟨(World.cell?_of_block (hb2.block b0 (hbl hbd).1)).trans hx.1, (World.cell?_of_block (hb2.block bh (hbl hbd).2)).trans hx.2.1, (World.cell?_of_block (hb2.block bh (hbl hbd).2)).trans hx.2.2⟩
                have hbd2 := hbd.trans (hb2.mono hbd.size)
                clear hx hHeld hb2 hbd HW
                refine hK.out _ _ hx2 (fun hHeld => ?_)
                clear hK K
                try simp only [Act.put, setIfInBounds_toArray, set_cons_zero, set_cons_succ]
                first
                | (refine tkW (i := 8) (v := ?_) rfl rfl ?_ ?_; rotate_left; (focus (intro w hSw; (try dsimp only at hSw); go_simp; first | done | with_reducible rfl)); (simp only [Act.at, setIfInBounds_toArray, set_cons_zero, set_cons_succ]))
                | (refine tkU (i := 8) rfl rfl ?_; (simp only [Act.at, setIfInBounds_toArray, set_cons_zero, set_cons_succ]))
                first
                | (refine tkW (i := 9) (v := ?_) rfl rfl ?_ ?_; rotate_left; (focus (intro w hSw; (try dsimp only at hSw); go_simp; first | done | with_reducible rfl)); (simp only [Act.at, setIfInBounds_toArray, set_cons_zero, set_cons_succ]))
                | (refine tkU (i := 9) rfl rfl ?_; (simp only [Act.at, setIfInBounds_toArray, set_cons_zero, set_cons_succ]))
                first
                | (refine tkW (i := 10) (v := ?_) rfl rfl ?_ ?_; rotate_left; (focus (intro w hSw; (try dsimp only at hSw); go_simp; first | done | with_reducible rfl)); (simp only [Act.at, setIfInBounds_toArray, set_cons_zero, set_cons_succ]))
                | (refine tkU (i := 10) rfl rfl ?_; (simp only [Act.at, setIfInBounds_toArray, set_cons_zero, set_cons_succ]))
                first
                | (refine tkW (i := 11) (v := ?_) rfl rfl ?_ ?_; rotate_left; (focus (intro w hSw; (try dsimp only at hSw); go_simp; first | done | with_reducible rfl)); (simp only [Act.at, setIfInBounds_toArray, set_cons_zero, set_cons_succ]))
                | (refine tkU (i := 11) rfl rfl ?_; (simp only [Act.at, setIfInBounds_toArray, set_cons_zero, set_cons_succ]))
                first
                | (refine tkW (i := 12) (v := ?_) rfl rfl ?_ ?_; rotate_left; (focus (intro w hSw; (try dsimp only at hSw); go_simp; first | done | with_reducible rfl)); (simp only [Act.at, setIfInBounds_toArray, set_cons_zero, set_cons_succ]))
                | (refine tkU (i := 12) rfl rfl ?_; (simp only [Act.at, setIfInBounds_toArray, set_cons_zero, set_cons_succ]))
                first
                | (refine tkW (i := 13) (v := ?_) rfl rfl ?_ ?_; rotate_left; (focus (intro w hSw; (try dsimp only at hSw); go_simp; first | done | with_reducible rfl)); (simp only [Act.at, setIfInBounds_toArray, set_cons_zero, set_cons_succ]))
                | (refine tkU (i := 13) rfl rfl ?_; (simp only [Act.at, setIfInBounds_toArray, set_cons_zero, set_cons_succ]))
                first
                | (refine tkW (i := 14) (v := ?_) rfl rfl ?_ ?_; rotate_left; (focus (intro w hSw; (try dsimp only at hSw); go_simp; first | done | with_reducible rfl)); (simp only [Act.at, setIfInBounds_toArray, set_cons_zero, set_cons_succ]))
                | (refine tkU (i := 14) rfl rfl ?_; (simp only [Act.at, setIfInBounds_toArray, set_cons_zero, set_cons_succ]))
                first
                | (refine tkW (i := 15) (v := ?_) rfl rfl ?_ ?_; rotate_left; (focus (intro w hSw; (try dsimp only at hSw); go_simp; first | done | with_reducible rfl)); (simp only [Act.at, setIfInBounds_toArray, set_cons_zero, set_cons_succ]))
                | (refine tkU (i := 15) rfl rfl ?_; (simp only [Act.at, setIfInBounds_toArray, set_cons_zero, set_cons_succ]))
                first
                | (refine tkW (i := 16) (v := ?_) rfl rfl ?_ ?_; rotate_left; (focus (intro w hSw; (try dsimp only at hSw); go_simp; first | done | with_reducible rfl)); (simp only [Act.at, setIfInBounds_toArray, set_cons_zero, set_cons_succ]))
                | (refine tkU (i := 16) rfl rfl ?_; (simp only [Act.at, setIfInBounds_toArray, set_cons_zero, set_cons_succ]))
                first
                | (refine tkW (i := 17) (v := ?_) rfl rfl ?_ ?_; rotate_left; (focus (intro w hSw; (try dsimp only at hSw); go_simp; first | done | with_reducible rfl)); (simp only [Act.at, setIfInBounds_toArray, set_cons_zero, set_cons_succ]))
                | (refine tkU (i := 17) rfl rfl ?_; (simp only [Act.at, setIfInBounds_toArray, set_cons_zero, set_cons_succ]))
                first
                | (refine tkW (i := 18) (v := ?_) rfl rfl ?_ ?_; rotate_left; (focus (intro w hSw; (try dsimp only at hSw); go_simp; first | done | with_reducible rfl)); (simp only [Act.at, setIfInBounds_toArray, set_cons_zero, set_cons_succ]))
                | (refine tkU (i := 18) rfl rfl ?_; (simp only [Act.at, setIfInBounds_toArray, set_cons_zero, set_cons_succ]))
                first
                | (refine tkW (i := 19) (v := ?_) rfl rfl ?_ ?_; rotate_left; (focus (intro w hSw; (try dsimp only at hSw); go_simp; first | done | with_reducible rfl)); (simp only [Act.at, setIfInBounds_toArray, set_cons_zero, set_cons_succ]))
                | (refine tkU (i := 19) rfl rfl ?_; (simp only [Act.at, setIfInBounds_toArray, set_cons_zero, set_cons_succ]))
                first
                | (refine tkW (i := 20) (v := ?_) rfl rfl ?_ ?_; rotate_left; (focus (intro w hSw; (try dsimp only at hSw); go_simp; first | done | with_reducible rfl)); (simp only [Act.at, setIfInBounds_toArray, set_cons_zero, set_cons_succ]))
                | (refine tkU (i := 20) rfl rfl ?_; (simp only [Act.at, setIfInBounds_toArray, set_cons_zero, set_cons_succ]))
                first
                | (refine tkW (i := 21) (v := ?_) rfl rfl ?_ ?_; rotate_left; (focus (intro w hSw; (try dsimp only at hSw); go_simp; first | done | with_reducible rfl)); (simp only [Act.at, setIfInBounds_toArray, set_cons_zero, set_cons_succ]))
                | (refine tkU (i := 21) rfl rfl ?_; (simp only [Act.at, setIfInBounds_toArray, set_cons_zero, set_cons_succ]))
                first
                | (refine tkW (i := 22) (v := ?_) rfl rfl ?_ ?_; rotate_left; (focus (intro w hSw; (try dsimp only at hSw); go_simp; first | done | with_reducible rfl)); (simp only [Act.at, setIfInBounds_toArray, set_cons_zero, set_cons_succ]))
                | (refine tkU (i := 22) rfl rfl ?_; (simp only [Act.at, setIfInBounds_toArray, set_cons_zero, set_cons_succ]))
                first
                | (refine tkW (i := 23) (v := ?_) rfl rfl ?_ ?_; rotate_left; (focus (intro w hSw; (try dsimp only at hSw); go_simp; first | done | with_reducible rfl)); (simp only [Act.at, setIfInBounds_toArray, set_cons_zero, set_cons_succ]))
                | (refine tkU (i := 23) rfl rfl ?_; (simp only [Act.at, setIfInBounds_toArray, set_cons_zero, set_cons_succ]))
                first
                | (refine tkW (i := 24) (v := ?_) rfl rfl ?_ ?_; rotate_left; (focus (intro w hSw; (try dsimp only at hSw); go_simp; first | done | with_reducible rfl)); (simp only [Act.at, setIfInBounds_toArray, set_cons_zero, set_cons_succ]))
                | (refine tkU (i := 24) rfl rfl ?_; (simp only [Act.at, setIfInBounds_toArray, set_cons_zero, set_cons_succ]))
                first
                | (refine tkW (i := 25) (v := ?_) rfl rfl ?_ ?_; rotate_left; (focus (intro w hSw; (try dsimp only at hSw); go_simp; first | done | with_reducible rfl)); (simp only [Act.at, setIfInBounds_toArray, set_cons_zero, set_cons_succ]))
                | (refine tkU (i := 25) rfl rfl ?_; (simp only [Act.at, setIfInBounds_toArray, set_cons_zero, set_cons_succ]))
                first
                | (refine tkW (i := 26) (v := ?_) rfl rfl ?_ ?_; rotate_left; (focus (intro w hSw; (try dsimp only at hSw); go_simp; first | done | with_reducible rfl)); (simp only [Act.at, setIfInBounds_toArray, set_cons_zero, set_cons_succ]))
                | (refine tkU (i := 26) rfl rfl ?_; (simp only [Act.at, setIfInBounds_toArray, set_cons_zero, set_cons_succ]))
                first
                | (refine tkW (i := 27) (v := ?_) rfl rfl ?_ ?_; rotate_left; (focus (intro w hSw; (try dsimp only at hSw); go_simp; first | done | with_reducible rfl)); (simp only [Act.at, setIfInBounds_toArray, set_cons_zero, set_cons_succ]))
                | (refine tkU (i := 27) rfl rfl ?_; (simp only [Act.at, setIfInBounds_toArray, set_cons_zero, set_cons_succ]))
                refine wpAnyH_done (by kernel_rfl) ?_ _
                go_wp2_with fail
                go_roundg n
                case measure => omega
                case rel => exact ⟨k + 1, by have := HN.out; omega, by go_num, ⟨true, rfl, Lib.hid (HUP.out _ (by rw [HH.out]; rfl))⟩, Lib.hid hbd2⟩
              · have hkz : ((k : Int) == 0) = false := by rw [beq_eq_false_iff_ne]; omega
                obtain ⟨y, hy, hcy⟩ := HPV.out (by omega)
                obtain ⟨k1, hk1⟩ : ∃ k1 : Nat, k1 = k - 1 := ⟨_, rfl⟩
                rw [← hk1] at hcy
                have hdec : IntKind.i64.wrap ((k : Int) - 1) = (k1 : Int) := by
                  have h1 := HIN.out.1.mb
                  have h2 := HIN.out.1.lb
                  dsimp only at h2
                  rw [IntKind.wrap_i64]
                  omega
                have hk1c : (k1 : Int) < (H.length : Int) := by omega
                have hk10 : (0 : Int) ≤ (k1 : Int) := by omega
                have HH : Hid (Ev.holdOk H k = bytesLess y x) := Lib.hid (by
                  rw [HO.out, hy]
                  have : (k == 0) = false := by rw [beq_eq_false_iff_ne]; exact hz
                  rw [this]
                  rfl)
                have hx : HoldS b0 bh oh (oh + k) (oh + k1) H.length cb x y wr.drew := ⟨z6, hck, hcy⟩
                clear hck HO HPV hy hz hk1 hcy
                go_upto_region 6 with fail
                clear z6
                refine wp_region_held_drew (S := HoldS b0 bh oh (oh + k) (oh + k1) H.length cb x y) (by kernel_rfl) hx (fun hHeld => ?_)
                first
                | (refine tkW (i := 0) (v := ?_) rfl rfl ?_ ?_; rotate_left; (focus (intro w hSw; (try dsimp only at hSw); go_simp; first | done | with_reducible rfl)); (simp only [Act.at, setIfInBounds_toArray, set_cons_zero, set_cons_succ]))
                | (refine tkU (i := 0) rfl rfl ?_; (simp only [Act.at, setIfInBounds_toArray, set_cons_zero, set_cons_succ]))
                first
                | (refine tkW (i := 1) (v := ?_) rfl rfl ?_ ?_; rotate_left; (focus (intro w hSw; (try dsimp only at hSw); go_simp; first | done | with_reducible rfl)); (simp only [Act.at, setIfInBounds_toArray, set_cons_zero, set_cons_succ]))
                | (refine tkU (i := 1) rfl rfl ?_; (simp only [Act.at, setIfInBounds_toArray, set_cons_zero, set_cons_succ]))
                first
                | (refine tkW (i := 2) (v := ?_) rfl rfl ?_ ?_; rotate_left; (focus (intro w hSw; (try dsimp only at hSw); go_simp; first | done | with_reducible rfl)); (simp only [Act.at, setIfInBounds_toArray, set_cons_zero, set_cons_succ]))
                | (refine tkU (i := 2) rfl rfl ?_; (simp only [Act.at, setIfInBounds_toArray, set_cons_zero, set_cons_succ]))
                first
                | (refine tkW (i := 3) (v := ?_) rfl rfl ?_ ?_; rotate_left; (focus (intro w hSw; (try dsimp only at hSw); go_simp; first | done | with_reducible rfl)); (simp only [Act.at, setIfInBounds_toArray, set_cons_zero, set_cons_succ]))
                | (refine tkU (i := 3) rfl rfl ?_; (simp only [Act.at, setIfInBounds_toArray, set_cons_zero, set_cons_succ]))
                first
                | (refine tkW (i := 4) (v := ?_) rfl rfl ?_ ?_; rotate_left; (focus (intro w hSw; (try dsimp only at hSw); go_simp; first | done | with_reducible rfl)); (simp only [Act.at, setIfInBounds_toArray, set_cons_zero, set_cons_succ]))
                | (refine tkU (i := 4) rfl rfl ?_; (simp only [Act.at, setIfInBounds_toArray, set_cons_zero, set_cons_succ]))
                first
                | (refine tkW (i := 5) (v := ?_) rfl rfl ?_ ?_; rotate_left; (focus (intro w hSw; (try dsimp only at hSw); go_simp; first | done | with_reducible rfl)); (simp only [Act.at, setIfInBounds_toArray, set_cons_zero, set_cons_succ]))
                | (refine tkU (i := 5) rfl rfl ?_; (simp only [Act.at, setIfInBounds_toArray, set_cons_zero, set_cons_succ]))
                first
                | (refine tkW (i := 6) (v := ?_) rfl rfl ?_ ?_; rotate_left; (focus (intro w hSw; (try dsimp only at hSw); go_simp; first | done | with_reducible rfl)); (simp only [Act.at, setIfInBounds_toArray, set_cons_zero, set_cons_succ]))
                | (refine tkU (i := 6) rfl rfl ?_; (simp only [Act.at, setIfInBounds_toArray, set_cons_zero, set_cons_succ]))
                refine take_call (i := 7) (by kernel_rfl) rfl rfl (by rfl) (fun K hK => ?_)
                go_simp
                refine (HW.out _).mono ?_
                rintro r w2 ⟨rfl, hb2⟩
                have hx2 : HoldS b0 bh oh (oh + k) (oh + k1) H.length cb x y w2 := ⟨(World.cell?_of_block (hb2.block b0 (hbl hbd).1)).trans hx.1, (World.cell?_of_block (hb2.block bh (hbl hbd).2)).trans hx.2.1, (World.cell?_of_block (hb2.block bh (hbl hbd).2)).trans hx.2.2⟩
                have hbd2 := hbd.trans (hb2.mono hbd.size)
                clear hx hHeld hb2 hbd HW
                refine hK.out _ _ hx2 (fun hHeld => ?_)
                clear hK K
                try simp only [Act.put, setIfInBounds_toArray, set_cons_zero, set_cons_succ]
                first
                | (refine tkW (i := 8) (v := ?_) rfl rfl ?_ ?_; rotate_left; (focus (intro w hSw; (try dsimp only at hSw); go_simp; first | done | with_reducible rfl)); (simp only [Act.at, setIfInBounds_toArray, set_cons_zero, set_cons_succ]))
                | (refine tkU (i := 8) rfl rfl ?_; (simp only [Act.at, setIfInBounds_toArray, set_cons_zero, set_cons_succ]))
                first
                | (refine tkW (i := 9) (v := ?_) rfl rfl ?_ ?_; rotate_left; (focus (intro w hSw; (try dsimp only at hSw); go_simp; first | done | with_reducible rfl)); (simp only [Act.at, setIfInBounds_toArray, set_cons_zero, set_cons_succ]))
                | (refine tkU (i := 9) rfl rfl ?_; (simp only [Act.at, setIfInBounds_toArray, set_cons_zero, set_cons_succ]))
                first
                | (refine tkW (i := 10) (v := ?_) rfl rfl ?_ ?_; rotate_left; (focus (intro w hSw; (try dsimp only at hSw); go_simp; first | done | with_reducible rfl)); (simp only [Act.at, setIfInBounds_toArray, set_cons_zero, set_cons_succ]))
                | (refine tkU (i := 10) rfl rfl ?_; (simp only [Act.at, setIfInBounds_toArray, set_cons_zero, set_cons_succ]))
                first
                | (refine tkW (i := 11) (v := ?_) rfl rfl ?_ ?_; rotate_left; (focus (intro w hSw; (try dsimp only at hSw); go_simp; first | done | with_reducible rfl)); (simp only [Act.at, setIfInBounds_toArray, set_cons_zero, set_cons_succ]))
                | (refine tkU (i := 11) rfl rfl ?_; (simp only [Act.at, setIfInBounds_toArray, set_cons_zero, set_cons_succ]))
                first
                | (refine tkW (i := 12) (v := ?_) rfl rfl ?_ ?_; rotate_left; (focus (intro w hSw; (try dsimp only at hSw); go_simp; first | done | with_reducible rfl)); (simp only [Act.at, setIfInBounds_toArray, set_cons_zero, set_cons_succ]))
                | (refine tkU (i := 12) rfl rfl ?_; (simp only [Act.at, setIfInBounds_toArray, set_cons_zero, set_cons_succ]))
                first
                | (refine tkW (i := 13) (v := ?_) rfl rfl ?_ ?_; rotate_left; (focus (intro w hSw; (try dsimp only at hSw); go_simp; first | done | with_reducible rfl)); (simp only [Act.at, setIfInBounds_toArray, set_cons_zero, set_cons_succ]))
                | (refine tkU (i := 13) rfl rfl ?_; (simp only [Act.at, setIfInBounds_toArray, set_cons_zero, set_cons_succ]))
                first
                | (refine tkW (i := 14) (v := ?_) rfl rfl ?_ ?_; rotate_left; (focus (intro w hSw; (try dsimp only at hSw); go_simp; first | done | with_reducible rfl)); (simp only [Act.at, setIfInBounds_toArray, set_cons_zero, set_cons_succ]))
                | (refine tkU (i := 14) rfl rfl ?_; (simp only [Act.at, setIfInBounds_toArray, set_cons_zero, set_cons_succ]))
                first
                | (refine tkW (i := 15) (v := ?_) rfl rfl ?_ ?_; rotate_left; (focus (intro w hSw; (try dsimp only at hSw); go_simp; first | done | with_reducible rfl)); (simp only [Act.at, setIfInBounds_toArray, set_cons_zero, set_cons_succ]))
                | (refine tkU (i := 15) rfl rfl ?_; (simp only [Act.at, setIfInBounds_toArray, set_cons_zero, set_cons_succ]))
                first
                | (refine tkW (i := 16) (v := ?_) rfl rfl ?_ ?_; rotate_left; (focus (intro w hSw; (try dsimp only at hSw); go_simp; first | done | with_reducible rfl)); (simp only [Act.at, setIfInBounds_toArray, set_cons_zero, set_cons_succ]))
                | (refine tkU (i := 16) rfl rfl ?_; (simp only [Act.at, setIfInBounds_toArray, set_cons_zero, set_cons_succ]))
                first
                | (refine tkW (i := 17) (v := ?_) rfl rfl ?_ ?_; rotate_left; (focus (intro w hSw; (try dsimp only at hSw); go_simp; first | done | with_reducible rfl)); (simp only [Act.at, setIfInBounds_toArray, set_cons_zero, set_cons_succ]))
                | (refine tkU (i := 17) rfl rfl ?_; (simp only [Act.at, setIfInBounds_toArray, set_cons_zero, set_cons_succ]))
                first
                | (refine tkW (i := 18) (v := ?_) rfl rfl ?_ ?_; rotate_left; (focus (intro w hSw; (try dsimp only at hSw); go_simp; first | done | with_reducible rfl)); (simp only [Act.at, setIfInBounds_toArray, set_cons_zero, set_cons_succ]))
                | (refine tkU (i := 18) rfl rfl ?_; (simp only [Act.at, setIfInBounds_toArray, set_cons_zero, set_cons_succ]))
                first
                | (refine tkW (i := 19) (v := ?_) rfl rfl ?_ ?_; rotate_left; (focus (intro w hSw; (try dsimp only at hSw); go_simp; first | done | with_reducible rfl)); (simp only [Act.at, setIfInBounds_toArray, set_cons_zero, set_cons_succ]))
                | (refine tkU (i := 19) rfl rfl ?_; (simp only [Act.at, setIfInBounds_toArray, set_cons_zero, set_cons_succ]))
                first
                | (refine tkW (i := 20) (v := ?_) rfl rfl ?_ ?_; rotate_left; (focus (intro w hSw; (try dsimp only at hSw); go_simp; first | done | with_reducible rfl)); (simp only [Act.at, setIfInBounds_toArray, set_cons_zero, set_cons_succ]))
                | (refine tkU (i := 20) rfl rfl ?_; (simp only [Act.at, setIfInBounds_toArray, set_cons_zero, set_cons_succ]))
                first
                | (refine tkW (i := 21) (v := ?_) rfl rfl ?_ ?_; rotate_left; (focus (intro w hSw; (try dsimp only at hSw); go_simp; first | done | with_reducible rfl)); (simp only [Act.at, setIfInBounds_toArray, set_cons_zero, set_cons_succ]))
                | (refine tkU (i := 21) rfl rfl ?_; (simp only [Act.at, setIfInBounds_toArray, set_cons_zero, set_cons_succ]))
                first
                | (refine tkW (i := 22) (v := ?_) rfl rfl ?_ ?_; rotate_left; (focus (intro w hSw; (try dsimp only at hSw); go_simp; first | done | with_reducible rfl)); (simp only [Act.at, setIfInBounds_toArray, set_cons_zero, set_cons_succ]))
                | (refine tkU (i := 22) rfl rfl ?_; (simp only [Act.at, setIfInBounds_toArray, set_cons_zero, set_cons_succ]))
                first
                | (refine tkW (i := 23) (v := ?_) rfl rfl ?_ ?_; rotate_left; (focus (intro w hSw; (try dsimp only at hSw); go_simp; first | done | with_reducible rfl)); (simp only [Act.at, setIfInBounds_toArray, set_cons_zero, set_cons_succ]))
                | (refine tkU (i := 23) rfl rfl ?_; (simp only [Act.at, setIfInBounds_toArray, set_cons_zero, set_cons_succ]))
                first
                | (refine tkW (i := 24) (v := ?_) rfl rfl ?_ ?_; rotate_left; (focus (intro w hSw; (try dsimp only at hSw); go_simp; first | done | with_reducible rfl)); (simp only [Act.at, setIfInBounds_toArray, set_cons_zero, set_cons_succ]))
                | (refine tkU (i := 24) rfl rfl ?_; (simp only [Act.at, setIfInBounds_toArray, set_cons_zero, set_cons_succ]))
                first
                | (refine tkW (i := 25) (v := ?_) rfl rfl ?_ ?_; rotate_left; (focus (intro w hSw; (try dsimp only at hSw); go_simp; first | done | with_reducible rfl)); (simp only [Act.at, setIfInBounds_toArray, set_cons_zero, set_cons_succ]))
                | (refine tkU (i := 25) rfl rfl ?_; (simp only [Act.at, setIfInBounds_toArray, set_cons_zero, set_cons_succ]))
                first
                | (refine tkW (i := 26) (v := ?_) rfl rfl ?_ ?_; rotate_left; (focus (intro w hSw; (try dsimp only at hSw); go_simp; first | done | with_reducible rfl)); (simp only [Act.at, setIfInBounds_toArray, set_cons_zero, set_cons_succ]))
                | (refine tkU (i := 26) rfl rfl ?_; (simp only [Act.at, setIfInBounds_toArray, set_cons_zero, set_cons_succ]))
                first
                | (refine tkW (i := 27) (v := ?_) rfl rfl ?_ ?_; rotate_left; (focus (intro w hSw; (try dsimp only at hSw); go_simp; first | done | with_reducible rfl)); (simp only [Act.at, setIfInBounds_toArray, set_cons_zero, set_cons_succ]))
                | (refine tkU (i := 27) rfl rfl ?_; (simp only [Act.at, setIfInBounds_toArray, set_cons_zero, set_cons_succ]))
                refine wpAnyH_done (by kernel_rfl) ?_ _
                go_wp2_with fail
                go_roundg n
                case measure => omega
                case rel => exact ⟨k + 1, by have := HN.out; omega, by go_num, ⟨_, rfl, Lib.hid (HUP.out _ (by rw [HH.out]; rfl))⟩, Lib.hid hbd2⟩
end Go.Proofs.Ytojemaaljjibiaa
