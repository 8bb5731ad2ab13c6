/-
  The contract of StatePlays.
-/
import Derived.Test.YtojemaaljjibiaaPStaStands
import Derived.Test.YtojemaaljjibiaaPStaBoth
import Derived.Test.YtojemaaljjibiaaPStatePledges
namespace Go.Proofs.Ytojemaaljjibiaa
open Go.RowKit
set_option linter.unusedVariables false

/-- Where StatePlays stands. -/
abbrev PlayAt (w : World) (q p n k : Nat) (W : World) : Prop := ∃ s t st, Both w q p s t st n k W
set_option maxRecDepth 100000 in
set_option maxHeartbeats 16000000 in
theorem statePlays_any {w : World} {La : List EvX} {A : Option Addr} {ca : Nat} (hra : RowV w [] A La) (hla : La.length ≤ ca) (hca : ca ≤ 9223372036854775807) :
    Calls Try.prog 3 #[.slice A La.length ca] w fun r w' => r = .returned (.bool true) ∧ Below w.heap.size w w' := by
  have HN := Lib.hid (stNew w [] (by simp))
  have HR := Lib.hid hra
  have HAW := Lib.hid sawake_any
  clear hra
  go_enter Try.func3, Try.ntmps3
  go_wp2_with fail
  refine HN.out.mono ?_
  rintro r w1 ⟨q, s0, rfl, h1, hs1, hb1⟩
  obtain ⟨p, hpe⟩ : ∃ p, w1.heap.size = p := ⟨_, rfl⟩
  have hba := stBox w1 (.cells #[.slice none 0 0, .slice none 0 0, .int .i64 0] 29)
  have HB0 : Hid (Both w q p s0 [] Sta.zero 0 0 (w1.alloc (.cells #[.slice none 0 0, .slice none 0 0, .int .i64 0] 29))) := Lib.hid (by
    have hlt := h1.lt
    refine ⟨hb1.trans (hba.mono hb1.size), h1.frame (Mv.of_below hba []) (by simp) (by simp) (fun x hx => Or.inr (by rw [List.mem_singleton.1 hx]; omega)) (fun x hx => by rw [List.mem_singleton.1 hx, asize]; omega), ?_, fun x hx => ?_, fun x hx hx2 => ?_, Sta.Inv.zero, Nat.zero_le _, Nat.le_refl _⟩
    · rw [← hpe]
      exact RefS.zero w1 (q :: s0) (fun x hx => by
        rcases List.mem_cons.1 hx with rfl | hx
        · exact hlt.1
        · exact hlt.2 x hx)
    · rcases List.mem_append.1 hx with hx | hx
      · exact hs1 x hx
      · rw [List.mem_singleton.1 hx]; have := hb1.size; omega
    · rw [List.mem_singleton.1 hx2] at hx
      rcases List.mem_cons.1 hx with rfl | hx
      · omega
      · have := hlt.2 p hx; omega)
  clear h1 hs1 hb1 hba HN
  go_upto_region 3 with fail
  generalize w1.alloc (.cells #[.slice none 0 0, .slice none 0 0, .int .i64 0] 29) = W1 at HB0 ⊢
  clear hpe
  go_wp2_with fail
  go_loopg [5, 6] 40 (fun m v5 v6 wr => ∃ (k n : Nat), k + m = 40 ∧ k ≤ La.length ∧ v6 = .int .i64 (k : Int) ∧ v5 = .int .i64 (n : Int) ∧ Hid (PlayAt w q p n k wr))
  case atStart => exact ⟨0, 0, by omega, Nat.zero_le _, rfl, rfl, Lib.hid ⟨s0, [], Sta.zero, HB0.out⟩⟩
  case round =>
    obtain ⟨k, n, hkn, hkL, rfl, rfl, HPS⟩ := hrel
    by_cases hlt : k < La.length ∧ k < 40
    · have hki : (k : Int) < (La.length : Int) := by omega
      have hki2 : (k : Int) < 40 := by omega
      have hk0 : (0 : Int) ≤ (k : Int) := by omega
      have hkc : (k : Int) < (ca : Int) := by omega
      have hinc : IntKind.i64.wrap ((k : Int) + 1) = (k : Int) + 1 := by rw [IntKind.wrap_i64]; omega
      obtain ⟨m, hn⟩ : ∃ m, gk = m + 1 := ⟨gk - 1, by omega⟩
      subst hn
      obtain ⟨s, t, st, hbo⟩ := HPS.out
      have hnk := hbo.hn
      have hincn : IntKind.i64.wrap ((n : Int) + 1) = (n : Int) + 1 := by rw [IntKind.wrap_i64]; omega
      obtain ⟨b, off, hA, hbw, -, p0⟩ := RowV.get HR.out k hlt.1
      subst hA
      obtain ⟨x, hx⟩ : ∃ x, La[k] = x := ⟨_, rfl⟩
      rw [hx] at p0
      have hin0 := HR.out.ents x (by rw [← hx]; exact List.getElem_mem hlt.1)
      have hbW := hbo.bl
      have hfw := fewV_any (EntIn.below hin0 hbW) ((q :: s) ++ (p :: t)) hbo.lt
      have HFV := Lib.hid (few_evtFew x.v)
      have pw : EvC wr b (off + k * 14) x := fun j u hu => (hbW.cell (p := ⟨b, off + k * 14 + j, none⟩) hbw).trans (p0 j u hu)
      obtain ⟨⟨kind, ⟨id, cls, born, slot, L2, gone, H2⟩, seq, idx, name, size, root, now⟩, xA, xca, xB, xcb⟩ := x
      have c0 := pw 0 _ rfl
      have c1' := pw 1 _ rfl
      have c2 := pw 2 _ rfl
      have c3 := pw 3 _ rfl
      have c4 := pw 4 _ rfl
      have c5 := pw 5 _ rfl
      have c6 := pw 6 _ rfl
      have c7 := pw 7 _ rfl
      have c8 := pw 8 _ rfl
      have c9 := pw 9 _ rfl
      have c10 := pw 10 _ rfl
      have c11 := pw 11 _ rfl
      have c12 := pw 12 _ rfl
      have c13 := pw 13 _ rfl
      simp only [Nat.add_zero] at c0
      dsimp only at c0 c1' c2 c3 c4 c5 c6 c7 c8 c9 c10 c11 c12 c13 hfw HFV
      generalize Ev.few ⟨kind, ⟨id, cls, born, slot, L2, gone, H2⟩, seq, idx, name, size, root, now⟩ = u at hfw HFV
      unfold Evt.val at hfw
      dsimp only at hfw
      have HFW := Lib.hid hfw
      have HBO := Lib.hid hbo
      have HKN := Lib.hid (And.intro hkn hlt)
      clear hfw hkn pw p0 hin0 hx hbw hbW HPS HB0 hkL hbo
      go_wp2_with fail
      refine HFW.out.mono ?_
      rintro r w2 ⟨A2, B2, ca2, cb2, rfl, hin2, hb2⟩
      have HBO2 := Lib.hid (HBO.out.below hb2)
      clear hb2 HFW HBO c0 c1' c2 c3 c4 c5 c6 c7 c8 c9 c10 c11 c12 c13
      obtain ⟨ukind, ⟨uid, ucls, uborn, uslot, uL, ugone, uH⟩, useq, uidx, uname, usize, uroot, unow⟩ := u
      have hb3 := stBox w2 (.cells #[.int .i64 ukind, .string (S uid), .int .i64 ucls, .int .i64 uborn, .int .i64 uslot, .slice A2 uL.length ca2, .bool ugone, .slice B2 uH.length cb2, .int .i64 useq, .int .i64 uidx, .string (S uname), .int .i64 usize, .string (S uroot), .int .i64 unow] 37)
      have HBO3 := Lib.hid (HBO2.out.below hb3)
      have HIN3 := Lib.hid (EntIn.below hin2 hb3)
      have hbx := Has.made w2 37 #[.int .i64 ukind, .string (S uid), .int .i64 ucls, .int .i64 uborn, .int .i64 uslot, .slice A2 uL.length ca2, .bool ugone, .slice B2 uH.length cb2, .int .i64 useq, .int .i64 uidx, .string (S uname), .int .i64 usize, .string (S uroot), .int .i64 unow]
      have hb7 : w2.heap.size ∉ (q :: s) ++ (p :: t) := fun hx => by have := HBO2.out.lt _ hx; omega
      have hlt7 := hbx.lt
      go_upto_region 8 with fail
      generalize w2.alloc (.cells #[.int .i64 ukind, .string (S uid), .int .i64 ucls, .int .i64 uborn, .int .i64 uslot, .slice A2 uL.length ca2, .bool ugone, .slice B2 uH.length cb2, .int .i64 useq, .int .i64 uidx, .string (S uname), .int .i64 usize, .string (S uroot), .int .i64 unow] 37) = W3 at HBO3 HIN3 hbx hlt7 ⊢
      obtain ⟨b7, hq7⟩ : ∃ b7, w2.heap.size = b7 := ⟨_, rfl⟩
      rw [hq7] at hbx hb7 hlt7 ⊢
      have heb : EvBoxC ukind uid ucls uborn uslot uL.length ugone uH.length useq uidx uname usize uroot unow b7 A2 ca2 B2 cb2 W3 := ⟨hbx.cell 0, hbx.cell 1, hbx.cell 2, hbx.cell 3, hbx.cell 4, hbx.cell 5, hbx.cell 6, hbx.cell 7, hbx.cell 8, hbx.cell 9, hbx.cell 10, hbx.cell 11, hbx.cell 12, hbx.cell 13⟩
      have HE3 := Lib.hid (And.intro heb (And.intro hlt7 hb7))
      clear hin2 hb3 hbx hb7 hlt7 hq7 HBO2
      have HCR := Lib.hid (rcheck_any HBO3.out.b HBO3.out.inv (v := ⟨ukind, ⟨uid, ucls, uborn, uslot, uL, ugone, uH⟩, useq, uidx, uname, usize, uroot, unow⟩) (HIN3.out.sub (t := []) (by simp)) HFV.out)
      unfold Evt.val at HCR
      dsimp only at HCR
      obtain ⟨res, hres⟩ : ∃ res, Sta.check st ⟨ukind, ⟨uid, ucls, uborn, uslot, uL, ugone, uH⟩, useq, uidx, uname, usize, uroot, unow⟩ = res := ⟨_, rfl⟩
      rw [hres] at HCR
      have HRES := Lib.hid hres
      have hnn : (res != res) = false := by simp
      clear hres
      obtain ⟨y0, y1, y2, y3, y4, y5, y6, y7, y8, y9, y10, y11, y12, y13⟩ := heb
      go_wp2_with fail
      refine HCR.out.mono ?_
      rintro r w4 ⟨rfl, hb4⟩
      have HBO4 := Lib.hid (HBO3.out.below hb4)
      have HIN4 := Lib.hid (HIN3.out.below hb4)
      have heb4 : EvBoxC ukind uid ucls uborn uslot uL.length ugone uH.length useq uidx uname usize uroot unow b7 A2 ca2 B2 cb2 w4 := EvBoxC.keep HE3.out.1 (hb4.block b7 HE3.out.2.1)
      have HE4 := Lib.hid (And.intro heb4 (And.intro (Nat.lt_of_lt_of_le HE3.out.2.1 hb4.size) HE3.out.2.2))
      clear hb4 HCR HBO3 HIN3 HE3 y0 y1 y2 y3 y4 y5 y6 y7 y8 y9 y10 y11 y12 y13
      have HCS := Lib.hid (stCheck HBO4.out.a HBO4.out.inv (by have := HBO4.out.hq; have := HKN.out; omega) (v := ⟨ukind, ⟨uid, ucls, uborn, uslot, uL, ugone, uH⟩, useq, uidx, uname, usize, uroot, unow⟩) (HIN4.out.sub (t := []) (by simp)) HFV.out)
      unfold Evt.val at HCS
      dsimp only at HCS
      rw [HRES.out] at HCS
      obtain ⟨y0, y1, y2, y3, y4, y5, y6, y7, y8, y9, y10, y11, y12, y13⟩ := heb4
      go_wp2_with fail
      refine HCS.out.mono ?_
      rintro r w5 ⟨rfl, hb5⟩
      have HBO5 := Lib.hid (HBO4.out.below hb5)
      have HIN5 := Lib.hid (HIN4.out.below hb5)
      have heb5 : EvBoxC ukind uid ucls uborn uslot uL.length ugone uH.length useq uidx uname usize uroot unow b7 A2 ca2 B2 cb2 w5 := EvBoxC.keep HE4.out.1 (hb5.block b7 HE4.out.2.1)
      have HE5 := Lib.hid (And.intro heb5 (And.intro (Nat.lt_of_lt_of_le HE4.out.2.1 hb5.size) HE4.out.2.2))
      clear hb5 HCS HBO4 HIN4 HE4 y0 y1 y2 y3 y4 y5 y6 y7 y8 y9 y10 y11 y12 y13
      have HAP := Lib.hid (stApply HBO5.out.a HBO5.out.inv (by have := HBO5.out.hq; have := HKN.out; omega) (by have := HBO5.out.hn; have := HKN.out; omega) (v := ⟨ukind, ⟨uid, ucls, uborn, uslot, uL, ugone, uH⟩, useq, uidx, uname, usize, uroot, unow⟩) HIN5.out HFV.out)
      unfold Evt.val at HAP
      dsimp only at HAP
      rw [HRES.out] at HAP
      obtain ⟨y0, y1, y2, y3, y4, y5, y6, y7, y8, y9, y10, y11, y12, y13⟩ := heb5
      go_wp2_with fail
      refine HAP.out.mono ?_
      rintro r w6 ⟨rfl, s', ha6, hm6, hs6⟩
      clear HAP y0 y1 y2 y3 y4 y5 y6 y7 y8 y9 y10 y11 y12 y13
      by_cases hc : res = 0
      · subst hc
        rw [if_pos rfl] at ha6
        have hap : Sta.step st ⟨ukind, ⟨uid, ucls, uborn, uslot, uL, ugone, uH⟩, useq, uidx, uname, usize, uroot, unow⟩ = Sta.apply st ⟨ukind, ⟨uid, ucls, uborn, uslot, uL, ugone, uH⟩, useq, uidx, uname, usize, uroot, unow⟩ := by unfold Sta.step; rw [if_pos HRES.out]
        obtain ⟨g1, g2, g3, g4⟩ := HBO5.out.stepA ha6 hm6 hs6
        have hin6 : EntIn w6 ((p :: t) ++ (q :: s')) ⟨uid, ucls, uborn, uslot, uL, ugone, uH⟩ A2 ca2 B2 cb2 := EntIn.frame HIN5.out hm6 (fun x hx => List.mem_append_left _ hx) (fun x hx => by
          rcases List.mem_append.1 hx with hx | hx
          · exact Or.inl (List.mem_append_right _ hx)
          · rcases List.mem_cons.1 hx with rfl | hx
            · exact Or.inl (by simp)
            · exact (hs6 x hx).imp (fun h => List.mem_append_left _ (List.mem_cons_of_mem _ h)) (fun h => h))
        have HRA := Lib.hid (rapply_any g2 HBO5.out.inv (by have := HBO5.out.hq; have := HKN.out; omega) (v := ⟨ukind, ⟨uid, ucls, uborn, uslot, uL, ugone, uH⟩, useq, uidx, uname, usize, uroot, unow⟩) hin6 HRES.out)
        unfold Evt.val at HRA
        dsimp only at HRA
        have heb6 : EvBoxC ukind uid ucls uborn uslot uL.length ugone uH.length useq uidx uname usize uroot unow b7 A2 ca2 B2 cb2 w6 := EvBoxC.keep HE5.out.1 (hm6.block b7 HE5.out.2.1 (fun hx => HE5.out.2.2 (List.mem_append_left _ hx)))
        have HA6 := Lib.hid (And.intro ha6 (And.intro hm6 (And.intro hs6 hap)))
        clear ha6 hm6 hs6 g1 g2 g3 g4 hin6 hap HIN5 HE5
        obtain ⟨y0, y1, y2, y3, y4, y5, y6, y7, y8, y9, y10, y11, y12, y13⟩ := heb6
        go_wp2_with fail
        refine HRA.out.mono ?_
        rintro r w7 ⟨rfl, t', hr7, hm7, ht7⟩
        rw [← HA6.out.2.2.2] at hr7
        have HBO7 := Lib.hid (HBO5.out.yes HA6.out.1 HA6.out.2.1 HA6.out.2.2.1 hr7 hm7 ht7)
        clear hr7 hm7 ht7 HRA HA6 HBO5 HRES y0 y1 y2 y3 y4 y5 y6 y7 y8 y9 y10 y11 y12 y13
        have HSTD := Lib.hid (stands_any HBO7.out.a HBO7.out.inv (by have := HBO7.out.hq; have := HKN.out; omega) HBO7.out.b)
        go_wp2_with fail
        refine HSTD.out.mono ?_
        rintro r w8 ⟨rfl, hb8⟩
        have HBO8 := Lib.hid (HBO7.out.below hb8)
        have HEV := Lib.hid (stEvents HBO8.out.a)
        rw [show ((n + 1 : Nat) : Int) = (n : Int) + 1 from by omega] at HEV
        clear hb8 HSTD HBO7
        have hnn2 : (((n : Int) + 1) != ((n : Int) + 1)) = false := by simp
        go_wp2_with fail
        refine HEV.out.mono ?_
        rintro r w9 ⟨rfl, hb9⟩
        have HBO9 := Lib.hid (HBO8.out.below hb9)
        clear hb9 HEV HBO8
        go_wp2_with fail
        go_roundg m
        case measure => omega
        case rel => exact ⟨k + 1, n + 1, by have := HKN.out; omega, by have := HKN.out; omega, by go_num, by go_num, Lib.hid ⟨_, _, _, HBO9.out⟩⟩
      · rw [if_neg hc] at ha6
        have hst : Sta.step st ⟨ukind, ⟨uid, ucls, uborn, uslot, uL, ugone, uH⟩, useq, uidx, uname, usize, uroot, unow⟩ = st := by unfold Sta.step; rw [if_neg (by rw [HRES.out]; exact hc)]
        rw [hst] at ha6
        have HBO7 := Lib.hid (HBO5.out.no ha6 hm6 hs6)
        have hcb : (res == 0) = false := beq_eq_false_iff_ne.2 hc
        clear ha6 hm6 hs6 hst HIN5 HE5 HBO5 hc HRES
        have HSTD := Lib.hid (stands_any HBO7.out.a HBO7.out.inv (by have := HBO7.out.hq; have := HKN.out; omega) HBO7.out.b)
        go_wp2_with fail
        refine HSTD.out.mono ?_
        rintro r w8 ⟨rfl, hb8⟩
        have HBO8 := Lib.hid (HBO7.out.below hb8)
        have HEV := Lib.hid (stEvents HBO8.out.a)
        clear hb8 HSTD HBO7
        have hnn2 : ((n : Int) != (n : Int)) = false := by simp
        go_wp2_with fail
        refine HEV.out.mono ?_
        rintro r w9 ⟨rfl, hb9⟩
        have HBO9 := Lib.hid (HBO8.out.below hb9)
        clear hb9 HEV HBO8
        go_wp2_with fail
        go_roundg m
        case measure => omega
        case rel => exact ⟨k + 1, n, by have := HKN.out; omega, by have := HKN.out; omega, by go_num, rfl, Lib.hid ⟨_, _, _, HBO9.out⟩⟩
    · have HFB : Hid (Below w.heap.size w wr) := Lib.hid (by obtain ⟨s, t, st, h⟩ := HPS.out; exact h.bl)
      by_cases hL : k < La.length
      · have hki : (k : Int) < (La.length : Int) := by omega
        have hki2 : ¬ (k : Int) < 40 := by omega
        clear hkn HPS
        go_wp2_with fail
        refine (HAW.out _).mono ?_
        rintro r wz ⟨rfl, hbz⟩
        have HBZ := Lib.hid (HFB.out.trans (hbz.mono HFB.out.size))
        clear hbz
        go_wp2_with fail
        go_ret
        exact ⟨rfl, HBZ.out⟩
      · have hki : ¬ (k : Int) < (La.length : Int) := by omega
        clear hkn HPS
        go_wp2_with fail
        refine (HAW.out _).mono ?_
        rintro r wz ⟨rfl, hbz⟩
        have HBZ := Lib.hid (HFB.out.trans (hbz.mono HFB.out.size))
        clear hbz
        go_wp2_with fail
        go_ret
        exact ⟨rfl, HBZ.out⟩
end Go.Proofs.Ytojemaaljjibiaa
