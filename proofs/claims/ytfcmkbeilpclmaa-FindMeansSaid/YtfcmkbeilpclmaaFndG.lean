/-
  The contract of find's matches.
-/
import Derived.Test.YtfcmkbeilpclmaaFndC
import Derived.Deep.AppendLies
import Derived.Laws.CopyOwn
import Derived.Laws.OwnMore
namespace Go.Proofs.Ytfcmkbeilpclmaa
open Go.RowKit Go.Lib
set_option linter.unusedVariables false

/-- Places as values. -/
def nvs (L : List Nat) : List Value := L.map fun (x : Nat) => .int .i64 (x : Int)
theorem nvs_len (L : List Nat) : (nvs L).length = L.length := by unfold nvs; rw [List.length_map]
theorem nvs_snoc (L : List Nat) (x : Nat) : nvs L ++ [.int .i64 (x : Int)] = nvs (L ++ [x]) := by simp [nvs]
theorem fIntInfo : (Try.prog.info? 3).map (fun i => (i.zero, i.size, i.bytes)) = some (some (.int .i64 0), 1, 8) := by kernel_rfl
theorem madeInt (w : World) (x : Int) {T : TypeId} : ∀ (j : Nat) (u : Value), ([.int .i64 x] : List Value)[j]? = some u → (w.alloc (.cells #[.int .i64 x] T)).cell? ((⟨w.heap.size, 0, none⟩ : Addr).add j) = some u := by
  intro j u hu
  rw [add_flat', Nat.zero_add, (Has.made w T #[.int .i64 x]).cell j]
  rw [← hu]
  exact List.getElem?_toArray ..
theorem fndGrownG {B : Nat} {w w3 w5 : World} {row : Option Nat} (h : Below B w w3) (hg : w3.grownBy w5 row) (hB : B ≤ w3.heap.size) (hr : ∀ k, row = some k → B ≤ k) : Below B w w5 :=
  ⟨hg.os.trans h.os, hg.tape.trans h.tape, hg.output.trans h.output, Nat.le_trans h.size hg.size, fun i hi => (hg.block i (Nat.lt_of_lt_of_le hi hB) (fun e => by have := hr i e.symm; omega)).trans (h.block i hi)⟩
namespace Fnd
theorem all_T (T : List Trm) (n n2 : List UInt8) (d d2 : Bool) (m m2 : Int) (L : List (List Fld)) (i : Nat) : all ⟨T, n, d, m⟩ L i = all ⟨T, n2, d2, m2⟩ L i := rfl
theorem all_take_all {α : Type} (f : α → Bool) (T : List α) (j : Nat) (h : j < T.length) (ha : (T.take j).all f = true) : (T.take (j + 1)).all f = f T[j] := by
  rw [List.take_succ_eq_append_getElem h, List.all_append, ha]
  simp
theorem all_no {α : Type} (f : α → Bool) (T : List α) (j : Nat) (h : j < T.length) (hf : f T[j] = false) : T.all f = false := by
  rw [List.all_eq_false]
  exact ⟨T[j], List.getElem_mem h, by rw [hf]; decide⟩
end Fnd
set_option maxHeartbeats 16000000 in
set_option maxRecDepth 100000 in
theorem matches_any {w : World} {T : List Fnd.Trm} {A B : Option Addr} {cap capB : Nat} {L : List Ppr} (nm : List UInt8) (d : Bool) (m : Int) (hrow : RowTm w A T) (hok : ∀ t ∈ T, t.Ok) (hL : RowPp w B L) (hT : T.length ≤ 1000000) (hLl : L.length ≤ 1000000) :
    Calls Try.prog 34 #[.slice A T.length cap, .slice B L.length capB] w fun r w' => ∃ v, r = .returned v ∧ w'.ownsRow w.heap.size 3 1 v (Fnd.found ⟨T, nm, d, m⟩ (L.map Ppr.L) L.length).length (nvs (Fnd.found ⟨T, nm, d, m⟩ (L.map Ppr.L) L.length)) ∧ Below w.heap.size w w' := by
  obtain ⟨i0, hi0, hz0, hz1, hz2⟩ := info_parts fIntInfo
  have HI := Lib.hid (And.intro hi0 (And.intro hz0 (And.intro hz1 hz2)))
  clear hi0 hz0 hz1 hz2
  have HROW := Lib.hid hrow
  have HOK := Lib.hid hok
  have HL := Lib.hid hL
  clear hrow hok hL
  have hfl : ∀ k, (Fnd.found ⟨T, nm, d, m⟩ (L.map Ppr.L) k).length ≤ k := fun k => by
    unfold Fnd.found
    have := List.length_filter_le (Fnd.all ⟨T, nm, d, m⟩ (L.map Ppr.L)) (List.range k)
    rw [List.length_range] at this
    exact this
  have HFL := Lib.hid hfl; clear hfl
  have HY : Hid (∀ k, Fnd.all ⟨T, nm, d, m⟩ (L.map Ppr.L) k = true → Fnd.found ⟨T, nm, d, m⟩ (L.map Ppr.L) (k + 1) = Fnd.found ⟨T, nm, d, m⟩ (L.map Ppr.L) k ++ [k]) := fun k h => Fnd.found_yes h
  have HN : Hid (∀ k, Fnd.all ⟨T, nm, d, m⟩ (L.map Ppr.L) k = false → Fnd.found ⟨T, nm, d, m⟩ (L.map Ppr.L) (k + 1) = Fnd.found ⟨T, nm, d, m⟩ (L.map Ppr.L) k) := fun k h => Fnd.found_no h
  have HA : Hid (∀ k (h : k < L.length), Fnd.all ⟨T, nm, d, m⟩ (L.map Ppr.L) k = T.all fun t => Fnd.holds t (L[k]).L) := fun k h => by
    unfold Fnd.all
    rw [List.getD_eq_getElem?_getD, List.getElem?_map, List.getElem?_eq_getElem h]
    rfl
  have H0 : Hid (Fnd.found ⟨T, nm, d, m⟩ (L.map Ppr.L) 0 = []) := rfl
  generalize Fnd.found ⟨T, nm, d, m⟩ (L.map Ppr.L) = F at HFL HY HN H0 ⊢
  generalize Fnd.all ⟨T, nm, d, m⟩ (L.map Ppr.L) = AL at HY HN HA
  generalize hb0 : w.heap.size = b0
  have HROW0 : Hid (∀ W, Below b0 w W → RowTm W A T ∧ RowPp W B L) := fun W hb => ⟨HROW.out.below (by rw [hb0]; exact hb), HL.out.below (by rw [hb0]; exact hb)⟩
  clear HROW HL
  have HB0 := Lib.hid hb0
  go_enter Try.func34, Try.ntmps34
  go_wp2_with fail
  go_step3
  go_wp2_with fail
  go_step3
  go_wp2_with fail
  go_loopg [5, 12] L.length (fun g1 v5 v12 wr => ∃ k : Nat, k ≤ L.length ∧ v12 = .int .i64 (k : Int) ∧ L.length - k ≤ g1 ∧ wr.ownsRow b0 3 1 v5 (F k).length (nvs (F k)) ∧ Below b0 w wr)
  case atStart => exact ⟨0, Nat.zero_le _, rfl, by omega, by rw [H0.out]; exact World.ownsRow_nil _ _ _ _, Below.refl _ _⟩
  case round =>
    obtain ⟨k, hk, rfl, hg, hown, hbk⟩ := hrel
    obtain ⟨hFk, hPk⟩ := HROW0.out _ hbk
    by_cases hlt : k < L.length
    · have hki : (k : Int) < (L.length : Int) := by omega
      have hki0 : (0 : Int) ≤ (k : Int) := by omega
      obtain ⟨bp, op, rfl, hbp, p0, p1, p2, hpin⟩ := RowPp.get hPk k hlt
      have hA := HA.out k hlt
      generalize L[k] = P at p0 p1 p2 hpin hA
      obtain ⟨id, cls, PA, PL, pcap, pb⟩ := P
      dsimp only at p0 p1 p2 hA
      have hV := Has.made wr 27 #[.string (S id), .int .i64 cls, .slice PA PL.length pcap]
      have hBV := hbk.trans ((up1 (w := wr) (.cells #[.string (S id), .int .i64 cls, .slice PA PL.length pcap] 27)).mono (by have := hbk.size; rw [HB0.out] at this; exact this))
      have hpin2 := hpin.below (up1 (w := wr) (.cells #[.string (S id), .int .i64 cls, .slice PA PL.length pcap] 27))
      have hown2 := hown.alloc (.cells #[.string (S id), .int .i64 cls, .slice PA PL.length pcap] 27)
      have hgl : b0 ≤ wr.heap.size := by have := hbk.size; rw [HB0.out] at this; exact this
      have hsz := asize wr (.cells #[.string (S id), .int .i64 cls, .slice PA PL.length pcap] 27)
      clear hpin hown hPk hFk
      go_upto_region 5 with fail
      clear p0 p1 p2
      generalize wr.alloc (.cells #[.string (S id), .int .i64 cls, .slice PA PL.length pcap] 27) = W2 at hV hBV hpin2 hown2 hsz ⊢
      generalize wr.heap.size = g2 at hV hgl hsz ⊢
      have hg2l : g2 < W2.heap.size := by omega
      have HV := Lib.hid hV
      have HBV := Lib.hid hBV
      have HOWN := Lib.hid hown2
      have HIN := Lib.hid hpin2
      have HAE := Lib.hid hA
      clear hV hBV hown2 hpin2 hA hbk hsz
      go_wp2_with fail
      go_loopg [19] T.length (fun g2 v19 wx => ∃ j : Nat, j ≤ T.length ∧ v19 = .int .i64 (j : Int) ∧ T.length - j ≤ g2 ∧ Hid ((T.take j).all (fun t => Fnd.holds t PL) = true) ∧ Below W2.heap.size W2 wx)
      case atStart => exact ⟨0, Nat.zero_le _, rfl, by omega, rfl, Below.refl _ _⟩
      case round =>
        obtain ⟨j, hj, rfl, hg3, HJ, hbj⟩ := hrel
        have hbw : Below b0 w wr := HBV.out.trans (hbj.mono (by omega))
        by_cases hjt : j < T.length
        · have hji : (j : Int) < (T.length : Int) := by omega
          have hji0 : (0 : Int) ≤ (j : Int) := by omega
          obtain ⟨bt, ot, rfl, hbt, hct⟩ := RowTm.get (HROW0.out _ hbw).1 j hjt
          have hokx := HOK.out _ (List.getElem_mem hjt)
          have hst := Fnd.all_take_all (fun t => Fnd.holds t PL) T j hjt HJ.out
          have hno := Fnd.all_no (fun t => Fnd.holds t PL) T j hjt
          have hH := fun W (h : Below W2.heap.size W2 W) => holds_any T[j] ⟨id, cls, PA, PL, pcap, pb⟩ hokx W (HIN.out.below h)
          dsimp only at hH
          generalize Fnd.holds T[j] PL = z at hst hno hH
          generalize T[j] = x at hct hH
          obtain ⟨n, ⟨lk, lf, li, lb, lt⟩, ⟨hk1, hf, hi, hb, ht⟩, a, b, c⟩ := x
          have y0 : wr.cell? ⟨bt, ot + j * 14, none⟩ = some (.string (S n)) := hct 0 _ rfl
          have y1 := hct 1 _ rfl
          have y2 := hct 2 _ rfl
          have y3 := hct 3 _ rfl
          have y4 := hct 4 _ rfl
          have y5 := hct 5 _ rfl
          have y6 := hct 6 _ rfl
          have y7 := hct 7 _ rfl
          have y8 := hct 8 _ rfl
          have y9 := hct 9 _ rfl
          have y10 := hct 10 _ rfl
          have y11 := hct 11 _ rfl
          have y12 := hct 12 _ rfl
          have y13 := hct 13 _ rfl
          rw [Fnd.Trm.v_eq] at hH
          unfold Ppr.v at hH
          (try dsimp only at hH)
          have hVP := HV.out.below hbj hg2l
          have hgw : g2 < wr.heap.size := by have := hbj.size; omega
          have p0 := hVP.cell 0
          have p1 := hVP.cell 1
          have p2 := hVP.cell 2
          have HBT : Hid (_ : Prop) := Lib.hid (hbj.trans ((up1 (w := wr) (.cells (tcs n lk lf li lb lt hk1 hf hi hb ht a b c) 37)).mono hbj.size))
          have HH : Hid (_ : Prop) := Lib.hid hH
          have HST := Lib.hid (And.intro hst hno)
          clear hct hokx hst hno hH hVP hbj hbw
          go_wp2_with fail
          refine (HH.out _ HBT.out).mono ?_
          rintro r w5 ⟨rfl, hb5⟩
          have HB5 := Lib.hid (HBT.out.trans (hb5.mono HBT.out.size))
          clear hb5 y0 y1 y2 y3 y4 y5 y6 y7 y8 y9 y10 y11 y12 y13 p0 p1 p2 HH
          cases z with
          | true =>
            go_wp2_with fail
            go_roundg (T.length - (j + 1))
            case measure => omega
            case rel => exact ⟨j + 1, by omega, by go_num, Nat.le_refl _, HST.out.1, HB5.out⟩
          | false =>
            have HF1 := Lib.hid (HN.out k (by rw [HAE.out]; exact HST.out.2 rfl))
            go_wp2_with fail
            go_roundg (L.length - (k + 1))
            case measure => omega
            case rel => exact ⟨k + 1, by omega, by go_num, Nat.le_refl _, by rw [HF1.out]; exact own_mv HOWN.out (Mv.of_below HB5.out []) (by simp), HBV.out.trans (HB5.out.mono (by omega))⟩
        · obtain rfl : j = T.length := by omega
          have HF1 : Hid (F (k + 1) = F k ++ [k]) := HY.out k (by rw [HAE.out, ← HJ.out, List.take_length])
          have hkl := HFL.out k
          have hown3 := (own_mv HOWN.out (Mv.of_below hbj []) (by simp)).alloc (.cells #[.int .i64 (k : Int)] 3)
          have HB3 := Lib.hid (And.intro hown3 (And.intro (hbw.trans ((up1 (w := wr) (.cells #[.int .i64 (k : Int)] 3)).mono (by have := hbj.size; omega))) (madeInt wr (k : Int) (T := 3))))
          have hgs : b0 ≤ (wr.alloc (.cells #[.int .i64 (k : Int)] 3)).heap.size := by rw [asize]; have := hbj.size; omega
          clear hown3 hbj hbw
          go_wp2_with (at_builtin; refine wpList_append_own _ rfl (.tmp 28) (.tmp 30) 42 rfl b0 3 i0 (.int .i64 0) 1 8 Try.underlying42 HI.out.1 HI.out.2.1 HI.out.2.2.1 HI.out.2.2.2 rfl (by decide) u5 (F k).length (nvs (F k)) rfl HB3.out.1 ⟨wr.heap.size, 0, none⟩ 1 1 [.int .i64 (k : Int)] rfl rfl HB3.out.2.2 (by simp [Value.oneCell']) (by simp only [maxLen]; omega) (by omega) hgs ?_; intro v9 w9 hown9 hg9 hnil9)
          rw [nvs_snoc, ← HF1.out] at hown9
          have hD9 := fndGrownG HB3.out.2.1 hg9 hgs (fun q hq => (HB3.out.1.lt q hq).1)
          have hln : (F k).length + 1 = (F (k + 1)).length := by rw [HF1.out]; simp
          rw [hln] at hown9
          go_wp2_with fail
          go_roundg (L.length - (k + 1))
          case measure => omega
          case rel => exact ⟨k + 1, by omega, by go_num, Nat.le_refl _, hown9, hD9⟩
    · obtain rfl : k = L.length := by omega
      go_wp2_with fail
      try rw [Exit.noGoto_ret]
      go_ret
      exact ⟨_, rfl, hown, hbk⟩
end Go.Proofs.Ytfcmkbeilpclmaa
