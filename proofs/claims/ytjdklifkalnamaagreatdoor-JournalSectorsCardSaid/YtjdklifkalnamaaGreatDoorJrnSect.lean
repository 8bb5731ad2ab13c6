/-
  What a journal's sectors hold: the walk of JournalSectors.
-/
import Derived.Test.YtjdklifkalnamaaGreatDoorJrnX
import Derived.Test.YtjdklifkalnamaaGreatDoorJrnTxt
import Derived.Test.YtjdklifkalnamaaGreatDoorTextArg
import Derived.Deep.Cut
namespace Go.Proofs.YtjdklifkalnamaaGreatDoor
open Go.RowKit
set_option linter.unusedVariables false

namespace Jrn
def lk (link : Nat) (ts : List Nat) (k : Nat) : Nat := if k = 0 then link else ts.getD (k - 1) 0
def lf (s : T) (k : Nat) : T := if k = 0 then s else s.drop (36 + 38 * (k - 1))
theorem pays2_get : ∀ (ts : List Nat) (l : Nat) (t : T) (j : Nat), j < ts.length → (pays2 l t ts)[j]? = some (piece2 (if j = 0 then l else ts.getD (j - 1) 0) (t.drop (38 * j)), ts.getD j 0) := by
  intro ts
  induction ts with
  | nil => intro l t j h; cases h
  | cons a ts ih =>
    intro l t j h
    cases j with
    | zero => rfl
    | succ j =>
      unfold pays2
      rw [List.getElem?_cons_succ, ih a (t.drop 38) j (Nat.lt_of_succ_lt_succ (by simpa using h)), List.drop_drop]
      have e : 38 + 38 * j = 38 * (j + 1) := by omega
      rw [e, if_neg (Nat.succ_ne_zero j)]
      cases j with
      | zero => rfl
      | succ j => rfl
theorem pays_get (ts : List Nat) (l : Nat) (s : T) (k : Nat) (h : k < ts.length) : (pays l s ts)[k]? = some (if k = 0 then piece1 l s else piece2 (lk l ts k) (lf s k), ts.getD k 0) := by
  cases ts with
  | nil => cases h
  | cons a ts =>
    cases k with
    | zero => rfl
    | succ k =>
      unfold pays
      rw [List.getElem?_cons_succ, pays2_get ts a (s.drop 36) k (Nat.lt_of_succ_lt_succ (by simpa using h)), List.drop_drop, if_neg (Nat.succ_ne_zero k)]
      unfold lk lf
      rw [if_neg (Nat.succ_ne_zero k), if_neg (Nat.succ_ne_zero k)]
      cases k with
      | zero => rfl
      | succ k => rfl
theorem lk_succ (l : Nat) (ts : List Nat) (k : Nat) : lk l ts (k + 1) = ts.getD k 0 := by unfold lk; rw [if_neg (by omega)]; rfl
theorem lk_last (l : Nat) (ts : List Nat) (h : ts ≠ []) : lk l ts ts.length = lastOr l ts := by
  have hp : 0 < ts.length := List.length_pos_iff.2 h
  rw [lastOr_get ts l h]
  unfold lk
  rw [if_neg (by omega), List.getD_eq_getElem?_getD, List.getElem?_eq_getElem (by omega)]
  rfl
end Jrn
theorem conv_two (W : World) (bk : Nat) (x y : UInt8) (h : Has W bk 5 #[.int .u8 (x.toNat : Int), .int .u8 (y.toNat : Int)]) : (convert 50 9 (.slice (some ⟨bk, 0, none⟩) 2 2)).run Tryz.prog W = .ok (.string (S [x, y])) W :=
  conv_text Tryz.underlying50 Tryz.underlying5 Tryz.underlying9 [x, y] rfl (fun i hi => by
    rw [Nat.zero_add, h.cell]
    rcases i with _ | _ | i
    · rfl
    · rfl
    · exact absurd hi (by show ¬ i + 1 + 1 < 2; omega))
set_option maxRecDepth 100000 in
set_option maxHeartbeats 20000000 in
theorem jsectors_any (l : List (List UInt8)) (A : Option Addr) (cap : Nat) (w : World) (hlc : l.length ≤ cap) (hcm : cap ≤ 9223372036854775807) (hA : l ≠ [] → ∃ b off, A = some ⟨b, off, none⟩ ∧ b < w.heap.size ∧ TRow w b off l) :
    Calls Tryz.prog 4 #[.slice A l.length cap] w fun r w' => r = .returned (.bool true) ∧ Below w.heap.size w w' := by
  have HAW := Lib.hid (fun W => jawakeJ_any W)
  have HND := Lib.hid (newd_any 64 (by decide) (by decide) w)
  unfold NewDPost at HND
  go_enter Tryz.func4, Tryz.ntmps4
  go_wp2_with fail
  refine HND.out.mono ?_
  rintro r w1 ⟨g, bd, mb, rfl, hd, hb1, l1, l2, l3⟩
  have HOP := Lib.hid (lopen_fresh (w0 := w) hd (by decide) hb1 (by
    intro k hk
    simp only [List.mem_cons, List.not_mem_nil, or_false] at hk
    omega))
  clear hd hb1 HND
  go_wp2_with fail
  refine HOP.out.mono ?_
  rintro r w2 ⟨gj, gg, vs, vr, rfl, hx, -, -, -, -, -⟩
  have HX0 := Lib.hid hx
  clear hx HOP
  go_wp2_with fail
  go_loopw [6, 7, 8, 9, 10, 11, 12, 13, 14, 15] (fun v6 v7 v8 v9 v10 v11 v12 v13 v14 v15 wr => ∃ (i : Nat) (vs vr : Value) (N : List Jrn.Rec) (d : Dsk.St), v8 = .int .i64 (i : Int) ∧ v6 = .int .i64 ((3 : Int) + (Jrn.usedL N : Int)) ∧ v7 = .int .i64 (Jrn.lastL 7 N : Int) ∧ i ≤ 6 ∧ JX w wr ⟨gj, gg, g, bd, mb, 3, 60, 7, 1⟩ vs vr N (Jrn.usedL N) d ∧ d.up = true ∧ d.arm = none ∧ d.secs.length = 64 ∧ d.acts = Jrn.usedL N ∧ d.falls = 0) (fun _ _ v8 _ _ _ _ _ _ _ _ => 6 - (vInt v8).toNat)
  case atStart => exact ⟨0, vs, vr, [], Dsk.fresh 64, rfl, rfl, rfl, by decide, HX0.out, rfl, rfl, List.length_replicate, rfl, rfl⟩
  case round =>
    obtain ⟨i, vs, vr, N, d, rfl, rfl, rfl, hi6, hX, hup, harm, hsl, hac, hfa⟩ := hrel
    have hi0 : (0 : Int) ≤ (i : Int) := by omega
    have hroomN : Jrn.usedL N ≤ 60 := hX.jn.room
    by_cases hend : i < l.length ∧ i < 6
    · have hlt := hend.1
      have hki : (i : Int) < (l.length : Int) := by omega
      have hk6 : (i : Int) < 6 := by omega
      have hkc : (i : Int) < (cap : Int) := by omega
      obtain ⟨b, off, hAe, hbl, hrow⟩ := hA (by intro e; rw [e] at hlt; cases hlt)
      subst hAe
      have HCS : Hid (∀ W, Below w.heap.size w W → W.cell? ⟨b, off + i, none⟩ = some (.string (S (l[i]'hlt)))) := Lib.hid (fun W hb => by rw [hb.cell (p := ⟨b, off + i, none⟩) hbl]; exact hrow i hlt)
      have hcs := HCS.out wr hX.bel
      generalize (l[i]'hlt) = s at HCS hcs
      have HX := Lib.hid hX
      have hlk : Jrn.lastL 7 N < 9223372036854775808 := hX.jn.last_lt
      clear hX hA
      by_cases hlong : 6000 < s.length
      · have HAP := Lib.hid (jnappend_long HX.out.jn s hlong)
        clear hlong
        go_wp2_with fail
        refine HAP.out.mono ?_
        rintro r w4 ⟨rfl, hb4⟩
        have HX4 := Lib.hid (HX.out.below hb4)
        clear hb4 HX
        go_wp2_with fail
        go_roundw
        · exact ⟨i + 1, vs, vr, N, d, by go_num, rfl, rfl, by omega, HX4.out, hup, harm, hsl, hac, hfa⟩
        · simp only [vInt]; omega
      · by_cases hfull : 60 < Jrn.usedL N + Jrn.need s.length
        · have HAP := Lib.hid (jnappend_full HX.out.jn s (by omega) hfull)
          clear hlong hfull
          go_wp2_with fail
          refine HAP.out.mono ?_
          rintro r w4 ⟨rfl, hb4⟩
          have HX4 := Lib.hid (HX.out.below hb4)
          clear hb4 HX
          go_wp2_with fail
          go_roundw
          · exact ⟨i + 1, vs, vr, N, d, by go_num, rfl, rfl, by omega, HX4.out, hup, harm, hsl, hac, hfa⟩
          · simp only [vInt]; omega
        · have hs6 : s.length ≤ 6000 := by omega
          have HAP := Lib.hid (jx_append HX.out hup harm (by rw [hsl]; show 63 ≤ 64; decide) s hs6 (by show Jrn.usedL N + Jrn.need s.length ≤ 60; omega) (by omega) (by omega) (by omega))
          unfold JXPost at HAP
          clear hlong HX
          go_wp2_with fail
          refine HAP.out.mono ?_
          rintro r w4 ⟨rfl, vs', vr', d', hx4, -, hup', harm', hsl', hac', hfa', hag, -, -⟩
          have hag2 : Jrn.Agree (Jrn.rx d') (3 + Jrn.usedL N) (Jrn.pays (Jrn.lastL 7 N) s (Jrn.stamps 1 (Jrn.usedL N) (Jrn.need s.length))) := hag
          have HX4 := Lib.hid hx4
          have hup2 : d'.up = true := hup'
          have HOUT : Hid (d'.up = true ∧ d'.arm = none ∧ d'.secs.length = 64 ∧ d'.acts = Jrn.usedL (N ++ [(s, Jrn.stamps 1 (Jrn.usedL N) (Jrn.need s.length))]) ∧ d'.falls = 0) := Lib.hid ⟨hup', harm', by rw [hsl', hsl], by rw [hac', hac, Jrn.usedL_snoc], by rw [hfa', hfa]⟩
          have HUN : Hid (Jrn.usedL (N ++ [(s, Jrn.stamps 1 (Jrn.usedL N) (Jrn.need s.length))]) = Jrn.usedL N + Jrn.need s.length) := Lib.hid (by rw [Jrn.usedL_snoc])
          have htl : (Jrn.stamps 1 (Jrn.usedL N) (Jrn.need s.length)).length = Jrn.need s.length := Jrn.stamps_len ..
          have hnp := Jrn.need_pos s.length
          have HLL : Hid (Jrn.lastL 7 (N ++ [(s, Jrn.stamps 1 (Jrn.usedL N) (Jrn.need s.length))]) = Jrn.lk (Jrn.lastL 7 N) (Jrn.stamps 1 (Jrn.usedL N) (Jrn.need s.length)) (Jrn.need s.length)) := Lib.hid (by
            rw [Jrn.lastL_append]
            show Jrn.lastOr _ _ = _
            have := Jrn.lk_last (Jrn.lastL 7 N) (Jrn.stamps 1 (Jrn.usedL N) (Jrn.need s.length)) (by intro e; rw [e, List.length_nil] at htl; omega)
            rw [htl] at this
            exact this.symm)
          have HSTL : Hid (∀ k, (Jrn.stamps 1 (Jrn.usedL N) (Jrn.need s.length)).getD k 0 < 9223372036854775808) := Lib.hid (fun k => by
            rw [List.getD_eq_getElem?_getD]
            cases hq : (Jrn.stamps 1 (Jrn.usedL N) (Jrn.need s.length))[k]? with
            | none => decide
            | some t =>
              have := Jrn.stamps_mem (List.mem_of_getElem? hq)
              show t < _
              omega)
          have HND := Lib.hid (fun W => jneed_any s.length (by omega) W)
          have hcs4 := HCS.out w4 hx4.bel
          have HRDX : Hid (∀ W k, Below w4.heap.size w4 W → k < Jrn.need s.length → Calls Tryz.prog 18 #[.pointer (some ⟨g, 0, none⟩), .int .i64 ((3 : Int) + (Jrn.usedL N : Int) + (k : Int))] W (GReadPost W ((if k = 0 then Jrn.piece1 (Jrn.lastL 7 N) s else Jrn.piece2 (Jrn.lk (Jrn.lastL 7 N) (Jrn.stamps 1 (Jrn.usedL N) (Jrn.need s.length)) k) (Jrn.lf s k)), (((Jrn.stamps 1 (Jrn.usedL N) (Jrn.need s.length)).getD k 0 : Nat) : Int), 0))) := Lib.hid (fun W k hbW hk => by
            have hq := gread_any (HX4.out.below hbW).jn.gd.disk ((3 + Jrn.usedL N + k : Nat) : Int)
            rw [Jrn.rx_eq, hag2 k _ (Jrn.pays_get _ _ _ k (by rw [htl]; exact hk))] at hq
            rw [show (3 : Int) + (Jrn.usedL N : Int) + (k : Int) = ((3 + Jrn.usedL N + k : Nat) : Int) by omega]
            exact hq)
          clear hx4 hup' harm' hsl' hac' hfa' hag hag2 hac hfa hup harm hsl HAP
          generalize Jrn.stamps 1 (Jrn.usedL N) (Jrn.need s.length) = ts at *
          generalize Jrn.lastL 7 N = l0 at *
          generalize hN : Jrn.usedL N = u at *
          clear hN
          generalize hndd : Jrn.need s.length = nd at *
          have HNDD := Lib.hid hndd
          clear hndd
          have hs6i : (s.length : Int) ≤ 6000 := by omega
          generalize wr = wo at *
          go_wp2_with fail
          go_loopw [6, 7, 9, 10, 11, 12, 13, 14, 15] (fun v6 v7 v9 v10 v11 v12 v13 v14 v15 wr => ∃ k : Nat, k ≤ nd ∧ v6 = .int .i64 ((3 : Int) + (u : Int) + (k : Int)) ∧ v7 = .int .i64 (Jrn.lk l0 ts k : Int) ∧ v9 = .string (S (Jrn.lf s k)) ∧ v10 = .int .i64 (k : Int) ∧ Below w4.heap.size w4 wr) (fun _ _ _ v10 _ _ _ _ _ _ => nd - (vInt v10).toNat)
          case atStart => exact ⟨0, Nat.zero_le _, by simp, rfl, rfl, rfl, Below.refl _ _⟩
          case round =>
            obtain ⟨k, hkn, rfl, rfl, rfl, rfl, hbk⟩ := hrel
            have hk0 : (0 : Int) ≤ (k : Int) := by omega
            have hcsk := HCS.out wr (HX4.out.bel.trans (hbk.mono HX4.out.bel.size))
            by_cases hlt2 : k < nd
            · have hki2 : (k : Int) < (nd : Int) := by omega
              have HRK := Lib.hid (HRDX.out wr k hbk hlt2)
              have hlkk : Jrn.lk l0 ts k < 9223372036854775808 := by
                unfold Jrn.lk
                split
                · exact hlk
                · exact HSTL.out _
              have HE := Lib.hid (fun W => eight_any (Jrn.lk l0 ts k : Int) W)
              rw [Grd.eightI_nat _ (by omega)] at HE
              have hE8 : (Grd.eight (Jrn.lk l0 ts k)).length = 8 := Grd.eight_len _
              have HBK := Lib.hid hbk
              have hlfl : (Jrn.lf s k).length ≤ 6000 := by
                unfold Jrn.lf
                split
                · exact hs6
                · rw [List.length_drop]; omega
              have hlks : (Jrn.lk l0 ts (k + 1) : Int) = ((ts.getD k 0 : Nat) : Int) := by rw [Jrn.lk_succ]
              unfold GReadPost at HRK
              generalize ts.getD k 0 = stk at HRK hlks
              have HLS := Lib.hid hlks
              clear hbk hlks
              have es2 : ByteArray.mk #[2] = S [2] := rfl
              have es1 : ByteArray.mk #[1] = S [1] := rfl
              by_cases hkz : k = 0
              · subst hkz
                rw [if_pos rfl] at HRK
                have hD : Jrn.piece1 l0 s = 1 :: (Grd.eight (Jrn.lk l0 ts 0) ++ (UInt8.ofNat (s.length / 256) :: UInt8.ofNat s.length :: s.take 36)) := rfl
                have HNX : Hid (Jrn.lf s (0 + 1) = s.drop 36) := Lib.hid rfl
                have hlf0 : Jrn.lf s 0 = s := rfl
                rw [hlf0]
                clear hlf0 hlfl
                generalize Grd.eight (Jrn.lk l0 ts 0) = E at *
                generalize Jrn.piece1 l0 s = D at *
                generalize Jrn.lk l0 ts 0 = lkk at *
                have HD := Lib.hid hD
                clear hD
                go_wp2_with fail
                refine (HND.out _).mono ?_
                rintro r w6 ⟨rfl, rfl⟩
                go_wp2_with fail
                refine HRK.out.mono ?_
                rintro r w7 ⟨rfl, hb7⟩
                have HB7 := Lib.hid (HBK.out.trans (hb7.mono HBK.out.size))
                clear hb7
                go_wp2_with fail
                refine (HE.out _).mono ?_
                rintro r w8 ⟨rfl, hb8⟩
                have HB8 := Lib.hid (HB7.out.trans (hb8.mono HB7.out.size))
                clear hb8
                simp only [es2, es1]
                obtain ⟨X, hXe⟩ : ∃ X, UInt8.ofNat (s.length / 256) = X := ⟨_, rfl⟩
                obtain ⟨Y, hYe⟩ : ∃ Y, UInt8.ofNat s.length = Y := ⟨_, rfl⟩
                rw [hXe, hYe] at HD
                have e1 : IntKind.u8.wrap (s.length : Int) = (Y.toNat : Int) := by
                  rw [← hYe, UInt8.toNat_ofNat']
                  show (s.length : Int) % 256 = _
                  omega
                have e2 : IntKind.u8.wrap (IntKind.i64.wrap ((s.length : Int) / 256)) = (X.toNat : Int) := by
                  rw [← hXe, UInt8.toNat_ofNat', (by rw [IntKind.wrap_i64]; omega : IntKind.i64.wrap ((s.length : Int) / 256) = (s.length : Int) / 256)]
                  show ((s.length : Int) / 256) % 256 = _
                  omega
                clear hXe hYe
                go_upto_region 21 with fail
                have etk : s.take s.length = s := List.take_length
                refine wp_region_any (by kernel_rfl) ?_
                change wpAny _ _ _ _ _ _ _ (World.drew _)
                (refine grab (i := 0) (v := ?_) rfl rfl (by kernel_rfl) (by kernel_rfl) (by kernel_rfl) (fun _ _ _ h => h) (by rfl) ?_ ?_; rotate_left; (focus (intro w; go_simp; first | done | with_reducible rfl)); (simp only [Act.at, List.setIfInBounds_toArray, List.set_cons_zero, List.set_cons_succ]))
                (refine grab (i := 3) (v := ?_) rfl rfl (by kernel_rfl) (by kernel_rfl) (by kernel_rfl) (fun _ _ _ h => h) (by rfl) ?_ ?_; rotate_left; (focus (intro w; go_simp; first | done | with_reducible rfl)); (simp only [Act.at, List.setIfInBounds_toArray, List.set_cons_zero, List.set_cons_succ]))
                (refine grab (i := 4) (v := ?_) rfl rfl (by kernel_rfl) (by kernel_rfl) (by kernel_rfl) (fun _ _ _ h => h) (by rfl) ?_ ?_; rotate_left; (focus (intro w; go_simp; first | done | with_reducible rfl)); (simp only [Act.at, List.setIfInBounds_toArray, List.set_cons_zero, List.set_cons_succ]))
                (refine grab (i := 5) (v := ?_) rfl rfl (by kernel_rfl) (by kernel_rfl) (by kernel_rfl) (fun _ _ _ h => h) (by rfl) ?_ ?_; rotate_left; (focus (intro w; go_simp; first | done | with_reducible rfl)); (simp only [Act.at, List.setIfInBounds_toArray, List.set_cons_zero, List.set_cons_succ]))
                (refine grab (i := 6) (v := ?_) rfl rfl (by kernel_rfl) (by kernel_rfl) (by kernel_rfl) (fun _ _ _ h => h) (by rfl) ?_ ?_; rotate_left; (focus (intro w; go_simp; first | done | with_reducible rfl)); (simp only [Act.at, List.setIfInBounds_toArray, List.set_cons_zero, List.set_cons_succ]))
                (refine grab (i := 7) (v := ?_) rfl rfl (by kernel_rfl) (by kernel_rfl) (by kernel_rfl) (fun _ _ _ h => h) (by rfl) ?_ ?_; rotate_left; (focus (intro w; go_simp; first | done | with_reducible rfl)); (simp only [Act.at, List.setIfInBounds_toArray, List.set_cons_zero, List.set_cons_succ]))
                (refine grab (i := 8) (v := ?_) rfl rfl (by kernel_rfl) (by kernel_rfl) (by kernel_rfl) (fun _ _ _ h => h) (by rfl) ?_ ?_; rotate_left; (focus (intro w; go_simp; first | done | with_reducible rfl)); (simp only [Act.at, List.setIfInBounds_toArray, List.set_cons_zero, List.set_cons_succ]))
                (refine grab (i := 9) (v := ?_) rfl rfl (by kernel_rfl) (by kernel_rfl) (by kernel_rfl) (fun _ _ _ h => h) (by rfl) ?_ ?_; rotate_left; (focus (intro w; go_simp; first | done | with_reducible rfl)); (simp only [Act.at, List.setIfInBounds_toArray, List.set_cons_zero, List.set_cons_succ]))
                refine wpTwo (i := 1) (j := 10) (by kernel_rfl) rfl rfl (by rfl) (by rfl) (fun K hK => ?_) (fun K hK => ?_)
                · go_simp
                  refine (HE.out _).mono ?_
                  rintro r w9 ⟨rfl, hb9⟩
                  have HB9 := Lib.hid (HB8.out.drew.trans (hb9.mono HB8.out.size))
                  clear hb9
                  refine hK _ _ ?_
                  clear hK K
                  try simp only [Act.put, List.setIfInBounds_toArray, List.set_cons_zero, List.set_cons_succ]
                  (refine grab (i := 2) (v := ?_) rfl rfl (by kernel_rfl) (by kernel_rfl) (by kernel_rfl) (fun _ _ _ h => h) (by rfl) ?_ ?_; rotate_left; (focus (intro w; go_simp; first | done | with_reducible rfl)); (simp only [Act.at, List.setIfInBounds_toArray, List.set_cons_zero, List.set_cons_succ]))
                  refine wpOne (i := 10) (by kernel_rfl) rfl (by rfl) (fun K hK => ?_)
                  go_simp
                  refine hK _ _ ?_
                  clear hK K
                  try simp only [Act.put, List.setIfInBounds_toArray, List.set_cons_zero, List.set_cons_succ]
                  try simp only [e1, e2]
                  have HCV := conv_two (w9.alloc (.cells #[.int .u8 (X.toNat : Int), .int .u8 (Y.toNat : Int)] 5)) w9.heap.size X Y (Has.made w9 _ _)
                  have HBX := Lib.hid (HB9.out.alloc HB9.out.size (.cells #[.int .u8 (X.toNat : Int), .int .u8 (Y.toNat : Int)] 5))
                  refine wpOne (i := 11) (by kernel_rfl) rfl (by rfl) (fun K hK => ?_)
                  go_simp
                  refine hK _ _ ?_
                  clear hK K
                  try simp only [Act.put, List.setIfInBounds_toArray, List.set_cons_zero, List.set_cons_succ]
                  clear HCV
                  (refine grab (i := 12) (v := ?_) rfl rfl (by kernel_rfl) (by kernel_rfl) (by kernel_rfl) (fun _ _ _ h => h) (by rfl) ?_ ?_; rotate_left; (focus (intro w; go_simp; first | done | with_reducible rfl)); (simp only [Act.at, List.setIfInBounds_toArray, List.set_cons_zero, List.set_cons_succ]))
                  (refine grab (i := 13) (v := ?_) rfl rfl (by kernel_rfl) (by kernel_rfl) (by kernel_rfl) (fun _ _ _ h => h) (by rfl) ?_ ?_; rotate_left; (focus (intro w; go_simp; first | done | with_reducible rfl)); (simp only [Act.at, List.setIfInBounds_toArray, List.set_cons_zero, List.set_cons_succ]))
                  refine wpAny_done (by kernel_rfl) ?_ _
                  by_cases hr : s.length < 36
                  · have hri : (s.length : Int) < 36 := by omega
                    have hD2 : (D == 1 :: (E ++ X :: Y :: s)) = true := by rw [HD.out, List.take_of_length_le (by omega), beq_self_eq_true]
                    go_wp2_with fail
                    go_roundw
                    · refine ⟨0 + 1, by omega, by go_num, ?_, ?_, by go_num, HBX.out⟩
                      · rw [HLS.out]
                      · rw [HNX.out, List.drop_eq_nil_of_le (by omega : s.length ≤ 36)]
                        rfl
                    · simp only [vInt]; omega
                  · have hri : ¬ (s.length : Int) < 36 := by omega
                    have hrj : (36 : Int) ≤ (s.length : Int) := by omega
                    have hD2 : (D == 1 :: (E ++ X :: Y :: s.take 36)) = true := by rw [HD.out, beq_self_eq_true]
                    go_wp2_with fail
                    go_roundw
                    · refine ⟨0 + 1, by omega, by go_num, ?_, ?_, by go_num, HBX.out⟩
                      · rw [HLS.out]
                      · rw [HNX.out]
                    · simp only [vInt]; omega
                · go_simp
                  refine hK _ _ ?_
                  clear hK K
                  try simp only [Act.put, List.setIfInBounds_toArray, List.set_cons_zero, List.set_cons_succ]
                  try simp only [e1, e2]
                  have HHas : Hid (Has (w8.alloc (.cells #[.int .u8 (X.toNat : Int), .int .u8 (Y.toNat : Int)] 5)).drew w8.heap.size 5 #[.int .u8 (X.toNat : Int), .int .u8 (Y.toNat : Int)]) := Lib.hid (Has.made w8 5 #[.int .u8 (X.toNat : Int), .int .u8 (Y.toNat : Int)])
                  have HB9 := Lib.hid (HB8.out.alloc HB8.out.size (.cells #[.int .u8 (X.toNat : Int), .int .u8 (Y.toNat : Int)] 5)).drew
                  have hsz : w8.heap.size < (w8.alloc (.cells #[.int .u8 (X.toNat : Int), .int .u8 (Y.toNat : Int)] 5)).drew.heap.size := by show _ < (w8.alloc _).heap.size; simp
                  refine wpTwo (i := 1) (j := 11) (by kernel_rfl) rfl rfl (by rfl) (by rfl) (fun K hK => ?_) (fun K hK => ?_)
                  · go_simp
                    refine (HE.out _).mono ?_
                    rintro r w9 ⟨rfl, hb9⟩
                    have HCV := conv_two w9 w8.heap.size X Y (HHas.out.below hb9 hsz)
                    have HBX := Lib.hid (HB9.out.trans (hb9.mono HB9.out.size))
                    clear hb9
                    refine hK _ _ ?_
                    clear hK K
                    try simp only [Act.put, List.setIfInBounds_toArray, List.set_cons_zero, List.set_cons_succ]
                    (refine grab (i := 2) (v := ?_) rfl rfl (by kernel_rfl) (by kernel_rfl) (by kernel_rfl) (fun _ _ _ h => h) (by rfl) ?_ ?_; rotate_left; (focus (intro w; go_simp; first | done | with_reducible rfl)); (simp only [Act.at, List.setIfInBounds_toArray, List.set_cons_zero, List.set_cons_succ]))
                    refine wpOne (i := 11) (by kernel_rfl) rfl (by rfl) (fun K hK => ?_)
                    go_simp
                    refine hK _ _ ?_
                    clear hK K
                    try simp only [Act.put, List.setIfInBounds_toArray, List.set_cons_zero, List.set_cons_succ]
                    clear HCV
                    (refine grab (i := 12) (v := ?_) rfl rfl (by kernel_rfl) (by kernel_rfl) (by kernel_rfl) (fun _ _ _ h => h) (by rfl) ?_ ?_; rotate_left; (focus (intro w; go_simp; first | done | with_reducible rfl)); (simp only [Act.at, List.setIfInBounds_toArray, List.set_cons_zero, List.set_cons_succ]))
                    (refine grab (i := 13) (v := ?_) rfl rfl (by kernel_rfl) (by kernel_rfl) (by kernel_rfl) (fun _ _ _ h => h) (by rfl) ?_ ?_; rotate_left; (focus (intro w; go_simp; first | done | with_reducible rfl)); (simp only [Act.at, List.setIfInBounds_toArray, List.set_cons_zero, List.set_cons_succ]))
                    refine wpAny_done (by kernel_rfl) ?_ _
                    by_cases hr : s.length < 36
                    · have hri : (s.length : Int) < 36 := by omega
                      have hD2 : (D == 1 :: (E ++ X :: Y :: s)) = true := by rw [HD.out, List.take_of_length_le (by omega), beq_self_eq_true]
                      go_wp2_with fail
                      go_roundw
                      · refine ⟨0 + 1, by omega, by go_num, ?_, ?_, by go_num, HBX.out⟩
                        · rw [HLS.out]
                        · rw [HNX.out, List.drop_eq_nil_of_le (by omega : s.length ≤ 36)]
                          rfl
                      · simp only [vInt]; omega
                    · have hri : ¬ (s.length : Int) < 36 := by omega
                      have hrj : (36 : Int) ≤ (s.length : Int) := by omega
                      have hD2 : (D == 1 :: (E ++ X :: Y :: s.take 36)) = true := by rw [HD.out, beq_self_eq_true]
                      go_wp2_with fail
                      go_roundw
                      · refine ⟨0 + 1, by omega, by go_num, ?_, ?_, by go_num, HBX.out⟩
                        · rw [HLS.out]
                        · rw [HNX.out]
                      · simp only [vInt]; omega
                  · have HCV := conv_two (w8.alloc (.cells #[.int .u8 (X.toNat : Int), .int .u8 (Y.toNat : Int)] 5)).drew w8.heap.size X Y HHas.out
                    go_simp
                    refine hK _ _ ?_
                    clear hK K
                    try simp only [Act.put, List.setIfInBounds_toArray, List.set_cons_zero, List.set_cons_succ]
                    clear HCV
                    refine wpOne (i := 1) (by kernel_rfl) rfl (by rfl) (fun K hK => ?_)
                    go_simp
                    refine (HE.out _).mono ?_
                    rintro r w9 ⟨rfl, hb9⟩
                    have HBX := Lib.hid (HB9.out.trans (hb9.mono HB9.out.size))
                    clear hb9
                    refine hK _ _ ?_
                    clear hK K
                    try simp only [Act.put, List.setIfInBounds_toArray, List.set_cons_zero, List.set_cons_succ]
                    (refine grab (i := 2) (v := ?_) rfl rfl (by kernel_rfl) (by kernel_rfl) (by kernel_rfl) (fun _ _ _ h => h) (by rfl) ?_ ?_; rotate_left; (focus (intro w; go_simp; first | done | with_reducible rfl)); (simp only [Act.at, List.setIfInBounds_toArray, List.set_cons_zero, List.set_cons_succ]))
                    (refine grab (i := 12) (v := ?_) rfl rfl (by kernel_rfl) (by kernel_rfl) (by kernel_rfl) (fun _ _ _ h => h) (by rfl) ?_ ?_; rotate_left; (focus (intro w; go_simp; first | done | with_reducible rfl)); (simp only [Act.at, List.setIfInBounds_toArray, List.set_cons_zero, List.set_cons_succ]))
                    (refine grab (i := 13) (v := ?_) rfl rfl (by kernel_rfl) (by kernel_rfl) (by kernel_rfl) (fun _ _ _ h => h) (by rfl) ?_ ?_; rotate_left; (focus (intro w; go_simp; first | done | with_reducible rfl)); (simp only [Act.at, List.setIfInBounds_toArray, List.set_cons_zero, List.set_cons_succ]))
                    refine wpAny_done (by kernel_rfl) ?_ _
                    by_cases hr : s.length < 36
                    · have hri : (s.length : Int) < 36 := by omega
                      have hD2 : (D == 1 :: (E ++ X :: Y :: s)) = true := by rw [HD.out, List.take_of_length_le (by omega), beq_self_eq_true]
                      go_wp2_with fail
                      go_roundw
                      · refine ⟨0 + 1, by omega, by go_num, ?_, ?_, by go_num, HBX.out⟩
                        · rw [HLS.out]
                        · rw [HNX.out, List.drop_eq_nil_of_le (by omega : s.length ≤ 36)]
                          rfl
                      · simp only [vInt]; omega
                    · have hri : ¬ (s.length : Int) < 36 := by omega
                      have hrj : (36 : Int) ≤ (s.length : Int) := by omega
                      have hD2 : (D == 1 :: (E ++ X :: Y :: s.take 36)) = true := by rw [HD.out, beq_self_eq_true]
                      go_wp2_with fail
                      go_roundw
                      · refine ⟨0 + 1, by omega, by go_num, ?_, ?_, by go_num, HBX.out⟩
                        · rw [HLS.out]
                        · rw [HNX.out]
                      · simp only [vInt]; omega
              · have hkz0 : ((k : Int) == 0) = false := by rw [beq_eq_false_iff_ne]; omega
                rw [if_neg hkz] at HRK
                have hnx : Jrn.lf s (k + 1) = (Jrn.lf s k).drop 38 := by
                  unfold Jrn.lf
                  rw [if_neg (by omega), if_neg hkz, List.drop_drop]
                  congr 1
                  omega
                have hD : Jrn.piece2 (Jrn.lk l0 ts k) (Jrn.lf s k) = 2 :: (Grd.eight (Jrn.lk l0 ts k) ++ (Jrn.lf s k).take 38) := rfl
                have HNX := Lib.hid hnx
                clear hnx
                generalize Grd.eight (Jrn.lk l0 ts k) = E at *
                generalize Jrn.piece2 (Jrn.lk l0 ts k) (Jrn.lf s k) = D at *
                generalize Jrn.lf s k = F at *
                generalize Jrn.lk l0 ts k = lkk at *
                have etk : F.take F.length = F := List.take_length
                by_cases hr : F.length < 38
                · have hri : (F.length : Int) < 38 := by omega
                  have hD2 : (D == 2 :: (E ++ F)) = true := by rw [hD, List.take_of_length_le (by omega), beq_self_eq_true]
                  clear hD
                  go_wp2_with fail
                  refine (HND.out _).mono ?_
                  rintro r w6 ⟨rfl, rfl⟩
                  go_wp2_with fail
                  refine HRK.out.mono ?_
                  rintro r w7 ⟨rfl, hb7⟩
                  have HB7 := Lib.hid (HBK.out.trans (hb7.mono HBK.out.size))
                  clear hb7
                  go_wp2_with fail
                  refine (HE.out _).mono ?_
                  rintro r w8 ⟨rfl, hb8⟩
                  have HB8 := Lib.hid (HB7.out.trans (hb8.mono HB7.out.size))
                  clear hb8
                  simp only [es2]
                  go_wp2_with fail
                  go_roundw
                  · refine ⟨k + 1, by omega, by go_num, ?_, ?_, by go_num, HB8.out⟩
                    · rw [HLS.out]
                    · rw [HNX.out, List.drop_eq_nil_of_le (by omega : F.length ≤ 38)]
                      rfl
                  · simp only [vInt]; omega
                · have hri : ¬ (F.length : Int) < 38 := by omega
                  have hrj : (38 : Int) ≤ (F.length : Int) := by omega
                  have hD2 : (D == 2 :: (E ++ F.take 38)) = true := by rw [hD, beq_self_eq_true]
                  clear hD
                  go_wp2_with fail
                  refine (HND.out _).mono ?_
                  rintro r w6 ⟨rfl, rfl⟩
                  go_wp2_with fail
                  refine HRK.out.mono ?_
                  rintro r w7 ⟨rfl, hb7⟩
                  have HB7 := Lib.hid (HBK.out.trans (hb7.mono HBK.out.size))
                  clear hb7
                  go_wp2_with fail
                  refine (HE.out _).mono ?_
                  rintro r w8 ⟨rfl, hb8⟩
                  have HB8 := Lib.hid (HB7.out.trans (hb8.mono HB7.out.size))
                  clear hb8
                  simp only [es2]
                  go_wp2_with fail
                  go_roundw
                  · refine ⟨k + 1, by omega, by go_num, ?_, ?_, by go_num, HB8.out⟩
                    · rw [HLS.out]
                    · rw [HNX.out]
                  · simp only [vInt]; omega
            · obtain rfl : k = nd := by omega
              have hki2 : ¬ (k : Int) < (k : Int) := by omega
              have HXE := Lib.hid (HX4.out.below hbk)
              clear hbk
              go_wp2_with fail
              refine (HND.out _).mono ?_
              rintro r w6 ⟨rfl, rfl⟩
              go_wp2_with fail
              go_roundw
              · refine ⟨i + 1, vs', vr', N ++ [(s, ts)], d', by go_num, ?_, ?_, by omega, ?_, HOUT.out⟩
                · rw [HUN.out]
                  congr 1
                  omega
                · rw [HLL.out]
                · rw [HUN.out]
                  exact HXE.out
              · simp only [vInt]; omega
    · have HF := Lib.hid hX.bel
      have HUS : Hid (∀ W, Below wr.heap.size wr W → Calls Tryz.prog 20 #[.pointer (some ⟨gj, 0, none⟩)] W fun e w' => e = .returned (.int .i64 (Jrn.usedL N : Int)) ∧ w' = W) := Lib.hid (fun W hb => by
        have hq := jnused_any (hX.below hb).jn
        exact hq)
      clear hX hA
      have hwr : IntKind.i64.wrap ((3 : Int) + (Jrn.usedL N : Int) - 3) = (3 : Int) + (Jrn.usedL N : Int) - 3 := by rw [IntKind.wrap_i64]; omega
      have heq : ((Jrn.usedL N : Int) == (3 : Int) + (Jrn.usedL N : Int) - 3) = true := by rw [beq_iff_eq]; omega
      by_cases hlt : i < l.length
      · have hki : (i : Int) < (l.length : Int) := by omega
        have hk6 : ¬ (i : Int) < 6 := by omega
        clear hend
        go_wp2_with fail
        refine (HUS.out _ (Below.refl _ _)).mono ?_
        rintro r w5 ⟨rfl, rfl⟩
        go_wp2_with fail
        refine (HAW.out _).mono ?_
        rintro r w6 ⟨rfl, hb6⟩
        have HB6 := Lib.hid (HF.out.trans (hb6.mono HF.out.size))
        clear hb6
        go_wp2_with fail
        go_ret
        exact ⟨rfl, HB6.out⟩
      · have hki : ¬ (i : Int) < (l.length : Int) := by omega
        clear hend
        go_wp2_with fail
        refine (HUS.out _ (Below.refl _ _)).mono ?_
        rintro r w5 ⟨rfl, rfl⟩
        go_wp2_with fail
        refine (HAW.out _).mono ?_
        rintro r w6 ⟨rfl, hb6⟩
        have HB6 := Lib.hid (HF.out.trans (hb6.mono HF.out.size))
        clear hb6
        go_wp2_with fail
        go_ret
        exact ⟨rfl, HB6.out⟩
end Go.Proofs.YtjdklifkalnamaaGreatDoor
