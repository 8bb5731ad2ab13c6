/-
  The contract of the reference's more.
-/
import Derived.Test.YtbfomeifhmkpeaaDoorRefPrimes
import Derived.Test.YtbfomeifhmkpeaaDoorRefVal
namespace Go.Proofs.YtbfomeifhmkpeaaDoor
open Go.RowKit
set_option linter.unusedVariables false
theorem nats_set (l : List Nat) (i v : Nat) : (nats l).toArray.setIfInBounds i (.int .i64 (v : Int)) = (nats (l.set i v)).toArray := by
  apply Array.ext'
  simp [nats, List.map_set]
theorem nats_cell {w : World} {g : Nat} {l : List Nat} (h : Has w g 3 (nats l).toArray) (i : Nat) (hi : i < l.length) : w.cell? ⟨g, i, none⟩ = some (.int .i64 ((l[i]'hi : Nat) : Int)) := by
  rw [h.cell]; simp [nats, hi]
def BoolPost (w : World) (b : Bool) (e : Ending) (w' : World) : Prop := e = .returned (.bool b) ∧ Below w.heap.size w w'
set_option maxRecDepth 100000 in
set_option maxHeartbeats 4000000 in
theorem more_any (x power p : Nat) (hx : x < 2 ^ 38) (hp1 : 2 ≤ power) (hp2 : power ≤ 3) (hq : p < 65536) (w : World) :
    Calls Tryd.prog 18 #[.int .i64 (x : Int), .int .i64 (power : Int), .int .i64 (p : Int)] w (BoolPost w (over x power p)) := by
  go_enter Tryd.func18, Tryd.ntmps18
  go_wp2_with fail
  generalize hW : w.alloc _ = W
  have hA : Has W w.heap.size 3 (nats [1, 0, 0, 0, 0, 0, 0, 0, 0, 0]).toArray := by rw [← hW]; exact Has.made _ _ _
  have hB : Below w.heap.size w W := by rw [← hW]; exact (Below.refl _ _).alloc (Nat.le_refl _) _
  clear hW
  go_loopw [7, 8] (fun v7 v8 wr => ∃ (k ga : Nat) (la : List Nat), k ≤ power ∧ v8 = .int .i64 (k : Int) ∧ v7 = .slice (some ⟨ga, 0, none⟩) 10 10 ∧ Has wr ga 3 (nats la).toArray ∧ la.length = 10 ∧ (∀ z ∈ la, z < 65536) ∧ val la = x ^ k ∧ w.heap.size ≤ ga ∧ Below w.heap.size w wr) (fun _ v8 _ => 10 - (intOf v8).toNat)
  case atStart => exact ⟨0, w.heap.size, _, Nat.zero_le _, rfl, rfl, hA, rfl, by decide, by rw [Nat.pow_zero]; rfl, Nat.le_refl _, hB⟩
  case round =>
    obtain ⟨k, ga, la, hk, rfl, rfl, hla, hll, hls, hlv, hga, hbr⟩ := hrel
    by_cases hkp : k < power
    · have k0 : (0 : Int) ≤ (k : Int) := by omega
      have k1 : (k : Int) < (power : Int) := by omega
      have k2 : (power : Int) ≤ 3 := by omega
      have hsm := pow_small x k hx (by omega)
      rw [← hlv] at hsm
      have hnext : x * val la = x ^ (k + 1) := by rw [hlv, Nat.pow_succ, Nat.mul_comm]
      have HLV := Lib.hid (And.intro hlv (And.intro hnext hsm)); clear hlv hnext hsm
      have HLS := Lib.hid hls; clear hls
      have hgal := hla.lt
      have hbs := hbr.size
      go_wp2_with fail
      generalize hV : wr.alloc _ = V
      have hb0 : Has V wr.heap.size 3 (nats [0, 0, 0, 0, 0, 0, 0, 0, 0, 0]).toArray := by rw [← hV]; exact Has.made _ _ _
      have hla1 : Has V ga 3 (nats la).toArray := by rw [← hV]; exact hla.of_alloc _
      have hbV : Below w.heap.size w V := by rw [← hV]; exact hbr.alloc hbs _
      clear hV hbr hla
      obtain ⟨gb, hgb⟩ : ∃ g, wr.heap.size = g := ⟨_, rfl⟩
      rw [hgb] at hb0 hgal hbs
      rw [hgb]
      clear hgb
      go_loopw [10, 11] (fun v10 v11 wi => ∃ (i y : Nat) (lb : List Nat), i ≤ 3 ∧ v11 = .int .i64 (i : Int) ∧ v10 = .int .i64 (y : Int) ∧ y = x / 65536 ^ i ∧ Has wi gb 3 (nats lb).toArray ∧ lb.length = 10 ∧ (∀ z ∈ lb, z < 65536) ∧ val lb = x % 65536 ^ i * val la ∧ Below gb V wi) (fun _ v11 _ => 10 - (intOf v11).toNat)
      case atStart => exact ⟨0, x, _, Nat.zero_le _, rfl, rfl, by simp, hb0, rfl, by decide, by rw [Nat.pow_zero, Nat.mod_one, Nat.zero_mul]; rfl, Below.refl _ _⟩
      case round =>
        obtain ⟨i, y, lb, hi, rfl, rfl, hy, hlb, hlbl, hlbs, hlbv, hbi⟩ := hrel
        by_cases hi3 : i < 3
        · have i0 : (0 : Int) ≤ (i : Int) := by omega
          have i1 : (i : Int) < 3 := by omega
          obtain ⟨d, hd⟩ : ∃ d, y % 65536 = d := ⟨_, rfl⟩
          have hds : d < 65536 := by omega
          have hd1 : (y : Int) % 65536 = (d : Int) := by omega
          have hy0 : (0 : Int) ≤ (y : Int) := by omega
          have hd2 : (y : Int).tmod 65536 = (d : Int) := by rw [Int.tmod_eq_emod_of_nonneg hy0, hd1]
          have hyb : y < 2 ^ 38 := by
            have := Nat.div_le_self x (65536 ^ i)
            omega
          have hyn : y / 65536 = x / 65536 ^ (i + 1) := by rw [hy, Nat.pow_succ, Nat.div_div_eq_div_mul]
          have hdd : x / 65536 ^ i % 65536 = d := by rw [← hy, hd]
          have HY := Lib.hid (And.intro hyn hdd); clear hyn hdd hd hy
          have HLB := Lib.hid (And.intro hlbs hlbv); clear hlbs hlbv
          go_wp2_with fail
          go_loopw [12, 13] (fun v12 v13 wj => ∃ (j carry : Nat) (lc : List Nat), j + i ≤ 10 ∧ v13 = .int .i64 (j : Int) ∧ v12 = .int .i64 (carry : Int) ∧ carry < 65536 ∧ Has wj gb 3 (nats lc).toArray ∧ lc.length = 10 ∧ (∀ z ∈ lc, z < 65536) ∧ val lc + carry * 65536 ^ (i + j) = val lb + d * val (la.take j) * 65536 ^ i ∧ Below gb V wj) (fun _ v13 _ => 20 - (intOf v13).toNat)
          case atStart => exact ⟨0, 0, lb, by omega, rfl, rfl, by decide, hlb, hlbl, HLB.out.1, by simp [val], hbi⟩
          case round =>
            obtain ⟨j, carry, lc, hj, rfl, rfl, hcs, hlc, hlcl, hlcs, hlcv, hbj⟩ := hrel
            have j0 : (0 : Int) ≤ (j : Int) := by omega
            by_cases hje : j + i < 10
            · obtain ⟨m, hm⟩ : ∃ m, i + j = m := ⟨_, rfl⟩
              have hmi : (i : Int) + (j : Int) = (m : Int) := by omega
              have m0 : (0 : Int) ≤ (m : Int) := by omega
              have m1 : (m : Int) < 10 := by omega
              have j1 : (j : Int) < 10 := by omega
              have hja : j < la.length := by omega
              have hmc : m < lc.length := by omega
              have ca : wr.cell? ⟨ga, j, none⟩ = some (.int .i64 ((la[j]'hja : Nat) : Int)) := nats_cell (hla1.below hbj hgal) j hja
              have cb : wr.cell? ⟨gb, m, none⟩ = some (.int .i64 ((lc[m]'hmc : Nat) : Int)) := nats_cell hlc m hmc
              have hfr : wr.frozen? ⟨gb, m, none⟩ = false := hlc.free m
              obtain ⟨aj, haj⟩ : ∃ z, (la[j]'hja) = z := ⟨_, rfl⟩
              obtain ⟨bm, hbm⟩ : ∃ z, (lc[m]'hmc) = z := ⟨_, rfl⟩
              have hajs : aj < 65536 := by rw [← haj]; exact HLS.out _ (List.getElem_mem hja)
              have hbms : bm < 65536 := by rw [← hbm]; exact hlcs _ (List.getElem_mem hmc)
              obtain ⟨v, hv⟩ : ∃ v, bm + aj * d + carry = v := ⟨_, rfl⟩
              have hvs : v < 4294967296 := by rw [← hv]; exact limb_small _ _ _ _ hbms hajs hds hcs
              have hstep := mul_step la lb lc i j m d carry aj v hm hja haj hmc (by rw [hbm]; exact hv) (by rw [← hm]; exact hlcv)
              obtain ⟨q, hq1⟩ : ∃ q, aj * d = q := ⟨_, rfl⟩
              have hqi : (aj : Int) * (d : Int) = (q : Int) := by rw [← hq1]; simp
              rw [haj] at ca
              rw [hbm] at cb
              rw [hq1] at hv
              have hlcs2 := limbs_set lc hlcs m (v % 65536) (Nat.mod_lt _ (by decide))
              have HST := Lib.hid (And.intro hstep (And.intro hlcs2 (And.intro hm hlcl))); clear hstep hlcs2 hm hq1 haj hbm hlcv hlcs
              have q0 : (0 : Int) ≤ (q : Int) := by omega
              have q1 : (q : Int) < 4294967296 := by omega
              have b0 : (0 : Int) ≤ (bm : Int) := by omega
              have b1 : (bm : Int) < 65536 := by omega
              have c0 : (0 : Int) ≤ (carry : Int) := by omega
              have c1 : (carry : Int) < 65536 := by omega
              have hvi : (bm : Int) + (q : Int) + (carry : Int) = (v : Int) := by omega
              have v0 : (0 : Int) ≤ (v : Int) := by omega
              obtain ⟨lo, hlo⟩ : ∃ r, v % 65536 = r := ⟨_, rfl⟩
              obtain ⟨up, hup⟩ : ∃ r, v / 65536 = r := ⟨_, rfl⟩
              have v1 : (v : Int) % 65536 = (lo : Int) := by omega
              have v2 : (v : Int).tmod 65536 = (lo : Int) := by rw [Int.tmod_eq_emod_of_nonneg v0, v1]
              have v3 : (v : Int) / 65536 = (up : Int) := by omega
              have v4 : (v : Int).tdiv 65536 = (up : Int) := by rw [Int.tdiv_eq_ediv_of_nonneg v0, v3]
              have hups : up < 65536 := by omega
              rw [hlo, hup] at HST
              clear hlo hup hvs hv hds hbms hajs hyb
              go_wp2_with fail
              go_quiet (fail)
              go_wp2_with fail
              go_roundw
              case rel =>
                have hm := HST.out.2.2.1
                have hr := (show Has (wr.drewN nq) gb 3 (nats lc).toArray from hlc).set m (.int .i64 (lo : Int))
                rw [nats_set] at hr
                exact ⟨j + 1, up, lc.set m lo, by omega, by go_num, rfl, hups, hr, by rw [List.length_set]; exact HST.out.2.2.2, HST.out.2.1, by rw [← Nat.add_assoc, hm]; exact HST.out.1, (below_drewN hbj nq).setCell (Nat.le_refl _) _⟩
              case measure => simp [intOf]; omega
            · have hje2 : j = 10 - i := by omega
              have hend : val lc = x % 65536 ^ (i + 1) * val la := by
                rw [hje2, show i + (10 - i) = 10 by omega, ← HY.out.2] at hlcv
                exact mul_end la lb lc x i carry (by omega) hll HLV.out.2.2.1 HLV.out.2.2.2 HLB.out.2 hlcv
              have HEND := Lib.hid (And.intro hend hlcs); clear hend hlcs hlcv hje2
              obtain ⟨yn, hyn⟩ : ∃ z, y / 65536 = z := ⟨_, rfl⟩
              have e1 : (y : Int) / 65536 = (yn : Int) := by omega
              have e2 : (y : Int).tdiv 65536 = (yn : Int) := by rw [Int.tdiv_eq_ediv_of_nonneg hy0, e1]
              have hyx : yn = x / 65536 ^ (i + 1) := by rw [← hyn]; exact HY.out.1
              have yn0 : (0 : Int) ≤ (yn : Int) := by omega
              have yn1 : (yn : Int) < 274877906944 := by omega
              have HYX := Lib.hid hyx; clear hyx hyn hd1 hd2 hds hyb
              have hij : ¬ (i : Int) + (j : Int) < 10 := by omega
              have hij2 : (i : Int) + (j : Int) ≤ 10 := by omega
              clear hje hj hi
              rcases (show (j : Int) < 10 ∨ ¬ (j : Int) < 10 from Classical.em _) with j10 | j10
              all_goals
                go_wp2_with fail
                go_roundw
                case rel => exact ⟨i + 1, yn, lc, by omega, by go_num, rfl, HYX.out, hlc, hlcl, HEND.out.2, HEND.out.1, hbj⟩
                case measure => simp [intOf]; omega
        · have hi3e : i = 3 := by omega
          have hfin : val lb = x ^ (k + 1) := by
            have h48 : 2 ^ 38 < 65536 ^ 3 := by decide
            rw [hlbv, hi3e, Nat.mod_eq_of_lt (by omega)]
            exact HLV.out.2.1
          have HF := Lib.hid (And.intro hfin hlbs); clear hfin hlbs hlbv hy
          go_wp2_with fail
          go_roundw
          case rel => exact ⟨k + 1, gb, lb, by omega, by go_num, rfl, hlb, hlbl, HF.out.2, HF.out.1, hbs, hbV.trans (hbi.mono hbs)⟩
          case measure => simp [intOf]; omega
    · have hkp2 : k = power := by omega
      rw [hkp2] at hlv
      have hkn : ¬ (k : Int) < (power : Int) := by omega
      have HL := Lib.hid (And.intro hlv hls); clear hlv hls
      have hgal := hla.lt
      have hbs := hbr.size
      obtain ⟨qq, hqq⟩ : ∃ q, 2 * power = q := ⟨_, rfl⟩
      have hqi : 2 * (power : Int) = (qq : Int) := by omega
      have q0 : (0 : Int) ≤ (qq : Int) := by omega
      have q1 : (qq : Int) < 10 := by omega
      clear hk hkp hkp2
      go_upto_region 20 with (fail)
      generalize hU : wr.alloc _ = U
      have hw0 : Has U wr.heap.size 3 (nats [0, 0, 0, 0, 0, 0, 0, 0, 0, 0]).toArray := by rw [← hU]; exact Has.made _ _ _
      have hwb : Below w.heap.size w U := by rw [← hU]; exact hbr.alloc hbs _
      have hla1 : Has U ga 3 (nats la).toArray := by rw [← hU]; exact hla.of_alloc _
      clear hU
      obtain ⟨gw, hgw⟩ : ∃ g, wr.heap.size = g := ⟨_, rfl⟩
      rw [hgw] at hw0 hgal hbs
      rw [hgw]
      clear hgw
      obtain ⟨l0, hl0⟩ : ∃ l : List Nat, [0, 0, 0, 0, 0, 0, 0, 0, 0, 0] = l := ⟨_, rfl⟩
      have hl0v : val l0 = 0 := by rw [← hl0]; decide
      have hl0l : l0.length = 10 := by rw [← hl0]; rfl
      have hl0s : ∀ z ∈ l0, z = 0 := by rw [← hl0]; decide
      rw [hl0] at hw0
      clear hl0
      have hq10 : qq < l0.length := by omega
      have hce := nats_cell hw0 qq hq10
      have h00 : (l0[qq]'hq10) = 0 := hl0s _ (List.getElem_mem hq10)
      rw [h00] at hce
      have hfr := hw0.free qq
      have hwv : val (l0.set qq p) = p * 65536 ^ (2 * power) := by
        have h := val_set l0 qq hq10 p
        rw [h00, Nat.mul_zero, Nat.add_zero, hl0v, Nat.zero_add] at h
        rw [h, hqq, Nat.mul_comm]
      have hws : ∀ z ∈ l0.set qq p, z < 65536 := limbs_set _ (fun z hz => by rw [hl0s z hz]; decide) _ _ hq
      have hwl : (l0.set qq p).length = 10 := by rw [List.length_set]; exact hl0l
      have hw1 := hw0.set qq (.int .i64 (p : Int))
      have hwb1 := hwb.setCell (p := ⟨gw, qq, none⟩) hbs (.int .i64 (p : Int))
      have hla2 := hla1.other (p := ⟨gw, qq, none⟩) (by show ga ≠ gw; omega) (.int .i64 (p : Int))
      rw [nats_set] at hw1
      generalize l0.set qq p = lw at hwv hws hwl hw1
      have HWV := Lib.hid (And.intro hwv (And.intro hws (And.intro hw1 (And.intro hla2 hwb1)))); clear hwv hws hw1 hla2 hwb1 hla1 hwb hla hbr hl0v hl0s h00
      go_wp2_with fail
      generalize hV : World.setCell _ _ _ = V
      have vw : Has V gw 3 (nats lw).toArray := by rw [← hV]; exact HWV.out.2.2.1
      have va : Has V ga 3 (nats la).toArray := by rw [← hV]; exact HWV.out.2.2.2.1
      have vb : Below w.heap.size w V := by rw [← hV]; exact HWV.out.2.2.2.2
      clear hV hw0 hfr hce hq10 hl0l hgal hbs
      have hov : over x power p = decide (val lw < val la) := by
        unfold over
        rw [HWV.out.1, HL.out.1]
      have HOV := Lib.hid hov; clear hov
      go_loopw [16] (fun v16 wx => ∃ n : Nat, n ≤ 10 ∧ v16 = .int .i64 ((n : Int) - 1) ∧ la.drop n = lw.drop n ∧ Below w.heap.size w wx ∧ wx.heap = V.heap) (fun v16 _ => (intOf v16 + 1).toNat)
      case atStart => exact ⟨10, by decide, rfl, by rw [List.drop_eq_nil_of_le (by omega), List.drop_eq_nil_of_le (by omega)], vb, rfl⟩
      case round =>
        obtain ⟨n, hn, rfl, hdr, hbx, hwx⟩ := hrel
        have HDR := Lib.hid hdr; clear hdr
        cases n with
        | zero =>
          rw [show (((0 : Nat) : Int) - 1) = -1 from rfl]
          go_wp2_with fail
          go_ret
          have hd := HDR.out
          rw [List.drop_zero, List.drop_zero] at hd
          refine ⟨?_, hbx⟩
          rw [HOV.out, hd]
          simp
        | succ m =>
          rw [show (((m + 1 : Nat) : Int) - 1) = (m : Int) by omega]
          have m0 : (0 : Int) ≤ (m : Int) := by omega
          have m1 : (m : Int) < 10 := by omega
          have hma : m < la.length := by omega
          have hmw : m < lw.length := by omega
          have ca : wr.cell? ⟨ga, m, none⟩ = some (.int .i64 ((la[m]'hma : Nat) : Int)) := nats_cell (w := wr) (by unfold Has; rw [hwx]; exact va) m hma
          have cw : wr.cell? ⟨gw, m, none⟩ = some (.int .i64 ((lw[m]'hmw : Nat) : Int)) := nats_cell (w := wr) (by unfold Has; rw [hwx]; exact vw) m hmw
          obtain ⟨am, ham⟩ : ∃ z, (la[m]'hma) = z := ⟨_, rfl⟩
          obtain ⟨wm, hwm⟩ : ∃ z, (lw[m]'hmw) = z := ⟨_, rfl⟩
          rw [ham] at ca
          rw [hwm] at cw
          have hless : am < wm → val la < val lw := fun h => val_less la lw HL.out.2 m hma hmw HDR.out (by rw [ham, hwm]; exact h)
          have hmore : wm < am → val lw < val la := fun h => val_less lw la HWV.out.2.1 m hmw hma HDR.out.symm (by rw [ham, hwm]; exact h)
          have hsame : am = wm → la.drop m = lw.drop m := fun h => by
            rw [List.drop_eq_getElem_cons hma, List.drop_eq_getElem_cons hmw, ham, hwm, h, HDR.out]
          have HC := Lib.hid (And.intro hless (And.intro hmore hsame)); clear hless hmore hsame ham hwm
          rcases Nat.lt_trichotomy am wm with h | h | h
          · have h1 : (am : Int) ≠ (wm : Int) := by omega
            have h2 : ((am : Int) != (wm : Int)) = true := by simpa using h1
            have h3 : ¬ (am : Int) > (wm : Int) := by omega
            have h4 : ¬ (wm : Int) < (am : Int) := by omega
            have hv := HC.out.1 h
            have HV := Lib.hid hv; clear hv
            go_wp2_with fail
            go_quiet (fail)
            go_wp2_with fail
            go_quiet (fail)
            go_wp2_with fail
            go_ret
            have h5 : ¬ wm < am := by omega
            have h6 : ¬ val lw < val la := by have := HV.out; omega
            exact ⟨by rw [HOV.out, decide_eq_false h6, ← decide_eq_false h5]; rfl, below_drewN (below_drewN hbx _) _⟩
          · subst h
            have h2 : ((am : Int) != (am : Int)) = false := by simp
            have hs := HC.out.2.2 rfl
            have HS := Lib.hid hs; clear hs
            go_wp2_with fail
            go_quiet (fail)
            go_wp2_with fail
            go_roundw
            case rel => exact ⟨m, by omega, rfl, HS.out, below_drewN hbx _, hwx⟩
            case measure => simp [intOf]
          · have h1 : (am : Int) ≠ (wm : Int) := by omega
            have h2 : ((am : Int) != (wm : Int)) = true := by simpa using h1
            have h3 : (am : Int) > (wm : Int) := by omega
            have h4 : (wm : Int) < (am : Int) := by omega
            have hv := HC.out.2.1 h
            have HV := Lib.hid hv; clear hv
            go_wp2_with fail
            go_quiet (fail)
            go_wp2_with fail
            go_quiet (fail)
            go_wp2_with fail
            go_ret
            exact ⟨by rw [HOV.out, decide_eq_true HV.out]; rfl, below_drewN (below_drewN hbx _) _⟩
end Go.Proofs.YtbfomeifhmkpeaaDoor
