/-
  The contract of the reference's words.
-/
import Derived.Test.YtbfomeifhmkpeaaDoorRefWordsSpec
import Derived.Test.YtbfomeifhmkpeaaDoorRefTurn
import Derived.Test.YtbfomeifhmkpeaaDoorHex
import Derived.Deep.Cut
import Derived.Deep.DeepCutAuto
import Derived.Deep.CutBlock
import Derived.Deep.QuietTactic
namespace Go.Proofs.YtbfomeifhmkpeaaDoor
open Go.RowKit
set_option linter.unusedVariables false
theorem turn_lit (x : UInt32) (n : Int) (h0 : 2 ≤ n) (h1 : n < 32) (w : World) :
    Calls Tryd.prog 20 #[.int .i64 (x.toNat : Int), .int .i64 n] w (TurnPost w x n.toNat) := by
  have h := turn_any x n.toNat (by omega) (by omega) w
  rw [Int.toNat_of_nonneg (by omega)] at h
  exact h
theorem v_x3 (x : UInt32) (i j : Nat) : bits .xor .i64 (bits .xor .i64 ((rotr x i).toNat : Int) ((rotr x j).toNat : Int)) ((x.toNat : Int) / 8) = ((rotr x i ^^^ rotr x j ^^^ shr x 3).toNat : Int) := by
  rw [v_xor, w_shr x 3 8 rfl, v_xor]
theorem v_x10 (x : UInt32) (i j : Nat) : bits .xor .i64 (bits .xor .i64 ((rotr x i).toNat : Int) ((rotr x j).toNat : Int)) ((x.toNat : Int) / 1024) = ((rotr x i ^^^ rotr x j ^^^ shr x 10).toNat : Int) := by
  rw [v_xor, w_shr x 10 1024 rfl, v_xor]
theorem words_cell {w : World} {B g cap n : Nat} {l : List UInt32} (h : w.ownsRow B 3 1 (.slice (some ⟨g, 0, none⟩) n cap) n (nats (wnats (l.take n)))) (hl : n ≤ l.length) (j : Nat) (hj : j < n) : w.cell? ⟨g, j, none⟩ = some (.int .i64 ((l.getD j 0).toNat : Int)) := by
  have hjl : j < l.length := by omega
  rw [h.cellAt j (by omega)]
  simp [nats, wnats, hj, hjl, List.getD]
theorem sch_all (b : List UInt8) : (sch2 b 48).take 64 = sched b := by
  unfold sched
  exact List.take_of_length_le (by rw [sch2_len]; omega)
def WordsPost (w : World) (l : List UInt32) (e : Ending) (w' : World) : Prop := ∃ v, e = .returned v ∧ w'.ownsRow w.heap.size 3 1 v l.length (nats (wnats l)) ∧ Below w.heap.size w w'
set_option maxRecDepth 100000 in
set_option maxHeartbeats 4000000 in
theorem words_any (b : List UInt8) (hb : b.length = 64) (w : World) : Calls Tryd.prog 19 #[.string (S b)] w (WordsPost w (sched b)) := by
  obtain ⟨i0, hi, hz0, hz1, hz2⟩ := info_parts iinfo
  have HI := Lib.hid (And.intro hi (And.intro hz0 (And.intro hz1 hz2))); clear hi hz0 hz1 hz2
  have HB := Lib.hid hb; clear hb
  go_enter Tryd.func19, Tryd.ntmps19
  go_upto_block 0 with (fail)
  go_cut [3] (fun v3 w2 => w2.ownsRow w.heap.size 3 1 v3 16 (nats (wnats ((sch1 b 64).take 16))) ∧ Below w.heap.size w w2)
  case first =>
    go_wp2_with fail
    go_loopw [3, 4] (fun v3 v4 wr => ∃ i : Nat, i ≤ 16 ∧ v4 = .int .i64 (i : Int) ∧ wr.ownsRow w.heap.size 3 1 v3 i (nats (wnats ((sch1 b (4 * i)).take i))) ∧ Below w.heap.size w wr) (fun _ v4 _ => 20 - (intOf v4).toNat)
    case atStart => exact ⟨0, Nat.zero_le _, rfl, World.ownsRow_nil _ _ _ _, Below.refl _ _⟩
    case round =>
      obtain ⟨i, hi, rfl, hown, hbk⟩ := hrel
      by_cases hlt : i < 16
      · have hi0 : (0 : Int) ≤ (i : Int) := by omega
        have hi1 : (i : Int) < 16 := by omega
        obtain ⟨k0, hk0⟩ : ∃ k, 4 * i = k := ⟨_, rfl⟩
        obtain ⟨k1, hk1⟩ : ∃ k, 4 * i + 1 = k := ⟨_, rfl⟩
        obtain ⟨k2, hk2⟩ : ∃ k, 4 * i + 2 = k := ⟨_, rfl⟩
        obtain ⟨k3, hk3⟩ : ∃ k, 4 * i + 3 = k := ⟨_, rfl⟩
        have e0 : 4 * (i : Int) = (k0 : Int) := by omega
        have e1 : (k0 : Int) + 1 = (k1 : Int) := by omega
        have e2 : (k0 : Int) + 2 = (k2 : Int) := by omega
        have e3 : (k0 : Int) + 3 = (k3 : Int) := by omega
        have b0 : (k0 : Int) < 64 := by omega
        have b1 : (k1 : Int) < 64 := by omega
        have b2 : (k2 : Int) < 64 := by omega
        have b3 : (k3 : Int) < 64 := by omega
        have z0 : (0 : Int) ≤ (k0 : Int) := by omega
        have z1 : (0 : Int) ≤ (k1 : Int) := by omega
        have z2 : (0 : Int) ≤ (k2 : Int) := by omega
        have z3 : (0 : Int) ≤ (k3 : Int) := by omega
        have hbl := HB.out
        have x0 := fun W : World => run_index_S (P := Tryd.prog) (t := 9) W b .i64 k0 Tryd.underlying9 (by omega)
        have x1 := fun W : World => run_index_S (P := Tryd.prog) (t := 9) W b .i64 k1 Tryd.underlying9 (by omega)
        have x2 := fun W : World => run_index_S (P := Tryd.prog) (t := 9) W b .i64 k2 Tryd.underlying9 (by omega)
        have x3 := fun W : World => run_index_S (P := Tryd.prog) (t := 9) W b .i64 k3 Tryd.underlying9 (by omega)
        have hnx := first_next b i hlt
        have hw : w4 b i = sh8 (sh8 (sh8 (sh8 0 (b[k0]'(by omega))) (b[k1]'(by omega))) (b[k2]'(by omega))) (b[k3]'(by omega)) := by
          unfold w4
          rw [hk1, hk2, hk3, hk0, getD_get8 b k0 (by omega), getD_get8 b k1 (by omega), getD_get8 b k2 (by omega), getD_get8 b k3 (by omega)]
        rw [hw] at hnx
        clear hw
        generalize (b[k0]'(by omega)) = c0 at x0 hnx
        generalize (b[k1]'(by omega)) = c1 at x1 hnx
        generalize (b[k2]'(by omega)) = c2 at x2 hnx
        generalize (b[k3]'(by omega)) = c3 at x3 hnx
        have hv := v_w4 c0 c1 c2 c3
        generalize sh8 (sh8 (sh8 (sh8 0 c0) c1) c2) c3 = x at hv hnx
        have y0 := c0.toNat_lt
        have y1 := c1.toNat_lt
        have y2 := c2.toNat_lt
        have y3 := c3.toNat_lt
        have q0 : (c0.toNat : Int) < 256 := by omega
        have q1 : (c1.toNat : Int) < 256 := by omega
        have q2 : (c2.toNat : Int) < 256 := by omega
        have q3 : (c3.toNat : Int) < 256 := by omega
        have p0 : (0 : Int) ≤ (c0.toNat : Int) := by omega
        have p1 : (0 : Int) ≤ (c1.toNat : Int) := by omega
        have p2 : (0 : Int) ≤ (c2.toNat : Int) := by omega
        have p3 : (0 : Int) ≤ (c3.toNat : Int) := by omega
        have wk0 : IntKind.i64.wrap (4 * (i : Int)) = (k0 : Int) := by rw [IntKind.wrap_i64]; omega
        have wk1 : IntKind.i64.wrap ((k0 : Int) + 1) = (k1 : Int) := by rw [IntKind.wrap_i64]; omega
        have wk2 : IntKind.i64.wrap ((k0 : Int) + 2) = (k2 : Int) := by rw [IntKind.wrap_i64]; omega
        have wk3 : IntKind.i64.wrap ((k0 : Int) + 3) = (k3 : Int) := by rw [IntKind.wrap_i64]; omega
        have wc0 : IntKind.i64.wrap ((c0.toNat : Int) * 16777216) = (c0.toNat : Int) * 16777216 := by rw [IntKind.wrap_i64]; omega
        have wc1 : IntKind.i64.wrap ((c1.toNat : Int) * 65536) = (c1.toNat : Int) * 65536 := by rw [IntKind.wrap_i64]; omega
        have wc2 : IntKind.i64.wrap ((c2.toNat : Int) * 256) = (c2.toNat : Int) * 256 := by rw [IntKind.wrap_i64]; omega
        have wd0 : IntKind.i64.wrap (c0.toNat : Int) = (c0.toNat : Int) := by rw [IntKind.wrap_i64]; omega
        have wd1 : IntKind.i64.wrap (c1.toNat : Int) = (c1.toNat : Int) := by rw [IntKind.wrap_i64]; omega
        have wd2 : IntKind.i64.wrap (c2.toNat : Int) = (c2.toNat : Int) := by rw [IntKind.wrap_i64]; omega
        have wd3 : IntKind.i64.wrap (c3.toNat : Int) = (c3.toNat : Int) := by rw [IntKind.wrap_i64]; omega
        have HNX := Lib.hid hnx; clear hnx hbl hk0 hk1 hk2 hk3 y0 y1 y2 y3 e0 e1 e2 e3 b0 b1 b2 b3 z0 z1 z2 z3 q0 q1 q2 q3 p0 p1 p2 p3
        have HO := Lib.hid hown; clear hown
        have hbsz := hbk.size
        go_upto_region 5 with (fail)
        have hox : ∀ W' : World, W'.heap = (wr.alloc (.cells #[.int .i64 (x.toNat : Int)] 3)).heap → W'.ownsRow w.heap.size 3 1 u3 i (nats (wnats ((sch1 b (4 * i)).take i))) := fun W' hW' => own_heap (HO.out.alloc _) hW'
        have hnw : ∀ W' : World, W'.heap = (wr.alloc (.cells #[.int .i64 (x.toNat : Int)] 3)).heap → ∀ j u, [Value.int .i64 (x.toNat : Int)][j]? = some u → W'.cell? ((⟨wr.heap.size, 0, none⟩ : Addr).add j) = some u := fun W' hW' => World.news_of_block (w := W') (B := wr.heap.size) (cs := #[.int .i64 (x.toNat : Int)]) (t := 3) (fr := (0, 0)) (by rw [hW']; exact heap_alloc_new _ _)
        have HOX := Lib.hid hox; clear hox
        have HNW := Lib.hid hnw; clear hnw
        go_region_law (refine step_append_lies _ rfl (.tmp 12) (.tmp 42) 29 rfl w.heap.size 3 i0 (.int .i64 0) 1 8 Tryd.underlying29 HI.out.1 HI.out.2.1 HI.out.2.2.1 HI.out.2.2.2 rfl (by decide) u3 i (nats (wnats ((sch1 b (4 * i)).take i))) (by simp [Act.eval, Act.put]) (HOX.out _ rfl) ⟨wr.heap.size, 0, none⟩ 1 1 [.int .i64 (x.toNat : Int)] (by simp [Act.eval, Act.put]) rfl (HNW.out _ rfl) (by simp [Value.oneCell']) (by decide) (by simp only [maxLen]; omega) (by omega) (by simp; omega) _ rfl ?_; intro g3 cap3 w3 hown3 hg3 hat3 hlt3)
        all_goals
          have hown4 : w3.ownsRow w.heap.size 3 1 (.slice (some ⟨g3, 0, none⟩) (i + 1) cap3) (i + 1) (nats (wnats ((sch1 b (4 * (i + 1))).take (i + 1)))) := by
            have e : nats (wnats ((sch1 b (4 * (i + 1))).take (i + 1))) = nats (wnats ((sch1 b (4 * i)).take i)) ++ [.int .i64 (x.toNat : Int)] := by rw [HNX.out]; simp [nats, wnats]
            rw [e]
            exact hown3
          have hb4 : Below w.heap.size w w3 := (hbk.drew.grown (grown_alloc' hg3) hbsz (fun k hk => (HO.out.lt k hk).1))
          clear hown3 hg3 hat3 hlt3
          go_wp2_with fail
          go_roundw
          case rel => exact ⟨i + 1, by omega, by go_num, hown4, hb4⟩
          case measure => simp [intOf]; omega
      · have hie : i = 16 := by omega
        have hi1 : ¬ (i : Int) < 16 := by omega
        subst hie
        have HO := Lib.hid hown; clear hown hlt hi
        go_wp2_with fail
        go_meet
        case rel => exact ⟨HO.out, hbk⟩
  case rest =>
    obtain ⟨hown16, hb16⟩ := hcut
    go_wp2_with fail
    go_loopw [3, 5, 6, 7] (fun v3 v5 v6 v7 wr => ∃ (m i : Nat), m ≤ 48 ∧ i = m + 16 ∧ v5 = .int .i64 (i : Int) ∧ wr.ownsRow w.heap.size 3 1 v3 i (nats (wnats ((sch2 b m).take i))) ∧ Below w.heap.size w wr) (fun _ v5 _ _ _ => 64 - (intOf v5).toNat)
    case atStart => exact ⟨0, 16, by omega, rfl, rfl, hown16, hb16⟩
    case round =>
      clear hown16 hb16
      obtain ⟨m, i, hm, hi, rfl, hown, hbk⟩ := hrel
      by_cases hlt : m < 48
      · obtain ⟨g, cap, rfl, hBg, hgl, hnc, _⟩ := own_at hown 0 (by omega)
        have hcell := fun j hj => words_cell hown (by rw [sch2_len]; omega) j hj
        have hnx := then_next b m hlt
        rw [← hi] at hnx
        obtain ⟨k1, hk1⟩ : ∃ k, m + 1 = k := ⟨_, rfl⟩
        obtain ⟨k9, hk9⟩ : ∃ k, m + 9 = k := ⟨_, rfl⟩
        obtain ⟨k14, hk14⟩ : ∃ k, m + 14 = k := ⟨_, rfl⟩
        have hnv : nextw (sch2 b m) m = (sch2 b m).getD m 0 + (rotr ((sch2 b m).getD (m + 1) 0) 7 ^^^ rotr ((sch2 b m).getD (m + 1) 0) 18 ^^^ shr ((sch2 b m).getD (m + 1) 0) 3) + (sch2 b m).getD (m + 9) 0 + (rotr ((sch2 b m).getD (m + 14) 0) 17 ^^^ rotr ((sch2 b m).getD (m + 14) 0) 19 ^^^ shr ((sch2 b m).getD (m + 14) 0) 10) := rfl
        rw [hk1, hk9, hk14] at hnv
        have c0 := hcell m (by omega)
        have c1 := hcell k1 (by omega)
        have c9 := hcell k9 (by omega)
        have c14 := hcell k14 (by omega)
        generalize (sch2 b m).getD m 0 = x0 at hnv c0
        generalize (sch2 b m).getD k1 0 = x1 at hnv c1
        generalize (sch2 b m).getD k9 0 = x9 at hnv c9
        generalize (sch2 b m).getD k14 0 = x14 at hnv c14
        have hu := v_x3 x1 7 18
        have hv := v_x10 x14 17 19
        generalize rotr x1 7 ^^^ rotr x1 18 ^^^ shr x1 3 = U at hu hnv
        generalize rotr x14 17 ^^^ rotr x14 19 ^^^ shr x14 10 = V at hv hnv
        obtain ⟨x, hx⟩ : ∃ x, x0 + U + x9 + V = x := ⟨_, rfl⟩
        rw [hx] at hnv
        rw [hnv] at hnx
        clear hnv
        obtain ⟨s1, hs1⟩ : ∃ s, x0.toNat + U.toNat = s := ⟨_, rfl⟩
        obtain ⟨s2, hs2⟩ : ∃ s, s1 + x9.toNat = s := ⟨_, rfl⟩
        obtain ⟨s3, hs3⟩ : ∃ s, s2 + V.toNat = s := ⟨_, rfl⟩
        have hxn : s3 % 4294967296 = x.toNat := by
          rw [← hx, ← hs3, ← hs2, ← hs1]; simp only [UInt32.toNat_add]; omega
        have l0 := w_lt x0
        have lU := w_lt U
        have l9 := w_lt x9
        have lV := w_lt V
        have w1 : IntKind.i64.wrap ((x0.toNat : Int) + (U.toNat : Int)) = (s1 : Int) := by rw [IntKind.wrap_i64]; omega
        have w2 : IntKind.i64.wrap ((s1 : Int) + (x9.toNat : Int)) = (s2 : Int) := by rw [IntKind.wrap_i64]; omega
        have w3 : IntKind.i64.wrap ((s2 : Int) + (V.toNat : Int)) = (s3 : Int) := by rw [IntKind.wrap_i64]; omega
        have w4 : (s3 : Int) % 4294967296 = (x.toNat : Int) := by omega
        have w5 : (s3 : Int).tmod 4294967296 = (x.toNat : Int) := by rw [Int.tmod_eq_emod_of_nonneg (by omega)]; exact w4
        have j1 : IntKind.i64.wrap ((i : Int) - 15) = (k1 : Int) := by rw [IntKind.wrap_i64]; omega
        have j14 : IntKind.i64.wrap ((i : Int) - 2) = (k14 : Int) := by rw [IntKind.wrap_i64]; omega
        have j0 : IntKind.i64.wrap ((i : Int) - 16) = (m : Int) := by rw [IntKind.wrap_i64]; omega
        have j9 : IntKind.i64.wrap ((i : Int) - 7) = (k9 : Int) := by rw [IntKind.wrap_i64]; omega
        have b1 : (k1 : Int) < (i : Int) := by omega
        have b14 : (k14 : Int) < (i : Int) := by omega
        have b0 : (m : Int) < (i : Int) := by omega
        have b9 : (k9 : Int) < (i : Int) := by omega
        have z1 : (0 : Int) ≤ (k1 : Int) := by omega
        have z14 : (0 : Int) ≤ (k14 : Int) := by omega
        have z0 : (0 : Int) ≤ (m : Int) := by omega
        have z9 : (0 : Int) ≤ (k9 : Int) := by omega
        have zi : (0 : Int) ≤ (i : Int) := by omega
        have ii : (i : Int) < 64 := by omega
        have HNX := Lib.hid hnx
        have HIM := Lib.hid (And.intro hm (And.intro hi hlt))
        have HO := Lib.hid hown
        clear hnx hown hcell hk1 hk9 hk14 hx hs1 hs2 hs3 hxn l0 lU l9 lV hm hi hlt
        go_upto_region 9 with (fail)
        go_quiet ((go_at_call 20; exact Calls.quiet_of (turn_lit _ _ (by omega) (by omega) _)))
        go_upto_region 10 with (fail)
        generalize hWk : World.drewN wr _ = W2
        have hh2 : W2.heap = wr.heap := by rw [← hWk]; rfl
        have hb2 : Below w.heap.size w W2 := by rw [← hWk]; exact below_drewN hbk _
        replace c0 : W2.cell? ⟨g, m, none⟩ = some (.int .i64 (x0.toNat : Int)) := by rw [← hWk]; exact c0
        replace c9 : W2.cell? ⟨g, k9, none⟩ = some (.int .i64 (x9.toNat : Int)) := by rw [← hWk]; exact c9
        replace c14 : W2.cell? ⟨g, k14, none⟩ = some (.int .i64 (x14.toNat : Int)) := by rw [← hWk]; exact c14
        clear hWk c1 hu hbk
        go_quiet ((go_at_call 20; exact Calls.quiet_of (turn_lit _ _ (by omega) (by omega) _)))
        go_upto_region 11 with (fail)
        generalize hWk : World.drewN W2 _ = W3
        have hh3 : W3.heap = wr.heap := by rw [← hWk]; exact hh2
        have hb3 : Below w.heap.size w W3 := by rw [← hWk]; exact below_drewN hb2 _
        replace c0 : W3.cell? ⟨g, m, none⟩ = some (.int .i64 (x0.toNat : Int)) := by rw [← hWk]; exact c0
        replace c9 : W3.cell? ⟨g, k9, none⟩ = some (.int .i64 (x9.toNat : Int)) := by rw [← hWk]; exact c9
        clear hWk c14 hv hb2 hh2
        have hox : ∀ W' : World, W'.heap = (W3.alloc (.cells #[.int .i64 (x.toNat : Int)] 3)).heap → W'.ownsRow w.heap.size 3 1 (.slice (some ⟨g, 0, none⟩) i cap) i (nats (wnats ((sch2 b m).take i))) := fun W' hW' => own_heap ((own_heap HO.out hh3).alloc _) hW'
        have hnw : ∀ W' : World, W'.heap = (W3.alloc (.cells #[.int .i64 (x.toNat : Int)] 3)).heap → ∀ j u, [Value.int .i64 (x.toNat : Int)][j]? = some u → W'.cell? ((⟨W3.heap.size, 0, none⟩ : Addr).add j) = some u := fun W' hW' => World.news_of_block (w := W') (B := W3.heap.size) (cs := #[.int .i64 (x.toNat : Int)]) (t := 3) (fr := (0, 0)) (by rw [hW']; exact heap_alloc_new _ _)
        have hbsz := hb3.size
        have HOX := Lib.hid hox; clear hox
        have HNW := Lib.hid hnw; clear hnw
        have hgl3 : g < W3.heap.size := by rw [hh3]; exact hgl
        clear hgl hh3
        go_region_law (refine step_append_lies _ rfl (.tmp 88) (.tmp 105) 29 rfl w.heap.size 3 i0 (.int .i64 0) 1 8 Tryd.underlying29 HI.out.1 HI.out.2.1 HI.out.2.2.1 HI.out.2.2.2 rfl (by decide) (.slice (some ⟨g, 0, none⟩) i cap) i (nats (wnats ((sch2 b m).take i))) (by simp [Act.eval, Act.put]) (HOX.out _ rfl) ⟨W3.heap.size, 0, none⟩ 1 1 [.int .i64 (x.toNat : Int)] (by simp [Act.eval, Act.put]) rfl (HNW.out _ rfl) (by simp [Value.oneCell']) (by decide) (by simp only [maxLen]; omega) (by omega) (by simp; omega) _ rfl ?_; intro g3 cap3 w3 hown3 hg3 hat3 hlt3)
        all_goals
          have hown4 : w3.ownsRow w.heap.size 3 1 (.slice (some ⟨g3, 0, none⟩) (i + 1) cap3) (i + 1) (nats (wnats ((sch2 b (m + 1)).take (i + 1)))) := by
            have e : nats (wnats ((sch2 b (m + 1)).take (i + 1))) = nats (wnats ((sch2 b m).take i)) ++ [.int .i64 (x.toNat : Int)] := by rw [HNX.out]; simp [nats, wnats]
            rw [e]
            exact hown3
          have hb4 : Below w.heap.size w w3 := (hb3.drew.grown (grown_alloc' hg3) hbsz (fun k hk => (HO.out.lt k hk).1))
          clear hown3 hg3 hat3 hlt3
          go_wp2_with fail
          go_roundw
          case rel => exact ⟨m + 1, i + 1, by have := HIM.out; omega, by have := HIM.out; omega, by go_num, hown4, hb4⟩
          case measure => simp [intOf]; omega
      · have hme : m = 48 := by omega
        have hie : i = 64 := by omega
        subst hme
        subst hie
        have HO := Lib.hid hown
        have hii : ¬ ((64 : Nat) : Int) < 64 := by omega
        have hl : (sched b).length = 64 := sch2_len b 48
        have hfin : WordsPost w (sched b) (.returned u3) wr := by
          refine ⟨u3, rfl, ?_, hbk⟩
          rw [hl, ← sch_all b]
          exact HO.out
        have HF := Lib.hid hfin
        clear hown hfin hlt hi
        go_wp2_with fail
        go_ret
        exact HF.out
end Go.Proofs.YtbfomeifhmkpeaaDoor
