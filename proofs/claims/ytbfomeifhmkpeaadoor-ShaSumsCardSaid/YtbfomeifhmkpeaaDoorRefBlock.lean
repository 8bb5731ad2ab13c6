/-
  The contract of the reference's block.
-/
import Derived.Test.YtbfomeifhmkpeaaDoorRefWords
import Derived.Test.YtbfomeifhmkpeaaDoorRefBlockSpec
import Derived.Test.YtbfomeifhmkpeaaDoorShaTabs
import Derived.Deep.QuietTactic
import Derived.Deep.Cut
import Derived.Deep.DeepCutAuto
import Derived.Deep.CutBlock
import Derived.Deep.RegionHeld3
namespace Go.Proofs.YtbfomeifhmkpeaaDoor
open Go.RowKit
set_option linter.unusedVariables false

theorem own_base {w : World} {B B' e s n : Nat} {v : Value} {xs : List Value} (h : w.ownsRow B' e s v n xs) (hB : B ≤ B') : w.ownsRow B e s v n xs :=
  ⟨h.1, h.2.imp id (fun ⟨g, cap, cur, hv, hb, r⟩ => ⟨g, cap, cur, hv, Nat.le_trans hB hb, r⟩)⟩
/-- Eight words in ints. -/
def Row8 (w : World) (g : Nat) (s : S8) : Prop := ∀ j, j < 8 → w.cell? ⟨g, j, none⟩ = some (.int .i64 ((s.toList.getD j 0).toNat : Int))
theorem Row8.heap {w w' : World} {g : Nat} {s : S8} (h : Row8 w g s) (hh : w'.heap = w.heap) : Row8 w' g s := fun j hj => by
  rw [← h j hj]; exact World.cell?_of_block (by rw [hh])
theorem Row8.below {w w' : World} {g B : Nat} {s : S8} (h : Row8 w g s) (hb : Below B w w') (hg : g < B) : Row8 w' g s := fun j hj => (hb.cell (p := ⟨g, j, none⟩) hg).trans (h j hj)
/-- The 64 added words in ints. -/
def RowK (w : World) (g : Nat) (l : List UInt32) : Prop := ∀ j, j < 64 → w.cell? ⟨g, j, none⟩ = some (.int .i64 ((l.getD j 0).toNat : Int))
theorem RowK.below {w w' : World} {g B : Nat} {l : List UInt32} (h : RowK w g l) (hb : Below B w w') (hg : g < B) : RowK w' g l := fun j hj => (hb.cell (p := ⟨g, j, none⟩) hg).trans (h j hj)
theorem row8_made {w : World} {g : Nat} {s : S8} (h : Has w g 3 #[.int .i64 (s.a.toNat : Int), .int .i64 (s.b.toNat : Int), .int .i64 (s.c.toNat : Int), .int .i64 (s.d.toNat : Int), .int .i64 (s.e.toNat : Int), .int .i64 (s.f.toNat : Int), .int .i64 (s.g.toNat : Int), .int .i64 (s.h.toNat : Int)]) : Row8 w g s := fun j hj => by
  match j, hj with
  | 0, _ => exact h.cell 0
  | 1, _ => exact h.cell 1
  | 2, _ => exact h.cell 2
  | 3, _ => exact h.cell 3
  | 4, _ => exact h.cell 4
  | 5, _ => exact h.cell 5
  | 6, _ => exact h.cell 6
  | 7, _ => exact h.cell 7
theorem wrap_nat (a : Int) (n : Nat) (h : a = (n : Int)) (hn : n < 9223372036854775808) : IntKind.i64.wrap a = (n : Int) := by rw [h, IntKind.wrap_i64]; omega
theorem cell_alloc_old (W : World) (o : Obj) (g j : Nat) (h : g < W.drew.heap.size) : (W.drew.alloc o).cell? ⟨g, j, none⟩ = W.drew.cell? ⟨g, j, none⟩ := World.cell?_of_block (Below.heap_alloc W.drew o g h)
theorem words_len (b : List UInt8) : (sched b).length = 64 := sch2_len b 48

set_option maxRecDepth 100000 in
set_option maxHeartbeats 8000000 in
theorem block_any (s : S8) (b : List UInt8) (hb : b.length = 64) (gh gk caph capk : Nat) (w : World) (hh : Row8 w gh s) (hk : RowK w gk Sha.kl) (hgh : gh < w.heap.size) (hgk : gk < w.heap.size) :
    Calls Tryd.prog 13 #[.slice (some ⟨gh, 0, none⟩) 8 caph, .slice (some ⟨gk, 0, none⟩) 64 capk, .string (S b)] w (WordsPost w (Sha.mixB s b).toList) := by
  obtain ⟨i0, hi, hz0, hz1, hz2⟩ := info_parts iinfo
  have HI := Lib.hid (And.intro hi (And.intro hz0 (And.intro hz1 hz2))); clear hi hz0 hz1 hz2
  have HW := Lib.hid (words_any b hb w)
  have HB := Lib.hid hb; clear hb
  have HH := Lib.hid (And.intro hh hk); clear hh hk
  go_enter Tryd.func13, Tryd.ntmps13
  go_wp2_with fail
  refine HW.out.mono ?_
  rintro r1 w1 ⟨vw, rfl, hownw, hb1⟩
  rw [words_len] at hownw
  obtain ⟨gw, capw, rfl, hBgw, hgwl, _, _⟩ := own_at hownw 0 (by decide)
  have hcw : RowK w1 gw (sched b) := fun j hj => words_cell (by rw [List.take_of_length_le (by rw [words_len]; omega)]; exact hownw) (by rw [words_len]; omega) j hj
  have h1 := hb1.size
  have HCW := Lib.hid hcw; clear hcw hownw
  have hown0 : (w1.alloc (.cells #[] 3)).ownsRow w1.heap.size 3 1 (.slice (some ⟨w1.heap.size, 0, none⟩) 0 0) 0 [] :=
    ⟨rfl, Or.inr ⟨w1.heap.size, 0, #[], rfl, Nat.le_refl _, Has.made _ _ _, Nat.le_refl _, by decide, rfl, rfl⟩⟩
  have hnews : ∀ j u, (nats (wnats s.toList))[j]? = some u → (w1.alloc (.cells #[] 3)).cell? ((⟨gh, 0, none⟩ : Addr).add j) = some u := by
    intro j u hu
    have hj : j < 8 := by have := (List.getElem?_eq_some_iff.1 hu).1; simpa [nats, wnats, S8.toList] using this
    rw [show (⟨gh, 0, none⟩ : Addr).add j = ⟨gh, j, none⟩ by unfold Addr.add; split <;> simp_all]
    have hc := ((HH.out.1.below hb1 hgh).below ((Below.refl w1.heap.size w1).alloc (Nat.le_refl _) (.cells #[] 3)) (by omega)) j hj
    rw [hc, ← hu]
    have hj2 : j < s.toList.length := hj
    simp [nats, wnats, List.getD, hj2]
  go_upto_region 3 with (at_builtin; go_loud (refine wpList_append_lies _ rfl (.tmp 19) (.tmp 20) 29 rfl w1.heap.size 3 i0 (.int .i64 0) 1 8 Tryd.underlying29 HI.out.1 HI.out.2.1 HI.out.2.2.1 HI.out.2.2.2 rfl (by decide) (.slice (some ⟨w1.heap.size, 0, none⟩) 0 0) 0 [] rfl hown0 ⟨gh, 0, none⟩ 8 caph (nats (wnats s.toList)) rfl rfl hnews (by simp [nats, Value.oneCell']) (by decide) (by simp only [maxLen]; omega) (by omega) (by simp) _ rfl ?_); intro g3 cap3 w3 hown3 hg3 hat3 hlt3)
  have hb13 : Below w1.heap.size w1 w3 := ((Below.refl _ w1).alloc (Nat.le_refl _) (.cells #[] 3)).grown hg3 (by simp) (fun k hk => by simp [Value.ownBlock] at hk; omega)
  have hrow3 : Row8 w3 g3 s := fun j hj => by
    rw [hown3.cellAt j (by omega)]
    have hj2 : j < s.toList.length := hj
    simp [nats, wnats, List.getD, hj2]
  have hb03 := hb1.trans (hb13.mono h1)
  have HK := Lib.hid (And.intro ((HH.out.1.below hb1 hgh).below hb13 (by omega)) (And.intro ((HH.out.2.below hb1 hgk).below hb13 (by omega)) (HCW.out.below hb13 hgwl)))
  have h3 := hb13.size
  clear hown3 hg3 hat3 hown0 hnews hb1 hb13
  go_upto_block 0 with (fail)
  go_cut [8] (fun v8 w2 => ∃ gv capv, v8 = .slice (some ⟨gv, 0, none⟩) 8 capv ∧ Row8 w2 gv (s.rounds Sha.kl (sched b) 64) ∧ gv < w2.heap.size ∧ Below w3.heap.size w3 w2)
  case first =>
    go_wp2_with fail
    go_loopw [8, 9, 10, 11, 12, 13, 14] (fun v8 v9 v10 v11 v12 v13 v14 wr => ∃ (i gv capv : Nat), i ≤ 64 ∧ v9 = .int .i64 (i : Int) ∧ v8 = .slice (some ⟨gv, 0, none⟩) 8 capv ∧ Row8 wr gv (s.rounds Sha.kl (sched b) i) ∧ gv < wr.heap.size ∧ Below w3.heap.size w3 wr) (fun _ v9 _ _ _ _ _ _ => 64 - (intOf v9).toNat)
    case atStart => exact ⟨0, g3, cap3, Nat.zero_le _, rfl, rfl, hrow3, hlt3, Below.refl _ _⟩
    case round =>
      clear hrow3 hlt3
      obtain ⟨i, gv, capv, hi, rfl, rfl, hrow, hgv, hbwr⟩ := hrel
      by_cases hlt : i < 64
      · have hnx : s.rounds Sha.kl (sched b) (i + 1) = (s.rounds Sha.kl (sched b) i).round (Sha.kl.getD i 0) ((sched b).getD i 0) := rfl
        have ck := ((HK.out.2.1.below hbwr (by omega)) i hlt)
        have cw := ((HK.out.2.2.below hbwr (by omega)) i hlt)
        generalize Sha.kl.getD i 0 = kk at hnx ck
        generalize (sched b).getD i 0 = ww at hnx cw
        generalize s.rounds Sha.kl (sched b) i = st at hnx hrow
        obtain ⟨a, b1, c, d, e, f, g, h⟩ := st
        obtain ⟨X, hX⟩ : ∃ x, rotr e 6 ^^^ rotr e 11 ^^^ rotr e 25 = x := ⟨_, rfl⟩
        obtain ⟨p1, hp1⟩ : ∃ x, e &&& f = x := ⟨_, rfl⟩
        obtain ⟨ne, hne⟩ : ∃ x, ~~~ e = x := ⟨_, rfl⟩
        obtain ⟨p2, hp2⟩ : ∃ x, ne &&& g = x := ⟨_, rfl⟩
        obtain ⟨F, hF⟩ : ∃ x, p1 ^^^ p2 = x := ⟨_, rfl⟩
        obtain ⟨Y, hY⟩ : ∃ x, rotr a 2 ^^^ rotr a 13 ^^^ rotr a 22 = x := ⟨_, rfl⟩
        obtain ⟨q1, hq1⟩ : ∃ x, a &&& b1 = x := ⟨_, rfl⟩
        obtain ⟨q2, hq2⟩ : ∃ x, a &&& c = x := ⟨_, rfl⟩
        obtain ⟨q3, hq3⟩ : ∃ x, b1 &&& c = x := ⟨_, rfl⟩
        obtain ⟨q4, hq4⟩ : ∃ x, q1 ^^^ q2 = x := ⟨_, rfl⟩
        obtain ⟨G, hG⟩ : ∃ x, q4 ^^^ q3 = x := ⟨_, rfl⟩
        obtain ⟨s1, hs1⟩ : ∃ x, h.toNat + X.toNat = x := ⟨_, rfl⟩
        obtain ⟨s2, hs2⟩ : ∃ x, s1 + F.toNat = x := ⟨_, rfl⟩
        obtain ⟨s3, hs3⟩ : ∃ x, s2 + kk.toNat = x := ⟨_, rfl⟩
        obtain ⟨s4, hs4⟩ : ∃ x, s3 + ww.toNat = x := ⟨_, rfl⟩
        obtain ⟨s5, hs5⟩ : ∃ x, s4 + Y.toNat = x := ⟨_, rfl⟩
        obtain ⟨s6, hs6⟩ : ∃ x, s5 + G.toNat = x := ⟨_, rfl⟩
        obtain ⟨s7, hs7⟩ : ∃ x, d.toNat + s4 = x := ⟨_, rfl⟩
        obtain ⟨A', hA'⟩ : ∃ x, h + X + F + kk + ww + (Y + G) = x := ⟨_, rfl⟩
        obtain ⟨E', hE'⟩ : ∃ x, d + (h + X + F + kk + ww) = x := ⟨_, rfl⟩
        have hr : (S8.mk a b1 c d e f g h).round kk ww = ⟨A', a, b1, c, E', e, f, g⟩ := by
          rw [← hA', ← hE', ← hX, ← hY, ← hG, ← hF, ← hp1, ← hp2, ← hne, ← hq4, ← hq1, ← hq2, ← hq3]; rfl
        rw [hr] at hnx
        have l1 := w_lt h
        have l2 := w_lt X
        have l3 := w_lt F
        have l4 := w_lt kk
        have l5 := w_lt ww
        have l6 := w_lt Y
        have l7 := w_lt G
        have l8 := w_lt d
        have nA : s6 % 4294967296 = A'.toNat := by rw [← hA', ← hs6, ← hs5, ← hs4, ← hs3, ← hs2, ← hs1]; simp only [UInt32.toNat_add]; omega
        have nE : s7 % 4294967296 = E'.toNat := by rw [← hE', ← hs7, ← hs4, ← hs3, ← hs2, ← hs1]; simp only [UInt32.toNat_add]; omega
        have fX := v_x e 6 11 25
        rw [hX] at fX
        have fY := v_x a 2 13 22
        rw [hY] at fY
        have fp1 := v_and e f
        rw [hp1] at fp1
        have fne : IntKind.i64.wrap (4294967295 - (e.toNat : Int)) = (ne.toNat : Int) := wrap_nat _ _ (by rw [v_not, hne]) (w63 ne)
        have fp2 := v_and ne g
        rw [hp2] at fp2
        have fF := v_xor p1 p2
        rw [hF] at fF
        have fq1 := v_and a b1
        rw [hq1] at fq1
        have fq2 := v_and a c
        rw [hq2] at fq2
        have fq3 := v_and b1 c
        rw [hq3] at fq3
        have fq4 := v_xor q1 q2
        rw [hq4] at fq4
        have fG := v_xor q4 q3
        rw [hG] at fG
        have t1 : IntKind.i64.wrap ((h.toNat : Int) + (X.toNat : Int)) = (s1 : Int) := wrap_nat _ _ (by omega) (by omega)
        have t2 : IntKind.i64.wrap ((s1 : Int) + (F.toNat : Int)) = (s2 : Int) := wrap_nat _ _ (by omega) (by omega)
        have t3 : IntKind.i64.wrap ((s2 : Int) + (kk.toNat : Int)) = (s3 : Int) := wrap_nat _ _ (by omega) (by omega)
        have t4 : IntKind.i64.wrap ((s3 : Int) + (ww.toNat : Int)) = (s4 : Int) := wrap_nat _ _ (by omega) (by omega)
        have t5 : IntKind.i64.wrap ((s4 : Int) + (Y.toNat : Int)) = (s5 : Int) := wrap_nat _ _ (by omega) (by omega)
        have t6 : IntKind.i64.wrap ((s5 : Int) + (G.toNat : Int)) = (s6 : Int) := wrap_nat _ _ (by omega) (by omega)
        have t7 : IntKind.i64.wrap ((d.toNat : Int) + (s4 : Int)) = (s7 : Int) := wrap_nat _ _ (by omega) (by omega)
        have m1 : (s6 : Int) % 4294967296 = (A'.toNat : Int) := by omega
        have m2 : (s6 : Int).tmod 4294967296 = (A'.toNat : Int) := by rw [Int.tmod_eq_emod_of_nonneg (by omega)]; exact m1
        have m3 : (s7 : Int) % 4294967296 = (E'.toNat : Int) := by omega
        have m4 : (s7 : Int).tmod 4294967296 = (E'.toNat : Int) := by rw [Int.tmod_eq_emod_of_nonneg (by omega)]; exact m3
        have hi0 : (0 : Int) ≤ (i : Int) := by omega
        have hii : (i : Int) < 64 := by omega
        have hcell : ∀ W' : World, W'.heap = wr.heap → W'.cell? ⟨gv, 0, none⟩ = some (.int .i64 (a.toNat : Int)) ∧ W'.cell? ⟨gv, 1, none⟩ = some (.int .i64 (b1.toNat : Int)) ∧ W'.cell? ⟨gv, 2, none⟩ = some (.int .i64 (c.toNat : Int)) ∧ W'.cell? ⟨gv, 3, none⟩ = some (.int .i64 (d.toNat : Int)) ∧
            W'.cell? ⟨gv, 4, none⟩ = some (.int .i64 (e.toNat : Int)) ∧ W'.cell? ⟨gv, 5, none⟩ = some (.int .i64 (f.toNat : Int)) ∧ W'.cell? ⟨gv, 6, none⟩ = some (.int .i64 (g.toNat : Int)) ∧ W'.cell? ⟨gv, 7, none⟩ = some (.int .i64 (h.toNat : Int)) ∧
            W'.cell? ⟨gk, i, none⟩ = some (.int .i64 (kk.toNat : Int)) ∧ W'.cell? ⟨gw, i, none⟩ = some (.int .i64 (ww.toNat : Int)) := fun W' hW' => by
          have hr' := hrow.heap hW'
          exact ⟨hr' 0 (by decide), hr' 1 (by decide), hr' 2 (by decide), hr' 3 (by decide), hr' 4 (by decide), hr' 5 (by decide), hr' 6 (by decide), hr' 7 (by decide), (World.cell?_of_block (by rw [hW'])).trans ck, (World.cell?_of_block (by rw [hW'])).trans cw⟩
        have P6 := Lib.hid fX
        have P7 := Lib.hid (And.intro fp1 (And.intro fne (And.intro fp2 fF)))
        have P8 := Lib.hid (And.intro t1 (And.intro t2 (And.intro t3 t4)))
        have P9 := Lib.hid fY
        have P10 := Lib.hid (And.intro fq1 (And.intro fq2 (And.intro fq3 (And.intro fq4 fG))))
        have P11 := Lib.hid (And.intro t5 (And.intro t6 (And.intro t7 (And.intro m1 (And.intro m2 (And.intro m3 m4))))))
        clear fX fp1 fne fp2 fF t1 t2 t3 t4 fY fq1 fq2 fq3 fq4 fG t5 t6 t7 m1 m2 m3 m4
        have HC := Lib.hid hcell
        have HNX := Lib.hid hnx
        have HI1 := Lib.hid hlt
        clear hcell hnx hrow ck cw hX hp1 hne hp2 hF hY hq1 hq2 hq3 hq4 hG hs1 hs2 hs3 hs4 hs5 hs6 hs7 hA' hE' hr l1 l2 l3 l4 l5 l6 l7 l8 nA nE hlt hi
        obtain ⟨_, _, _, _, c4, _, _, _, _, _⟩ := HC.out wr rfl
        have HHwr : Hid (wr.heap = wr.heap) := rfl
        have fX := P6.out
        go_upto_region 6 with (fail)
        go_quiet ((go_at_call 20; exact Calls.quiet_of (turn_lit _ _ (by omega) (by omega) _)))
        go_upto_region 7 with (fail)
        generalize hWk : World.drewN wr _ = W7
        have HHW7 : Hid (W7.heap = wr.heap) := by rw [← hWk]; exact HHwr.out
        have hbW7 : Below w3.heap.size w3 W7 := by rw [← hWk]; exact below_drewN hbwr _
        clear hWk hbwr fX c4
        obtain ⟨_, _, _, _, c4, c5, c6, _, _, _⟩ := HC.out W7 HHW7.out
        obtain ⟨fp1, fne, fp2, fF⟩ := P7.out
        go_quiet (fail)
        go_upto_region 8 with (fail)
        generalize hWk : World.drewN W7 _ = W8
        have HHW8 : Hid (W8.heap = wr.heap) := by rw [← hWk]; exact HHW7.out
        have hbW8 : Below w3.heap.size w3 W8 := by rw [← hWk]; exact below_drewN hbW7 _
        clear hWk hbW7 fp1 fne fp2 fF c4 c5 c6
        obtain ⟨_, _, _, _, _, _, _, c7, ck, cw⟩ := HC.out W8 HHW8.out
        obtain ⟨t1, t2, t3, t4⟩ := P8.out
        go_quiet (fail)
        go_upto_region 9 with (fail)
        generalize hWk : World.drewN W8 _ = W9
        have HHW9 : Hid (W9.heap = wr.heap) := by rw [← hWk]; exact HHW8.out
        have hbW9 : Below w3.heap.size w3 W9 := by rw [← hWk]; exact below_drewN hbW8 _
        clear hWk hbW8 t1 t2 t3 t4 c7 ck cw
        obtain ⟨c0, _, _, _, _, _, _, _, _, _⟩ := HC.out W9 HHW9.out
        have fY := P9.out
        go_quiet ((go_at_call 20; exact Calls.quiet_of (turn_lit _ _ (by omega) (by omega) _)))
        go_upto_region 10 with (fail)
        generalize hWk : World.drewN W9 _ = W10
        have HHW10 : Hid (W10.heap = wr.heap) := by rw [← hWk]; exact HHW9.out
        have hbW10 : Below w3.heap.size w3 W10 := by rw [← hWk]; exact below_drewN hbW9 _
        clear hWk hbW9 fY c0
        obtain ⟨c0, c1, c2, _, _, _, _, _, _, _⟩ := HC.out W10 HHW10.out
        obtain ⟨fq1, fq2, fq3, fq4, fG⟩ := P10.out
        go_quiet (fail)
        go_upto_region 11 with (fail)
        generalize hWk : World.drewN W10 _ = W11
        have HHW11 : Hid (W11.heap = wr.heap) := by rw [← hWk]; exact HHW10.out
        have hbW11 : Below w3.heap.size w3 W11 := by rw [← hWk]; exact below_drewN hbW10 _
        clear hWk hbW10 fq1 fq2 fq3 fq4 fG c0 c1 c2
        obtain ⟨c0, c1, c2, c3, c4, c5, c6, _, _, _⟩ := HC.out W11 HHW11.out
        obtain ⟨t5, t6, t7, m1, m2, m3, m4⟩ := P11.out
        have hgv11 : gv < W11.heap.size := by rw [HHW11.out]; exact hgv
        clear hgv
        have hmade := Has.made W11 3 #[.int .i64 (A'.toNat : Int), .int .i64 (a.toNat : Int), .int .i64 (b1.toNat : Int), .int .i64 (c.toNat : Int), .int .i64 (E'.toNat : Int), .int .i64 (e.toNat : Int), .int .i64 (f.toNat : Int), .int .i64 (g.toNat : Int)]
        have hrow8 : Row8 (W11.alloc (.cells #[.int .i64 (A'.toNat : Int), .int .i64 (a.toNat : Int), .int .i64 (b1.toNat : Int), .int .i64 (c.toNat : Int), .int .i64 (E'.toNat : Int), .int .i64 (e.toNat : Int), .int .i64 (f.toNat : Int), .int .i64 (g.toNat : Int)] 3)) W11.heap.size ⟨A', a, b1, c, E', e, f, g⟩ := row8_made hmade
        have hbnew : Below w3.heap.size w3 (W11.alloc (.cells #[.int .i64 (A'.toNat : Int), .int .i64 (a.toNat : Int), .int .i64 (b1.toNat : Int), .int .i64 (c.toNat : Int), .int .i64 (E'.toNat : Int), .int .i64 (e.toNat : Int), .int .i64 (f.toNat : Int), .int .i64 (g.toNat : Int)] 3)) := hbW11.alloc hbW11.size _
        have hlt8 : W11.heap.size < (W11.alloc (.cells #[.int .i64 (A'.toNat : Int), .int .i64 (a.toNat : Int), .int .i64 (b1.toNat : Int), .int .i64 (c.toNat : Int), .int .i64 (E'.toNat : Int), .int .i64 (e.toNat : Int), .int .i64 (f.toNat : Int), .int .i64 (g.toNat : Int)] 3)).heap.size := hmade.lt
        rw [← HNX.out] at hrow8
        have HREL := Lib.hid (And.intro hrow8 (And.intro hlt8 hbnew))
        clear hmade hrow8 hbnew hlt8
        replace c0 : W11.drew.cell? ⟨gv, 0, none⟩ = some (.int .i64 (a.toNat : Int)) := c0
        replace c1 : W11.drew.cell? ⟨gv, 1, none⟩ = some (.int .i64 (b1.toNat : Int)) := c1
        replace c2 : W11.drew.cell? ⟨gv, 2, none⟩ = some (.int .i64 (c.toNat : Int)) := c2
        replace c3 : W11.drew.cell? ⟨gv, 3, none⟩ = some (.int .i64 (d.toNat : Int)) := c3
        replace c4 : W11.drew.cell? ⟨gv, 4, none⟩ = some (.int .i64 (e.toNat : Int)) := c4
        replace c5 : W11.drew.cell? ⟨gv, 5, none⟩ = some (.int .i64 (f.toNat : Int)) := c5
        replace c6 : W11.drew.cell? ⟨gv, 6, none⟩ = some (.int .i64 (g.toNat : Int)) := c6
        go_region_held3 (fun w' => w'.cell? ⟨gv, 0, none⟩ = some (.int .i64 (a.toNat : Int)) ∧ w'.cell? ⟨gv, 1, none⟩ = some (.int .i64 (b1.toNat : Int)) ∧ w'.cell? ⟨gv, 2, none⟩ = some (.int .i64 (c.toNat : Int)) ∧ w'.cell? ⟨gv, 3, none⟩ = some (.int .i64 (d.toNat : Int)) ∧ w'.cell? ⟨gv, 4, none⟩ = some (.int .i64 (e.toNat : Int)) ∧ w'.cell? ⟨gv, 5, none⟩ = some (.int .i64 (f.toNat : Int)) ∧ w'.cell? ⟨gv, 6, none⟩ = some (.int .i64 (g.toNat : Int))) (first | exact ⟨c0, c1, c2, c3, c4, c5, c6⟩ | exact ⟨(cell_alloc_old _ _ _ _ hgv11).trans c0, (cell_alloc_old _ _ _ _ hgv11).trans c1, (cell_alloc_old _ _ _ _ hgv11).trans c2, (cell_alloc_old _ _ _ _ hgv11).trans c3, (cell_alloc_old _ _ _ _ hgv11).trans c4, (cell_alloc_old _ _ _ _ hgv11).trans c5, (cell_alloc_old _ _ _ _ hgv11).trans c6⟩ | go_keep) (fail)
        go_wp2_with fail
        go_roundw
        case rel => exact ⟨i + 1, W11.heap.size, 8, by have := HI1.out; omega, by go_num, rfl, HREL.out.1.heap rfl, HREL.out.2.1, HREL.out.2.2.drew⟩
        case measure => simp [intOf]; omega
      · have hie : i = 64 := by omega
        subst hie
        have hii : ¬ ((64 : Nat) : Int) < 64 := by omega
        have HREL := Lib.hid (And.intro hrow (And.intro hgv hbwr))
        clear hrow hgv hbwr hlt hi
        go_wp2_with fail
        go_meet
        case rel => exact ⟨gv, capv, rfl, HREL.out⟩
  case rest =>
    clear hrow3 hlt3
    obtain ⟨gv, capv, rfl, hrow, hgv, hbW⟩ := hcut
    have hmix : (Sha.mixB s b).toList = ((s.rounds Sha.kl (sched b) 64).add s).toList := rfl
    have hh8 := HK.out.1.below hbW (by omega)
    generalize s.rounds Sha.kl (sched b) 64 = st at hrow hmix

    have HROW := Lib.hid (And.intro hrow (And.intro hh8 (And.intro hgv hbW)))
    have HM := Lib.hid hmix
    clear hrow hh8 hgv hbW hmix
    have h4 := HROW.out.2.2.2.size
    have hon : ∀ i, i < 8 → (st.add s).toList.take (i + 1) = (st.add s).toList.take i ++ [st.toList.getD i 0 + s.toList.getD i 0] := by
      intro i hi
      match i, hi with
      | 0, _ | 1, _ | 2, _ | 3, _ | 4, _ | 5, _ | 6, _ | 7, _ => rfl
    have HON := Lib.hid hon; clear hon
    go_wp2_with fail
    go_loopw [15, 16] (fun v15 v16 wr => ∃ i : Nat, i ≤ 8 ∧ v16 = .int .i64 (i : Int) ∧ wr.ownsRow wc.heap.size 3 1 v15 i (nats (wnats ((st.add s).toList.take i))) ∧ Below wc.heap.size wc wr) (fun _ v16 _ => 8 - (intOf v16).toNat)
    case atStart => exact ⟨0, Nat.zero_le _, rfl, World.ownsRow_nil _ _ _ _, Below.refl _ _⟩
    case round =>
      obtain ⟨i, hi, rfl, hown, hbr⟩ := hrel
      by_cases hlt : i < 8
      · have hnx := HON.out i hlt
        have ch := (HROW.out.2.1.below hbr (by omega)) i hlt
        have cv := (HROW.out.1.below hbr HROW.out.2.2.1) i hlt
        generalize st.toList.getD i 0 = y at hnx cv
        generalize s.toList.getD i 0 = x at hnx ch
        obtain ⟨z, hz⟩ : ∃ z, y + x = z := ⟨_, rfl⟩
        rw [hz] at hnx
        obtain ⟨s1, hs1⟩ : ∃ q, x.toNat + y.toNat = q := ⟨_, rfl⟩
        have l1 := w_lt x
        have l2 := w_lt y
        have nz : s1 % 4294967296 = z.toNat := by rw [← hz, ← hs1]; simp only [UInt32.toNat_add]; omega
        have t1 : IntKind.i64.wrap ((x.toNat : Int) + (y.toNat : Int)) = (s1 : Int) := wrap_nat _ _ (by omega) (by omega)
        have m1 : (s1 : Int) % 4294967296 = (z.toNat : Int) := by omega
        have m2 : (s1 : Int).tmod 4294967296 = (z.toNat : Int) := by rw [Int.tmod_eq_emod_of_nonneg (by omega)]; exact m1
        have hi0 : (0 : Int) ≤ (i : Int) := by omega
        have hii : (i : Int) < 8 := by omega
        have HNX := Lib.hid hnx
        have HO := Lib.hid hown
        have HI1 := Lib.hid hlt
        have hbsz := hbr.size
        have hghl : gh < wr.heap.size := by omega
        have hgvl : gv < wr.heap.size := by have := HROW.out.2.2.1; omega
        clear hnx hown hz hs1 l1 l2 nz hlt hi
        go_upto_region 16 with (fail)
        have hox : ∀ W' : World, W'.heap = (wr.alloc (.cells #[.int .i64 (z.toNat : Int)] 3)).heap → W'.ownsRow wc.heap.size 3 1 u15 i (nats (wnats ((st.add s).toList.take i))) := fun W' hW' => own_heap (HO.out.alloc _) hW'
        have hnw : ∀ W' : World, W'.heap = (wr.alloc (.cells #[.int .i64 (z.toNat : Int)] 3)).heap → ∀ j u, [Value.int .i64 (z.toNat : Int)][j]? = some u → W'.cell? ((⟨wr.heap.size, 0, none⟩ : Addr).add j) = some u := fun W' hW' => World.news_of_block (w := W') (B := wr.heap.size) (cs := #[.int .i64 (z.toNat : Int)]) (t := 3) (fr := (0, 0)) (by rw [hW']; exact heap_alloc_new _ _)
        have HOX := Lib.hid hox; clear hox
        have HNW := Lib.hid hnw; clear hnw
        go_region_law (refine step_append_lies _ rfl (.tmp 145) (.tmp 156) 29 rfl wc.heap.size 3 i0 (.int .i64 0) 1 8 Tryd.underlying29 HI.out.1 HI.out.2.1 HI.out.2.2.1 HI.out.2.2.2 rfl (by decide) u15 i (nats (wnats ((st.add s).toList.take i))) (by simp [Act.eval, Act.put]) (HOX.out _ rfl) ⟨wr.heap.size, 0, none⟩ 1 1 [.int .i64 (z.toNat : Int)] (by simp [Act.eval, Act.put]) rfl (HNW.out _ rfl) (by simp [Value.oneCell']) (by decide) (by simp only [maxLen]; omega) (by omega) (by simp; omega) _ rfl ?_; intro g5 cap5 w5 hown5 hg5 hat5 hlt5)
        all_goals
          have hown6 : w5.ownsRow wc.heap.size 3 1 (.slice (some ⟨g5, 0, none⟩) (i + 1) cap5) (i + 1) (nats (wnats ((st.add s).toList.take (i + 1)))) := by
            have e : nats (wnats ((st.add s).toList.take (i + 1))) = nats (wnats ((st.add s).toList.take i)) ++ [.int .i64 (z.toNat : Int)] := by rw [HNX.out]; simp [nats, wnats]
            rw [e]
            exact hown5
          have hb6 : Below wc.heap.size wc w5 := (hbr.drew.grown (grown_alloc' hg5) hbsz (fun k hk => (HO.out.lt k hk).1))
          clear hown5 hg5 hat5 hlt5
          go_wp2_with fail
          go_roundw
          case rel => exact ⟨i + 1, by have := HI1.out; omega, by go_num, hown6, hb6⟩
          case measure => simp [intOf]; omega
      · have hie : i = 8 := by omega
        subst hie
        have hii : ¬ ((8 : Nat) : Int) < 8 := by omega
        have hfin : WordsPost w (Sha.mixB s b).toList (.returned u15) wr := by
          rw [HM.out]
          refine ⟨u15, rfl, own_base hown (by omega), ?_⟩
          exact (hb03.trans (HROW.out.2.2.2.mono (by omega))).trans (hbr.mono (by omega))
        have HF := Lib.hid hfin
        clear hown hbr hfin hlt hi
        go_wp2_with fail
        go_ret
        exact HF.out
end Go.Proofs.YtbfomeifhmkpeaaDoor
