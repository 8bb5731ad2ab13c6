/-
  The contract of the reference's Sum.
-/
import Derived.Test.YtbfomeifhmkpeaaDoorRefBlock
import Derived.Test.YtbfomeifhmkpeaaDoorRefPad
import Derived.Test.YtbfomeifhmkpeaaDoorRefVals
import Derived.Laws.DeepStrings4
namespace Go.Proofs.YtbfomeifhmkpeaaDoor
open Go.RowKit
set_option linter.unusedVariables false

theorem own_keep {w w' : World} {B e s n : Nat} {v : Value} {xs : List Value} (h : w.ownsRow B e s v n xs) (hb : Below w.heap.size w w') : w'.ownsRow B e s v n xs :=
  h.kept (row := none) ⟨hb.os, hb.tape, hb.output, hb.size, fun i hi _ => hb.block i hi⟩ (by
    cases hv : v.ownBlock with
    | none => exact Or.inl rfl
    | some k => right; intro e; cases e)
/-- Two rows in blocks of their own. -/
def Apart (v u : Value) : Prop := ∀ k, v.ownBlock = some k → u.ownBlock ≠ some k
theorem Apart.symm {v u : Value} (h : Apart v u) : Apart u v := fun k hk hv => h k hv hk
theorem apart_kept {w w' : World} {B e s n : Nat} {v u : Value} {xs : List Value} (h : w.ownsRow B e s u n xs) (ha : Apart v u) (hg : w.grownBy w' v.ownBlock) : w'.ownsRow B e s u n xs :=
  h.kept hg (by
    cases hu : u.ownBlock with
    | none => exact Or.inl rfl
    | some k => right; intro e; exact ha k e.symm hu)
theorem apart_new {w : World} {B e s n : Nat} {v u : Value} {xs : List Value} (h : w.ownsRow B e s u n xs) (ha : Apart v u) {g m cap : Nat} (hg : v.ownBlock = some g ∨ g = w.heap.size) : Apart (.slice (some ⟨g, 0, none⟩) m cap) u := fun k hk => by
  have hk' : k = g := by simp [Value.ownBlock] at hk; exact hk.symm
  subst hk'
  rcases hg with hg | hg
  · exact ha k hg
  · intro hu
    have := (h.lt k hu).2
    omega
theorem map_getD {f : Nat → Nat} {P L : List Nat} (h : P.map f = L) (i : Nat) (hi : i < P.length) : f (P.getD i 0) = L.getD i 0 := by
  rw [← h]; simp [List.getD, hi]
def SL : List Nat := Sha.s0.toList.map UInt32.toNat
def KL : List Nat := Sha.kl.map UInt32.toNat
theorem root2 (i : Nat) (hi : i < 8) : rt 2 ((prl 310).getD i 0) 37 0 % 4294967296 = SL.getD i 0 := by
  have h := map_getD squares i (by rw [List.length_take, prl_last]; omega)
  rw [show SL.getD i 0 = (Sha.s0.toList.map UInt32.toNat).getD i 0 from rfl, ← h]
  have : ((prl 310).take 8).getD i 0 = (prl 310).getD i 0 := by simp [List.getD, List.getElem?_take, hi]
  rw [this]
theorem root3 (i : Nat) (hi : i < 64) : rt 3 ((prl 310).getD i 0) 37 0 % 4294967296 = KL.getD i 0 := map_getD cubes i (by rw [prl_last]; exact hi)
theorem prl_small : ∀ i : Fin 64, (prl 310).getD i.1 0 < 65536 := by rw [prl_short_list]; decide +kernel
theorem take_next (l : List Nat) (i : Nat) (h : i < l.length) : nats (l.take (i + 1)) = nats (l.take i) ++ [.int .i64 ((l.getD i 0 : Nat) : Int)] := by
  have e : l.getD i 0 = l[i]'h := by simp [List.getD, h]
  rw [List.take_succ_eq_append_getElem h, e]
  unfold nats
  rw [List.map_append]; rfl

set_option maxRecDepth 100000 in
set_option maxHeartbeats 8000000 in
theorem refSum_any (M : List UInt8) (hM : M.length ≤ 300) (w : World) : Calls Tryd.prog 5 #[.string (S M)] w (TextPost w (Sha.sum M)) := by
  obtain ⟨i0, hi, hz0, hz1, hz2⟩ := info_parts iinfo
  have HI := Lib.hid (And.intro hi (And.intro hz0 (And.intro hz1 hz2))); clear hi hz0 hz1 hz2
  have HM := Lib.hid hM; clear hM
  have HP := Lib.hid (primes_any w)
  go_enter Tryd.func5, Tryd.ntmps5
  go_wp2_with fail
  refine HP.out.mono ?_
  rintro r1 w1 ⟨v5, rfl, hown5, hb1⟩
  rw [prl_last] at hown5
  obtain ⟨gp, capp, rfl, hBgp, hgpl, _, _⟩ := own_at hown5 0 (by decide)
  have hcp : ∀ j, j < 64 → w1.cell? ⟨gp, j, none⟩ = some (.int .i64 (((prl 310).getD j 0 : Nat) : Int)) := fun j hj => by
    rw [hown5.cellAt j (by omega)]
    have hj2 : j < (prl 310).length := by rw [prl_last]; exact hj
    simp [nats, List.getD, hj2]
  have HCP := Lib.hid hcp; clear hcp hown5
  have h1 := hb1.size
  go_upto_block 0 with (fail)
  go_cut [3, 4] (fun v3 v4 w2 => ∃ gh caph gk capk, v3 = .slice (some ⟨gh, 0, none⟩) 8 caph ∧ v4 = .slice (some ⟨gk, 0, none⟩) 64 capk ∧ Row8 w2 gh Sha.s0 ∧ RowK w2 gk Sha.kl ∧ gh < w2.heap.size ∧ gk < w2.heap.size ∧ Below w.heap.size w w2)
  case first =>
    go_wp2_with fail
    go_loopw [3, 4, 6] (fun v3 v4 v6 wr => ∃ i : Nat, i ≤ 64 ∧ v6 = .int .i64 (i : Int) ∧ wr.ownsRow w1.heap.size 3 1 v3 (min i 8) (nats (SL.take (min i 8))) ∧ wr.ownsRow w1.heap.size 3 1 v4 i (nats (KL.take i)) ∧ Apart v3 v4 ∧ Below w1.heap.size w1 wr) (fun _ _ v6 _ => 64 - (intOf v6).toNat)
    case atStart => exact ⟨0, Nat.zero_le _, rfl, World.ownsRow_nil _ _ _ _, World.ownsRow_nil _ _ _ _, (fun k hk => by simp [Value.ownBlock] at hk), Below.refl _ _⟩
    case round =>
      obtain ⟨i, hi, rfl, hown3, hown4, hap, hbr⟩ := hrel
      by_cases hlt : i < 64
      · have cpw := HCP.out i hlt
        have hps := prl_small ⟨i, hlt⟩
        have hr3 := root3 i hlt
        have hr2 := root2 i
        simp only at hps
        generalize (prl 310).getD i 0 = pr at cpw hps hr3 hr2
        have cp := (hbr.cell (p := ⟨gp, i, none⟩) hgpl).trans cpw
        have HCPW := Lib.hid cpw; clear cpw
        have hR3 := fun W => root_any 3 pr (by decide) (by decide) hps W
        rw [hr3] at hR3
        have HR3 := Lib.hid hR3; clear hR3 hr3
        have hnk := take_next KL i (by show i < 64; exact hlt)
        generalize KL.getD i 0 = kv at hnk HR3
        have HNK := Lib.hid hnk; clear hnk
        have hi0 : (0 : Int) ≤ (i : Int) := by omega
        have hii : (i : Int) < 64 := by omega
        have hbsz := hbr.size
        have HI1 := Lib.hid hlt; clear hlt hi
        by_cases h8 : i < 8
        · have hR2 := fun W => root_any 2 pr (by decide) (by decide) hps W
          rw [hr2 h8] at hR2
          have HR2 := Lib.hid hR2; clear hR2 hr2 hps
          have hns := take_next SL i (by show i < 8; exact h8)
          generalize SL.getD i 0 = sv at hns HR2
          have HNS := Lib.hid hns; clear hns
          have hm : min i 8 = i := by omega
          rw [hm] at hown3
          have h8i : (i : Int) < 8 := by omega
          have HO3 := Lib.hid hown3
          have HO4 := Lib.hid hown4
          have H8 := Lib.hid h8
          clear hown3 hown4 hm h8
          go_wp2_with fail
          refine (HR2.out wr).mono ?_
          rintro r2 w2 ⟨rfl, hb2⟩
          have hs2 := hb2.size
          have HO3b := Lib.hid ((own_keep HO3.out hb2).alloc (.cells #[.int .i64 (sv : Int)] 3))
          have HO4b := Lib.hid ((own_keep HO4.out hb2).alloc (.cells #[.int .i64 (sv : Int)] 3))
          have hnw : ∀ j u, [Value.int .i64 (sv : Int)][j]? = some u → (w2.alloc (.cells #[.int .i64 (sv : Int)] 3)).cell? ((⟨w2.heap.size, 0, none⟩ : Addr).add j) = some u := World.news_of_block (w := w2.alloc (.cells #[.int .i64 (sv : Int)] 3)) (B := w2.heap.size) (cs := #[.int .i64 (sv : Int)]) (t := 3) (fr := (0, 0)) (heap_alloc_new _ _)
          have HNW := Lib.hid hnw; clear hnw
          have hbr2 := hbr.trans (hb2.mono hbsz)
          have HBR2 := Lib.hid hbr2
          have hbs2 := hbr2.size
          clear cp hbr hb2 hbr2
          go_upto_region 8 with (at_builtin; refine wpList_append_lies _ rfl (.tmp 20) (.tmp 26) 29 rfl w1.heap.size 3 i0 (.int .i64 0) 1 8 Tryd.underlying29 HI.out.1 HI.out.2.1 HI.out.2.2.1 HI.out.2.2.2 rfl (by decide) u3 i (nats (SL.take i)) rfl HO3b.out ⟨w2.heap.size, 0, none⟩ 1 1 [.int .i64 (sv : Int)] rfl rfl HNW.out (by simp [Value.oneCell']) (by decide) (by simp only [maxLen]; omega) (by omega) (by simp; omega) _ rfl ?_; intro g3 cap3 w3 hown3 hg3 hat3 hlt3)
          have hO3 : w3.ownsRow w1.heap.size 3 1 (.slice (some ⟨g3, 0, none⟩) (min (i + 1) 8) cap3) (min (i + 1) 8) (nats (SL.take (min (i + 1) 8))) := by
            have e : min (i + 1) 8 = i + 1 := by have := H8.out; omega
            rw [e, HNS.out]; exact hown3
          have hslot : (.slice (some ⟨g3, 0, none⟩) (i + 1) cap3 : Value) = .slice (some ⟨g3, 0, none⟩) (min (i + 1) 8) cap3 := by
            have e : min (i + 1) 8 = i + 1 := by have := H8.out; omega
            rw [e]
          have hO4 := apart_kept HO4b.out hap hg3
          have hap3 : Apart (.slice (some ⟨g3, 0, none⟩) (min (i + 1) 8) cap3) u4 := apart_new HO4b.out hap hat3
          have hb3 : Below w1.heap.size w1 w3 := HBR2.out.grown (grown_alloc' hg3) hbs2 (fun k hk => (HO3b.out.lt k hk).1)
          have cp3 := (hb3.cell (p := ⟨gp, i, none⟩) hgpl).trans HCPW.out
          have HO3x := Lib.hid hO3
          have HO4x := Lib.hid hO4
          have HAPX := Lib.hid hap3
          have HBX := Lib.hid hb3
          have HSL := Lib.hid hslot
          clear hown3 hg3 hat3 hlt3 hO3 hO4 hap3 hb3 hslot hap
          go_wp2_with fail
          refine (HR3.out w3).mono ?_
          rintro r4 w4 ⟨rfl, hb4⟩
          have hbx := HBX.out.size
          have HO3c := Lib.hid ((own_keep HO3x.out hb4).alloc (.cells #[.int .i64 (kv : Int)] 3))
          have HO4c := Lib.hid ((own_keep HO4x.out hb4).alloc (.cells #[.int .i64 (kv : Int)] 3))
          have hnw : ∀ j u, [Value.int .i64 (kv : Int)][j]? = some u → (w4.alloc (.cells #[.int .i64 (kv : Int)] 3)).cell? ((⟨w4.heap.size, 0, none⟩ : Addr).add j) = some u := World.news_of_block (w := w4.alloc (.cells #[.int .i64 (kv : Int)] 3)) (B := w4.heap.size) (cs := #[.int .i64 (kv : Int)]) (t := 3) (fr := (0, 0)) (heap_alloc_new _ _)
          have HNW2 := Lib.hid hnw; clear hnw
          have hbr4 := HBX.out.trans (hb4.mono hbx)
          have HBR4 := Lib.hid hbr4
          have hbs4 := hbr4.size
          clear cp3 hb4 hbr4
          go_wp2_with (at_builtin; refine wpList_append_lies _ rfl (.tmp 28) (.tmp 34) 29 rfl w1.heap.size 3 i0 (.int .i64 0) 1 8 Tryd.underlying29 HI.out.1 HI.out.2.1 HI.out.2.2.1 HI.out.2.2.2 rfl (by decide) u4 i (nats (KL.take i)) rfl HO4c.out ⟨w4.heap.size, 0, none⟩ 1 1 [.int .i64 (kv : Int)] rfl rfl HNW2.out (by simp [Value.oneCell']) (by decide) (by simp only [maxLen]; omega) (by omega) (by simp; omega) _ rfl ?_; intro g5 cap5 w5 hown5 hg5 hat5 hlt5)
          have hK : w5.ownsRow w1.heap.size 3 1 (.slice (some ⟨g5, 0, none⟩) (i + 1) cap5) (i + 1) (nats (KL.take (i + 1))) := by rw [HNK.out]; exact hown5
          have hS := apart_kept HO3c.out HAPX.out.symm hg5
          have hapN : Apart (.slice (some ⟨g5, 0, none⟩) (i + 1) cap5) (.slice (some ⟨g3, 0, none⟩) (min (i + 1) 8) cap3) := apart_new HO3c.out HAPX.out.symm hat5
          have hb5 : Below w1.heap.size w1 w5 := HBR4.out.grown (grown_alloc' hg5) hbs4 (fun k hk => (HO4c.out.lt k hk).1)
          have HREL := Lib.hid (And.intro hS (And.intro hK (And.intro hapN.symm hb5)))
          clear hown5 hg5 hat5 hlt5 hK hS hapN hb5
          go_wp2_with fail
          go_roundw
          case rel => exact ⟨i + 1, by have := HI1.out; omega, by go_num, by rw [HSL.out]; exact HREL.out.1, HREL.out.2.1, by rw [HSL.out]; exact HREL.out.2.2.1, HREL.out.2.2.2⟩
          case measure => simp [intOf]; omega
        · have hm : min i 8 = min (i + 1) 8 := by omega
          rw [hm] at hown3
          have h8i : ¬ (i : Int) < 8 := by omega
          have HO3x := Lib.hid hown3
          have HO4x := Lib.hid hown4
          have HAPX := Lib.hid hap
          have HBX := Lib.hid hbr
          have cp3 := cp
          clear hown3 hown4 hm h8 hap hbr cp hr2 hps
          go_wp2_with fail
          refine (HR3.out wr).mono ?_
          rintro r4 w4 ⟨rfl, hb4⟩
          have hbx := HBX.out.size
          have HO3c := Lib.hid ((own_keep HO3x.out hb4).alloc (.cells #[.int .i64 (kv : Int)] 3))
          have HO4c := Lib.hid ((own_keep HO4x.out hb4).alloc (.cells #[.int .i64 (kv : Int)] 3))
          have hnw : ∀ j u, [Value.int .i64 (kv : Int)][j]? = some u → (w4.alloc (.cells #[.int .i64 (kv : Int)] 3)).cell? ((⟨w4.heap.size, 0, none⟩ : Addr).add j) = some u := World.news_of_block (w := w4.alloc (.cells #[.int .i64 (kv : Int)] 3)) (B := w4.heap.size) (cs := #[.int .i64 (kv : Int)]) (t := 3) (fr := (0, 0)) (heap_alloc_new _ _)
          have HNW2 := Lib.hid hnw; clear hnw
          have hbr4 := HBX.out.trans (hb4.mono hbx)
          have HBR4 := Lib.hid hbr4
          have hbs4 := hbr4.size
          clear cp3 hb4 hbr4
          go_wp2_with (at_builtin; refine wpList_append_lies _ rfl (.tmp 28) (.tmp 34) 29 rfl w1.heap.size 3 i0 (.int .i64 0) 1 8 Tryd.underlying29 HI.out.1 HI.out.2.1 HI.out.2.2.1 HI.out.2.2.2 rfl (by decide) u4 i (nats (KL.take i)) rfl HO4c.out ⟨w4.heap.size, 0, none⟩ 1 1 [.int .i64 (kv : Int)] rfl rfl HNW2.out (by simp [Value.oneCell']) (by decide) (by simp only [maxLen]; omega) (by omega) (by simp; omega) _ rfl ?_; intro g5 cap5 w5 hown5 hg5 hat5 hlt5)
          have hK : w5.ownsRow w1.heap.size 3 1 (.slice (some ⟨g5, 0, none⟩) (i + 1) cap5) (i + 1) (nats (KL.take (i + 1))) := by rw [HNK.out]; exact hown5
          have hS := apart_kept HO3c.out HAPX.out.symm hg5
          have hapN : Apart (.slice (some ⟨g5, 0, none⟩) (i + 1) cap5) u3 := apart_new HO3c.out HAPX.out.symm hat5
          have hb5 : Below w1.heap.size w1 w5 := HBR4.out.grown (grown_alloc' hg5) hbs4 (fun k hk => (HO4c.out.lt k hk).1)
          have HREL := Lib.hid (And.intro hS (And.intro hK (And.intro hapN.symm hb5)))
          clear hown5 hg5 hat5 hlt5 hK hS hapN hb5
          go_wp2_with fail
          go_roundw
          case rel => exact ⟨i + 1, by have := HI1.out; omega, by go_num, HREL.out.1, HREL.out.2.1, HREL.out.2.2.1, HREL.out.2.2.2⟩
          case measure => simp [intOf]; omega
      · have hie : i = 64 := by omega
        subst hie
        have hii : ¬ ((64 : Nat) : Int) < 64 := by omega
        obtain ⟨gh, caph, rfl, hBgh, hghl, _, _⟩ := own_at hown3 0 (by decide)
        obtain ⟨gk, capk, rfl, hBgk, hgkl, _, _⟩ := own_at hown4 0 (by decide)
        have hrow : Row8 wr gh Sha.s0 := fun j hj => by
          rw [hown3.cellAt j (by have : min 64 8 = 8 := rfl; omega)]
          match j, hj with
          | 0, _ | 1, _ | 2, _ | 3, _ | 4, _ | 5, _ | 6, _ | 7, _ => rfl
        have hrk : RowK wr gk Sha.kl := fun j hj => by
          rw [hown4.cellAt j (by omega)]
          have hj2 : j < Sha.kl.length := hj
          have e : KL.take 64 = KL := List.take_of_length_le (Nat.le_refl _)
          rw [e]
          unfold KL
          simp [nats, List.getD, hj2]
        have HREL := Lib.hid (And.intro hrow (And.intro hrk (And.intro hghl (And.intro hgkl (hb1.trans (hbr.mono h1))))))
        clear hrow hrk hown3 hown4 hap hlt hi
        go_wp2_with fail
        go_meet
        case rel => exact ⟨gh, caph, gk, capk, rfl, rfl, HREL.out⟩
  case rest =>
    obtain ⟨gh, caph, gk, capk, rfl, rfl, hrow, hrk, hghl, hgkl, hbW⟩ := hcut
    have hpd := refPad_any M (by have := HM.out; omega) wc
    have hall := Sha.padb_all M
    have hlen : (M ++ padb M.length).length ≤ 500 := by rw [List.length_append, padb_len]; have := HM.out; omega
    have hsum : Sha.sum M = Sha.out (Sha.hashN (M ++ padb M.length) ((M ++ padb M.length).length / 64)) := rfl
    obtain ⟨res, hres⟩ : ∃ r, Sha.sum M = r := ⟨_, rfl⟩
    rw [hres] at hsum
    have HRES := Lib.hid hres; clear hres
    generalize M ++ padb M.length = t at hpd hall hlen hsum
    obtain ⟨nb, hnb⟩ : ∃ n, t.length / 64 = n := ⟨_, rfl⟩
    have htl : t.length = 64 * nb := by omega
    rw [hnb] at hsum
    have HPD := Lib.hid hpd
    have HSUM := Lib.hid hsum
    have HTL := Lib.hid (And.intro htl hlen)
    have HROW := Lib.hid (And.intro hrow (And.intro hrk (And.intro hghl hgkl)))
    clear hpd hall hlen hsum hnb htl hrow hrk hghl hgkl
    have hwc := hbW.size
    go_wp2_with fail
    refine HPD.out.mono ?_
    rintro r2 w2 ⟨rfl, hb2⟩
    have h2 := hb2.size
    have hb02 := hbW.trans (hb2.mono hwc)
    have HK := Lib.hid (HROW.out.2.1.below hb2 HROW.out.2.2.2)
    have hrow2 := HROW.out.1.below hb2 HROW.out.2.2.1
    have hgh2 : gh < w2.heap.size := by have := HROW.out.2.2.1; omega
    have hgk2 : gk < w2.heap.size := by have := HROW.out.2.2.2; omega
    clear hb2 hbW
    go_wp2_with fail
    go_loopw [3, 8] (fun v3 v8 wr => ∃ (i g cap : Nat), i ≤ nb ∧ v8 = .int .i64 (i : Int) ∧ v3 = .slice (some ⟨g, 0, none⟩) 8 cap ∧ Row8 wr g (Sha.hashN t i) ∧ g < wr.heap.size ∧ Below w2.heap.size w2 wr) (fun _ v8 _ => nb - (intOf v8).toNat)
    case atStart => exact ⟨0, gh, caph, Nat.zero_le _, rfl, rfl, hrow2, hgh2, Below.refl _ _⟩
    case round =>
      clear hrow2 hgh2
      obtain ⟨i, g, cap, hi, rfl, rfl, hrow, hg, hbr⟩ := hrel
      have hi0 : (0 : Int) ≤ (i : Int) := by omega
      have htl := HTL.out.1
      have htm := HTL.out.2
      by_cases hlt : i < nb
      · have hc1 : 64 * (i : Int) < (t.length : Int) := by omega
        have hc2 : 64 * (i : Int) + 64 ≤ (t.length : Int) := by omega
        have hc3 : (t.length : Int) ≤ 500 := by omega
        have hsl : ∀ W : World, (Instr.slice 9 (.string (S t)) (some (.int .i64 (64 * (i : Int)))) (some (.int .i64 (64 * (i : Int) + 64))) none).run Tryd.prog W = .ok (.string (S ((t.take (64 * i + 64)).drop (64 * i)))) W := fun W => by
          have e1 : (64 * (i : Int)).toNat = 64 * i := by omega
          have e2 : (64 * (i : Int) + 64).toNat = 64 * i + 64 := by omega
          rw [run_slice_string_if W 9 (S t) .i64 .i64 _ _ Tryd.underlying9, if_pos ⟨by omega, by rw [S_size]; omega⟩, if_pos ⟨by omega, by omega⟩, S_extract, e1, e2]
        have hbl : ((t.take (64 * i + 64)).drop (64 * i)).length = 64 := by rw [List.length_drop, List.length_take]; omega
        have hmx : Sha.mixB (Sha.hashN t i) ((t.take (64 * i + 64)).drop (64 * i)) = Sha.hashN t (i + 1) := by
          have e : (t.take (64 * i + 64)).drop (64 * i) = (t.drop (64 * i)).take 64 := by rw [List.drop_take]; congr 1; omega
          rw [e]; rfl
        generalize (t.take (64 * i + 64)).drop (64 * i) = b at hsl hbl hmx
        have hBL := fun W (h1 : Row8 W g (Sha.hashN t i)) (h2 : RowK W gk Sha.kl) (h3 : g < W.heap.size) (h4 : gk < W.heap.size) => block_any (Sha.hashN t i) b hbl g gk cap capk W h1 h2 h3 h4
        rw [hmx] at hBL
        obtain ⟨sn, hsn⟩ : ∃ x, Sha.hashN t (i + 1) = x := ⟨_, rfl⟩
        rw [hsn] at hBL
        have HBL := Lib.hid hBL
        have HSN := Lib.hid hsn
        clear hBL hbl hmx hsn
        have HII := Lib.hid (And.intro hi hlt)
        have hbs := hbr.size
        clear htl htm hi hlt
        go_wp2_with fail
        refine (HBL.out wr hrow (HK.out.below hbr hgk2) hg (by omega)).mono ?_
        rintro r5 w5 ⟨v5, rfl, hown5, hb5⟩
        have hl8 : sn.toList.length = 8 := rfl
        rw [hl8] at hown5
        obtain ⟨g5, cap5, rfl, _, hg5, _, _⟩ := own_at hown5 0 (by decide)
        have hrow5 : Row8 w5 g5 sn := fun j hj => by
          rw [hown5.cellAt j (by omega)]
          have hj2 : j < sn.toList.length := hj
          simp [nats, wnats, List.getD, hj2]
        have hb05 := hbr.trans (hb5.mono hbs)
        have HREL := Lib.hid (And.intro hrow5 (And.intro hg5 hb05))
        clear hown5 hb5 hrow5 hb05 hrow hg hsl
        go_wp2_with fail
        go_roundw
        case rel => exact ⟨i + 1, g5, cap5, by have := HII.out; omega, by go_num, rfl, by rw [HSN.out]; exact HREL.out.1, HREL.out.2.1, HREL.out.2.2⟩
        case measure => have := HII.out; simp [intOf]; omega
      · have hie : i = nb := by omega
        have hc1 : ¬ 64 * (i : Int) < (t.length : Int) := by omega
        have hc3 : (t.length : Int) ≤ 500 := by omega
        have hc4 : 64 * (i : Int) ≤ 500 := by omega
        rw [hie] at hrow
        have hout := HSUM.out
        rw [← outk_all] at hout
        have hsk := outk_succ (Sha.hashN t nb)
        have hkl := outk_len (Sha.hashN t nb)
        generalize Sha.hashN t nb = sf at hrow hout hsk hkl
        have HOUT := Lib.hid hout
        have HSK := Lib.hid (And.intro hsk hkl)
        have HR := Lib.hid (And.intro hrow hg)
        have hbs := hbr.size
        have HBR := Lib.hid (hb02.trans (hbr.mono hb02.size))
        clear hout hsk hkl hrow hg hie hlt hi htl htm hbr
        obtain ⟨j0, kz0, kz1, kz2, kz3⟩ := info_parts u8info
        have HJ := Lib.hid (And.intro kz0 (And.intro kz1 (And.intro kz2 kz3))); clear kz0 kz1 kz2 kz3
        have hgwr := HR.out.2
        generalize wr = wo at HR HBR hbs hgwr ⊢
        go_wp2_with fail
        go_loopw [9, 10] (fun v9 v10 wx => ∃ j : Nat, j ≤ 8 ∧ v10 = .int .i64 (j : Int) ∧ wx.ownsRow wo.heap.size 5 1 v9 (outk sf j).length (bcells (outk sf j)) ∧ Below wo.heap.size wo wx) (fun _ v10 _ => 8 - (intOf v10).toNat)
        case atStart => exact ⟨0, Nat.zero_le _, rfl, World.ownsRow_nil _ _ _ _, Below.refl _ _⟩
        case round =>
          obtain ⟨j, hj, rfl, hown, hbx⟩ := hrel
          have hbxs := hbx.size
          by_cases hjl : j < 8
          · have hnx := HSK.out.1 j hjl
            have hol := HSK.out.2 j (by omega)
            have ch := (HR.out.1.below hbx HR.out.2) j hjl
            generalize sf.toList.getD j 0 = x at hnx ch
            have hbek : bek x.toNat 4 = [UInt8.ofNat (x.toNat / 16777216), UInt8.ofNat (x.toNat / 65536), UInt8.ofNat (x.toNat / 256), UInt8.ofNat x.toNat] := by
              simp [bek, List.range_succ]
            rw [hbek] at hnx
            obtain ⟨y3, hy3⟩ : ∃ y, x.toNat / 16777216 = y := ⟨_, rfl⟩
            obtain ⟨y2, hy2⟩ : ∃ y, x.toNat / 65536 = y := ⟨_, rfl⟩
            obtain ⟨y1, hy1⟩ : ∃ y, x.toNat / 256 = y := ⟨_, rfl⟩
            rw [hy3, hy2, hy1] at hnx
            have hx := w_lt x
            obtain ⟨c3, hc3'⟩ : ∃ c, UInt8.ofNat y3 = c := ⟨_, rfl⟩
            obtain ⟨c2, hc2'⟩ : ∃ c, UInt8.ofNat y2 = c := ⟨_, rfl⟩
            obtain ⟨c1, hc1'⟩ : ∃ c, UInt8.ofNat y1 = c := ⟨_, rfl⟩
            obtain ⟨c0, hc0'⟩ : ∃ c, UInt8.ofNat x.toNat = c := ⟨_, rfl⟩
            rw [hc3', hc2', hc1', hc0'] at hnx
            have d3 : (x.toNat : Int) / 16777216 = (y3 : Int) := by omega
            have d2 : (x.toNat : Int) / 65536 = (y2 : Int) := by omega
            have d1 : (x.toNat : Int) / 256 = (y1 : Int) := by omega
            have byt : ∀ (y : Nat) (c : UInt8), UInt8.ofNat y = c → (y : Int) % 256 = (c.toNat : Int) := fun y c h => by rw [← h]; simp
            have m3 := byt y3 c3 hc3'
            have m2 := byt y2 c2 hc2'
            have m1 := byt y1 c1 hc1'
            have m0 := byt x.toNat c0 hc0'
            have n3 : IntKind.u8.wrap (y3 : Int) = (c3.toNat : Int) := by rw [IntKind.wrap_u8']; exact m3
            have n2 : IntKind.u8.wrap (y2 : Int) = (c2.toNat : Int) := by rw [IntKind.wrap_u8']; exact m2
            have n1 : IntKind.u8.wrap (y1 : Int) = (c1.toNat : Int) := by rw [IntKind.wrap_u8']; exact m1
            have n0 : IntKind.u8.wrap (x.toNat : Int) = (c0.toNat : Int) := by rw [IntKind.wrap_u8']; exact m0
            have hj0 : (0 : Int) ≤ (j : Int) := by omega
            have hji : (j : Int) < 8 := by omega
            have HNX := Lib.hid hnx
            have HO := Lib.hid hown
            have HOL := Lib.hid (And.intro hol (And.intro hjl hbxs))
            have hgx : g < wr.heap.size := by omega
            clear hnx hown hol hbek hy3 hy2 hy1 hx hc3' hc2' hc1' hc0' byt hjl hj
            go_upto_region 18 with (fail)
            obtain ⟨L, hL⟩ : ∃ L : List Value, [Value.int .u8 (c3.toNat : Int), .int .u8 (c2.toNat : Int), .int .u8 (c1.toNat : Int), .int .u8 (c0.toNat : Int)] = L := ⟨_, rfl⟩
            have hox : ∀ W' : World, W'.heap = (wr.alloc (.cells #[.int .u8 (c3.toNat : Int), .int .u8 (c2.toNat : Int), .int .u8 (c1.toNat : Int), .int .u8 (c0.toNat : Int)] 5)).heap → W'.ownsRow wo.heap.size 5 1 u9 (outk sf j).length (bcells (outk sf j)) := fun W' hW' => own_heap (HO.out.alloc _) hW'
            have hnw : ∀ W' : World, W'.heap = (wr.alloc (.cells #[.int .u8 (c3.toNat : Int), .int .u8 (c2.toNat : Int), .int .u8 (c1.toNat : Int), .int .u8 (c0.toNat : Int)] 5)).heap → ∀ k u, [Value.int .u8 (c3.toNat : Int), .int .u8 (c2.toNat : Int), .int .u8 (c1.toNat : Int), .int .u8 (c0.toNat : Int)][k]? = some u → W'.cell? ((⟨wr.heap.size, 0, none⟩ : Addr).add k) = some u := fun W' hW' => World.news_of_block (w := W') (B := wr.heap.size) (cs := #[.int .u8 (c3.toNat : Int), .int .u8 (c2.toNat : Int), .int .u8 (c1.toNat : Int), .int .u8 (c0.toNat : Int)]) (t := 5) (fr := (0, 0)) (by rw [hW']; exact heap_alloc_new _ _)
            have HOX := Lib.hid hox; clear hox
            have HNW := Lib.hid hnw; clear hnw hL
            go_region_law (refine step_append_lies _ rfl (.tmp 59) (.tmp 83) 33 rfl wo.heap.size 5 j0 (.int .u8 0) 1 1 Tryd.underlying33 HJ.out.1 HJ.out.2.1 HJ.out.2.2.1 HJ.out.2.2.2 rfl (by decide) u9 (outk sf j).length (bcells (outk sf j)) (by simp [Act.eval, Act.put]) (HOX.out _ rfl) ⟨wr.heap.size, 0, none⟩ 4 4 [.int .u8 (c3.toNat : Int), .int .u8 (c2.toNat : Int), .int .u8 (c1.toNat : Int), .int .u8 (c0.toNat : Int)] (by simp [Act.eval, Act.put]) rfl (HNW.out _ rfl) (by simp [Value.oneCell']) (by decide) (by have := HOL.out; simp only [maxLen]; omega) (by have := HOL.out; omega) (by have := HOL.out; simp; omega) _ rfl ?_; intro g6 cap6 w6 hown6 hg6 hat6 hlt6)
            all_goals
              have hown7 : w6.ownsRow wo.heap.size 5 1 (.slice (some ⟨g6, 0, none⟩) ((outk sf j).length + 4) cap6) (outk sf (j + 1)).length (bcells (outk sf (j + 1))) := by
                have e : bcells (outk sf (j + 1)) = bcells (outk sf j) ++ [.int .u8 (c3.toNat : Int), .int .u8 (c2.toNat : Int), .int .u8 (c1.toNat : Int), .int .u8 (c0.toNat : Int)] := by rw [HNX.out]; simp [bcells]
                have e2 : (outk sf (j + 1)).length = (outk sf j).length + 4 := by rw [HNX.out, List.length_append]; rfl
                rw [e, e2]
                exact hown6
              have hb6 : Below wo.heap.size wo w6 := (hbx.drew.grown (grown_alloc' hg6) hbxs (fun k hk => (HO.out.lt k hk).1))
              clear hown6 hg6 hat6 hlt6
              go_wp2_with fail
              go_roundw
              case rel => exact ⟨j + 1, by have := HOL.out; omega, by go_num, hown7, hb6⟩
              case measure => simp [intOf]; omega
          · have hje : j = 8 := by omega
            subst hje
            have hji : ¬ ((8 : Nat) : Int) < 8 := by omega
            rw [← HOUT.out] at hown
            obtain ⟨bb, A, cap9, rfl, hby⟩ := own_bytes hown
            have hcv := conv_bytes_text (P := Tryd.prog) Tryd.underlying33 Tryd.underlying5 Tryd.underlying9 hby cap9
            have HF := Lib.hid (HBR.out.trans (hbx.mono HBR.out.size))
            clear hown hby hbx hjl hj
            go_wp2_with fail
            go_ret
            rw [HRES.out]
            exact ⟨rfl, HF.out⟩
end Go.Proofs.YtbfomeifhmkpeaaDoor
