/-
  A journal is opened: the journal's Open.
-/
import Derived.Test.YtjdklifkalnamaaGreatDoorJrnD
import Derived.Test.YtjdklifkalnamaaGreatDoorJrnE
import Derived.Test.YtjdklifkalnamaaGreatDoorJrnG
import Derived.Test.YtjdklifkalnamaaGreatDoorJrnH
namespace Go.Proofs.YtjdklifkalnamaaGreatDoor
open Go.RowKit
set_option linter.unusedVariables false

namespace Jrn
theorem sts_secs : ∀ (L : List Rec) (l : Nat), (secs l L).map Prod.snd = sts L := by
  intro L
  induction L with
  | nil => intro l; rfl
  | cons q L ih =>
    intro l
    have e : sts (q :: L) = q.2 ++ sts L := by unfold sts; simp
    show (pays l q.1 q.2 ++ secs (lastOr l q.2) L).map Prod.snd = _
    rw [List.map_append, pays_stamps, ih, e]
/-- The stamps are what is read. -/
theorem sts_read {r : Nat → X} {base seed : Nat} {L : List Rec} (ha : Agree r base (secs seed L)) (i : Nat) (hi : i < (sts L).length) : (sts L)[i]'hi = (r (base + i)).2.1 := by
  have hl : i < (secs seed L).length := by rw [← sts_secs L seed, List.length_map] at hi; exact hi
  have h1 := ha i ((secs seed L)[i]'hl) (List.getElem?_eq_getElem hl)
  rw [h1]
  have h2 : (sts L)[i]? = some ((secs seed L)[i]'hl).2 := by rw [← sts_secs L seed, List.getElem?_map, List.getElem?_eq_getElem hl]; rfl
  rw [List.getElem?_eq_getElem hi] at h2
  injection h2
theorem secs_at {r : Nat → X} {base seed : Nat} {L : List Rec} (hS : ∀ q ∈ L, Shp q) (ha : Agree r base (secs seed L)) (k : Nat) (hk : k < L.length) : Agree r (base + usedL (L.take k)) (pays (lastL seed (L.take k)) (L[k]'hk).1 (L[k]'hk).2) := by
  have e : L = L.take k ++ (L[k]'hk :: L.drop (k + 1)) := by rw [← List.drop_eq_getElem_cons hk, List.take_append_drop]
  have h1 : secs seed L = secs seed (L.take k) ++ (pays (lastL seed (L.take k)) (L[k]'hk).1 (L[k]'hk).2 ++ secs (lastOr (lastL seed (L.take k)) (L[k]'hk).2) (L.drop (k + 1))) := by
    conv => lhs; rw [e]
    rw [secs_append]
    rfl
  rw [h1] at ha
  have h2 := ha.right
  rw [secs_len _ _ (fun q hq => hS q (List.mem_of_mem_take hq))] at h2
  exact h2.left
end Jrn
theorem run_nn_some (g n c : Nat) (W : World) : (binOp .neq 60 (.slice (some ⟨g, 0, none⟩) n c) (.slice none 0 0)).run Tryz.prog W = .ok (.bool true) W := by
  kernel_rfl
theorem run_nn_none (W : World) : (binOp .neq 60 (.slice none 0 0) (.slice none 0 0)).run Tryz.prog W = .ok (.bool false) W := by
  kernel_rfl
/-- A journal was opened, behind a world. -/
def OpenPost (w : World) (gg g bd mb base size seed boot wn : Nat) (L : List Jrn.Rec) (sure firm : Nat) (d : Dsk.St) (e : Ending) (w' : World) : Prop :=
  ∃ (gj : Nat) (vs vr : Value), e = .returned (.tuple #[.pointer (some ⟨gj, 0, none⟩), .int .i64 0]) ∧ JnAt w' ⟨gj, gg, g, bd, mb, base, size, seed, boot⟩ vs vr L sure firm false wn d ∧ Below w.heap.size w w' ∧ w.heap.size ≤ gj ∧ (∀ k, vs.ownBlock = some k → w.heap.size ≤ k) ∧ (∀ k, vr.ownBlock = some k → w.heap.size ≤ k)
theorem jmade (w : World) (gg g bd mb base size seed boot wn : Nat) (d : Dsk.St) (hg : GuardAt w gg g bd mb boot wn d) (h1 : base + size ≤ 8192) (h2 : seed < 4294967296) :
    JnAt (w.alloc (.cells (jcs ⟨w.heap.size, gg, g, bd, mb, base, size, seed, boot⟩ (.slice none 0 0) (.slice none 0 0) 0 0 false) 62)) ⟨w.heap.size, gg, g, bd, mb, base, size, seed, boot⟩ (.slice none 0 0) (.slice none 0 0) [] 0 0 false wn d := by
  have hlt := hg.disk.lt
  have hlt2 := hg.cells.lt
  refine ⟨Has.made w _ _, hg.below ((Below.refl _ w).alloc (Nat.le_refl _) _), ⟨World.ownsRow_nil _ 0 _ 1⟩, ⟨World.ownsRow_nil _ 0 _ 1⟩, ?_, fun k hk => (by simp [Value.ownBlock] at hk), fun k hk => (by simp [Value.ownBlock] at hk), fun k hk => (by simp [Value.ownBlock] at hk), fun q hq => (by cases hq), Nat.zero_le _, h1, h2, fun t ht => (by cases ht)⟩
  simp only [List.mem_cons, List.not_mem_nil, or_false]
  omega
/-- What next has answered at record k. -/
def NxAt (W : World) (B : Nat) (L : List Jrn.Rec) (k : Nat) (all : List Nat) (v14 v15 : Value) : Prop :=
  (k = L.length ∧ v14 = .string (S []) ∧ v15 = .slice none 0 0) ∨ (∃ hk : k < L.length, v14 = .string (S (L[k]'hk).1) ∧ IOwn B W v15 (L[k]'hk).2 ∧ ∀ j, v15.ownBlock = some j → j ∉ all)
theorem nx_at {W0 W : World} {B : Nat} {L : List Jrn.Rec} {k : Nat} {all : List Nat} {v14 v15 : Value} (hB : B ≤ W0.heap.size) (hall : ∀ j ∈ all, j < W0.heap.size) (h : (k = L.length ∧ v14 = .string (S []) ∧ v15 = .slice none 0 0) ∨ (∃ hk : k < L.length, v14 = .string (S (L[k]'hk).1) ∧ IOwn W0.heap.size W v15 (L[k]'hk).2)) : NxAt W B L k all v14 v15 := by
  rcases h with h | ⟨hk, h1, h2⟩
  · exact Or.inl h
  · exact Or.inr ⟨hk, h1, h2.mono hB, fun j hj hin => by
      have := h2.lo j hj
      have := hall j hin
      omega⟩
set_option maxRecDepth 100000 in
set_option maxHeartbeats 8000000 in
theorem jnopen_any {w : World} {gg g bd mb base size seed boot wn sure firm : Nat} {d : Dsk.St} {L : List Jrn.Rec} (hg : GuardAt w gg g bd mb boot wn d) (hu : d.up = true) (hs1 : 1 ≤ size) (hsd : 1 ≤ seed) (hsd2 : seed < 4294967296) (hrg : base + size ≤ d.secs.length)
    (hS : ∀ q ∈ L, Jrn.Shp q) (ha : Jrn.Agree (Jrn.rx d) base (Jrn.secs seed L)) (hul : Jrn.usedL L ≤ size) (hend : Jrn.nextP (Jrn.rx d) (base + Jrn.usedL L) (size - Jrn.usedL L) (Jrn.lastL seed L) = none)
    (hset : (sure = L.length ∧ firm = Jrn.usedL L ∧ ∀ i, i < Jrn.usedL L → Jrn.firmAt (Jrn.rx d) (Dsk.waits d.secs) base (Jrn.sts L) i = true) ∨ (sure = 0 ∧ firm = 0 ∧ Still L 0 0 base d)) :
    Calls Tryz.prog 22 #[.pointer (some ⟨gg, 0, none⟩), .int .i64 (base : Int), .int .i64 (size : Int), .int .i64 (seed : Int)] w (OpenPost w gg g bd mb base size seed boot wn L sure firm d) := by
  have HD := Lib.hid (gdisk_any hg)
  have HSZ := Lib.hid (size_any hg.disk)
  have hmost := hg.disk.most
  have hrd : (Dsk.read d (base : Int)).2 = 0 := by
    unfold Dsk.read
    rw [if_neg (by rw [hu]; decide), if_neg (by omega)]
  have HRD := Lib.hid (read_any hg.disk (base : Int))
  have htop : base + size ≤ 8192 := by omega
  have hbd := hg.hi
  have HMK := Lib.hid (fun W (hb : Below w.heap.size w W) => jmade W gg g bd mb base size seed boot wn d (hg.below hb) htop hsd2)
  have HNXT : Hid (∀ k (hk : k < L.length), Jrn.nextP (Jrn.rx d) (base + Jrn.usedL (L.take k)) (size - Jrn.usedL (L.take k)) (Jrn.lastL seed (L.take k)) = some ((L[k]'hk).1, (L[k]'hk).2)) := Lib.hid (fun k hk => by
    refine Jrn.nextP_of (hS _ (List.getElem_mem hk)) (Jrn.secs_at hS ha k hk) ?_
    have h1 : Jrn.usedL (L.take (k + 1)) = Jrn.usedL (L.take k) + Jrn.need (L[k]'hk).1.length := by
      rw [List.take_succ_eq_append_getElem hk, Jrn.usedL_snoc]
    have h2 := Jrn.usedL_append (L.take (k + 1)) (L.drop (k + 1))
    rw [List.take_append_drop] at h2
    omega)
  have HUK : Hid (∀ k (hk : k < L.length), Jrn.usedL (L.take k) + Jrn.need (L[k]'hk).1.length ≤ size) := Lib.hid (fun k hk => by
    have h1 : Jrn.usedL (L.take (k + 1)) = Jrn.usedL (L.take k) + Jrn.need (L[k]'hk).1.length := by
      rw [List.take_succ_eq_append_getElem hk, Jrn.usedL_snoc]
    have h2 := Jrn.usedL_append (L.take (k + 1)) (L.drop (k + 1))
    rw [List.take_append_drop] at h2
    omega)
  have HTL : Hid (∀ k (hk : k < L.length), ∀ t ∈ (L[k]'hk).2, t < 9223372036854775808) := Lib.hid (fun k hk t ht => by
    have hin : t ∈ Jrn.sts L := by
      unfold Jrn.sts
      exact List.mem_flatten.2 ⟨_, List.mem_map.2 ⟨_, List.getElem_mem hk, rfl⟩, ht⟩
    obtain ⟨i, hi, e⟩ := List.mem_iff_getElem.1 hin
    rw [← e, Jrn.sts_read ha i hi]
    exact Jrn.rx_lt d _)
  have HEND := Lib.hid hend
  have HS := Lib.hid hS
  have HSET : Hid (∀ (gj : Nat) W vs vr, JnAt W ⟨gj, gg, g, bd, mb, base, size, seed, boot⟩ vs vr L 0 0 false wn d → Calls Tryz.prog 31 #[.pointer (some ⟨gj, 0, none⟩)] W fun e w' => e = .returned (.tuple #[]) ∧ JnAt w' ⟨gj, gg, g, bd, mb, base, size, seed, boot⟩ vs vr L sure firm false wn d ∧ Mv W w' [gj]) := Lib.hid (fun gj W vs vr hq => by
    rcases hset with ⟨rfl, rfl, hall⟩ | ⟨rfl, rfl, hst⟩
    · exact jsettle_all hq (Nat.zero_le _) rfl hall
    · exact (jsettle_still hq (Nat.zero_le _) (Nat.zero_le _) hst).mono fun e w' hr => ⟨hr.1, hq.below hr.2, Mv.of_below hr.2 _⟩)
  have hn8 : (d.secs.length : Int) ≤ 8192 := by omega
  have hrg2 : (base : Int) ≤ (d.secs.length : Int) - (size : Int) := by omega
  have hwr1 : IntKind.i64.wrap ((d.secs.length : Int) - (size : Int)) = (d.secs.length : Int) - (size : Int) := by rw [IntKind.wrap_i64]; omega
  have k1 : ¬ (base : Int) < 0 := by omega
  have k2 : ¬ (size : Int) < 1 := by omega
  have k3 : ¬ (seed : Int) < 1 := by omega
  have k4 : ¬ (4294967295 : Int) < (seed : Int) := by omega
  have k5 : ¬ (d.secs.length : Int) - (size : Int) < (base : Int) := by omega
  clear hg hu hs1 hsd hrg hS ha hul hend hset htop hbd hmost
  generalize d.secs.length = n at *
  unfold ReadDPost at HRD
  generalize Dsk.read d (base : Int) = rdv at *
  obtain ⟨rb, rc⟩ := rdv
  have hrc : rc = 0 := hrd
  subst hrc
  clear hrd
  go_enter Tryz.func22, Tryz.ntmps22
  go_wp2_with fail
  refine HD.out.mono ?_
  rintro r w1 ⟨rfl, rfl⟩
  go_wp2_with fail
  refine HSZ.out.mono ?_
  rintro r w1 ⟨rfl, rfl⟩
  go_wp2_with fail
  refine HRD.out.mono ?_
  rintro r w2 ⟨rfl, hb2⟩
  have hbmk := (Below.refl _ w2).alloc (Nat.le_refl _) (.cells (jcs ⟨w2.heap.size, gg, g, bd, mb, base, size, seed, boot⟩ (.slice none 0 0) (.slice none 0 0) 0 0 false) 62)
  have H0 := Lib.hid (And.intro (HMK.out w2 hb2) (And.intro (hb2.trans (hbmk.mono hb2.size)) hb2.size))
  clear hbmk HMK HRD HSZ HD
  have HNX : Hid (∀ W vs vr (k : Nat), k ≤ L.length → JnAt W ⟨w2.heap.size, gg, g, bd, mb, base, size, seed, boot⟩ vs vr (L.take k) 0 0 false wn d → Calls Tryz.prog 45 #[.pointer (some ⟨w2.heap.size, 0, none⟩)] W (fun e w' => ∃ v14 v15, e = .returned (.tuple #[v14, v15]) ∧ Below W.heap.size W w' ∧
      ((k = L.length ∧ v14 = .string (S []) ∧ v15 = .slice none 0 0) ∨ (∃ hk : k < L.length, v14 = .string (S (L[k]'hk).1) ∧ IOwn W.heap.size w' v15 (L[k]'hk).2)))) := Lib.hid (fun W vs vr k hk hq => by
    refine (jnext_any hq).mono fun e w' hp => ?_
    rcases hp with ⟨ho, rfl, hb⟩ | ⟨s, ts, v, ho, rfl, hv, hb⟩
    · refine ⟨_, _, rfl, hb, Or.inl ⟨?_, rfl, rfl⟩⟩
      refine Classical.byContradiction fun hne => ?_
      have hlt : k < L.length := by omega
      have := HNXT.out k hlt
      dsimp only at ho
      rw [ho] at this
      cases this
    · by_cases hlt : k < L.length
      · have := HNXT.out k hlt
        dsimp only at ho
        rw [ho] at this
        injection this with this
        simp only [Prod.mk.injEq] at this
        obtain ⟨rfl, rfl⟩ := this
        exact ⟨_, _, rfl, hb, Or.inr ⟨hlt, rfl, hv⟩⟩
      · have : k = L.length := by omega
        subst this
        rw [List.take_length] at ho
        dsimp only at ho
        rw [HEND.out] at ho
        cases ho)
  clear HEND HNXT
  go_wp2_with fail
  refine (HNX.out _ _ _ 0 (Nat.zero_le _) H0.out.1).mono ?_
  rintro r w3 ⟨v14, v15, rfl, hb3, hnx⟩
  have H3 := Lib.hid (And.intro (H0.out.1.below hb3) (H0.out.2.1.trans (hb3.mono H0.out.2.1.size)))
  have hsz2 := H0.out.2.2
  have hNX := nx_at (B := w.heap.size) H0.out.2.1.size H0.out.1.lts hnx
  have HNX0 := Lib.hid hNX
  clear hNX hnx hb3 H0
  have hne : ∀ (g n c : Nat) (W : World), (binOp .neq 60 (.slice (some ⟨g, 0, none⟩) n c) (.slice none 0 0)).run Tryz.prog W = .ok (.bool true) W := run_nn_some
  have hnn : ∀ (W : World), (binOp .neq 60 (.slice none 0 0) (.slice none 0 0)).run Tryz.prog W = .ok (.bool false) W := run_nn_none
  have HNE := Lib.hid hne
  have HNN := Lib.hid hnn
  clear hne hnn
  go_wp2_with fail
  go_loopg [14, 15] L.length (fun gk v14 v15 wr => ∃ (k : Nat) (vs vr : Value), k ≤ L.length ∧ L.length - k ≤ gk ∧ JnAt wr ⟨w2.heap.size, gg, g, bd, mb, base, size, seed, boot⟩ vs vr (L.take k) 0 0 false wn d ∧ Below w.heap.size w wr ∧ (∀ j, vs.ownBlock = some j → w.heap.size ≤ j) ∧ (∀ j, vr.ownBlock = some j → w.heap.size ≤ j) ∧
      NxAt wr w.heap.size L k ((⟨w2.heap.size, gg, g, bd, mb, base, size, seed, boot⟩ : JK).all vs vr) v14 v15)
  case atStart => exact ⟨0, .slice none 0 0, .slice none 0 0, Nat.zero_le _, by omega, H3.out.1, H3.out.2, fun j hj => (by simp [Value.ownBlock] at hj), fun j hj => (by simp [Value.ownBlock] at hj), HNX0.out⟩
  case round =>
    obtain ⟨k, vs, vr, hk, hgk, hJ, hb, hvs, hvr, hnx⟩ := hrel
    rcases hnx with ⟨rfl, rfl, rfl⟩ | ⟨hlt, rfl, hv, hva⟩
    · rw [List.take_length] at hJ
      have HJ := Lib.hid (And.intro hJ (And.intro hb (And.intro hvs hvr)))
      have hnn := HNN.out
      clear hJ hb hvs hvr
      go_wp2_with fail
      refine (HSET.out _ _ _ _ HJ.out.1).mono ?_
      rintro r w5 ⟨rfl, hj5, hm5⟩
      have HF := Lib.hid (And.intro hj5 (hm5.below HJ.out.2.1 HJ.out.2.1.size (by intro x hx; rw [List.mem_singleton.1 hx]; exact hsz2)))
      clear hj5 hm5
      go_wp2_with fail
      go_ret2
      unfold OpenPost
      exact ⟨w2.heap.size, vs, vr, rfl, HF.out.1, HF.out.2, hsz2, HJ.out.2.2.1, HJ.out.2.2.2⟩
    · have hlen : (L[k]'hlt).2.length = Jrn.need (L[k]'hlt).1.length := (HS.out _ (List.getElem_mem hlt)).cnt
      have hnp := Jrn.need_pos (L[k]'hlt).1.length
      obtain ⟨g5, c5, hv5⟩ : ∃ g5 c5, u15 = .slice (some ⟨g5, 0, none⟩) (L[k]'hlt).2.length c5 := by
        rcases hv.row.open_ with ⟨_, e⟩ | ⟨g, cap, e, _⟩
        · rw [e, List.length_nil] at hlen; omega
        · exact ⟨g, cap, e⟩
      subst hv5
      have hks : L.take (k + 1) = L.take k ++ [((L[k]'hlt).1, (L[k]'hlt).2)] := List.take_succ_eq_append_getElem hlt
      have hAD := jnadd_any hJ (s := (L[k]'hlt).1) (ts := (L[k]'hlt).2) (HS.out _ (List.getElem_mem hlt)) (HUK.out k hlt) (HTL.out k hlt) hv.row hva
      rw [← hks] at hAD
      unfold AddPost at hAD
      have HAD := Lib.hid hAD
      have HV := Lib.hid (And.intro hb (And.intro hvs hvr))
      have hne := HNE.out g5 (L[k]'hlt).2.length c5
      have hlo : ∀ j ∈ (⟨w2.heap.size, gg, g, bd, mb, base, size, seed, boot⟩ : JK).all vs vr, j < wr.heap.size := hJ.lts
      have hlo5 : ∀ j ∈ [gg, g, bd, mb], j ∉ vs.ownBlock.toList ∧ j ∉ vr.ownBlock.toList := fun j hj => ⟨fun hn => hJ.ns j (by simpa using hn) (List.mem_cons_of_mem _ hj), fun hn => hJ.nr j (by simpa using hn) (List.mem_cons_of_mem _ hj)⟩
      clear hAD hJ hb hvs hvr hv hva hks hlen hnp
      generalize (L[k]'hlt).2.length = ln at *
      generalize (L[k]'hlt).1 = s at *
      go_wp2_with fail
      refine HAD.out.mono ?_
      rintro r w5 ⟨rfl, vs', vr', hj5, hm5, hbs, hbr⟩
      have HB5 := Lib.hid (hm5.below HV.out.1 HV.out.1.size (fun x hx => by
        unfold JK.own at hx
        rcases List.mem_cons.1 hx with rfl | hx
        · exact hsz2
        · rcases List.mem_append.1 hx with hx | hx
          · exact HV.out.2.1 x (by simpa using hx)
          · exact HV.out.2.2 x (by simpa using hx)))
      have HJ5 := Lib.hid hj5
      have hvs' : ∀ j, vs'.ownBlock = some j → w.heap.size ≤ j := fun j hj => by
        rcases hbs with q | q
        · rw [q] at hj; exact HV.out.2.1 j hj
        · exact Nat.le_trans HV.out.1.size (q j hj)
      have hvr' : ∀ j, vr'.ownBlock = some j → w.heap.size ≤ j := fun j hj => by
        rcases hbr with q | q
        · rw [q] at hj; exact HV.out.2.2 j hj
        · exact Nat.le_trans HV.out.1.size (q j hj)
      have HVV := Lib.hid (And.intro hvs' hvr')
      clear hj5 hm5 hbs hbr hvs' hvr' hlo hlo5 HV HAD
      go_wp2_with fail
      refine (HNX.out _ _ _ (k + 1) (by omega) HJ5.out).mono ?_
      rintro r w6 ⟨v14, v15, rfl, hb6, hnx6⟩
      have hNX6 := nx_at (B := w.heap.size) HB5.out.size HJ5.out.lts hnx6
      have HF := Lib.hid (And.intro (HJ5.out.below hb6) (And.intro (HB5.out.trans (hb6.mono HB5.out.size)) hNX6))
      clear hb6 hnx6 hNX6 HJ5 HB5
      go_wp2_with fail
      go_roundg (L.length - (k + 1))
      case measure => omega
      case rel => exact ⟨k + 1, vs', vr', by omega, by omega, HF.out.1, HF.out.2.1, HVV.out.1, HVV.out.2, HF.out.2.2⟩
end Go.Proofs.YtjdklifkalnamaaGreatDoor
