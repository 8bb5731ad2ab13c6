/-
  QWQ: the texts StaQW, StaQ in one.
-/
import Derived.Test.YtojemaaljjibiaaQUV
import Derived.Test.YtojemaaljjibiaaEvRdS
namespace Go.Proofs.Ytojemaaljjibiaa
open Go.RowKit
set_option linter.unusedVariables false

/-- An event that may be, clean, with few signs. -/
def EvOk (v : Evt) : Prop := EvtFew v ∧ Ev.right v = true ∧ Ev.clean v = v
theorem sameOk {u v : Evt} (hu : EvOk u) (hv : EvOk v) : (decide (Ev.bytes u ≠ []) && decide (Ev.bytes u = Ev.bytes v)) = decide (u = v) := by
  rw [Ev.same_iff, hu.2.1, hv.2.1, hu.2.2, hv.2.2]
  rfl
set_option maxRecDepth 100000 in
set_option maxHeartbeats 16000000 in
theorem equalV_any {w : World} {A1 A2 : Option Addr} {c1 c2 : Nat} {L1 L2 : List EvX} (h1 : RowV w [] A1 L1) (h2 : RowV w [] A2 L2) (hc1 : L1.length ≤ c1) (hc2 : L2.length ≤ c2) (hl : L1.length ≤ 1000000) (f1 : ∀ x ∈ L1, EvOk x.v) (f2 : ∀ x ∈ L2, EvOk x.v) :
    Calls Try.prog 46 #[.slice A1 L1.length c1, .slice A2 L2.length c2, .func (.func 47) #[] #[]] w fun r w' => r = .returned (.bool (decide (L1.map EvX.v = L2.map EvX.v))) ∧ Below w.heap.size w w' := by
  have eg := enters_of Try.func47 (by kernel_rfl) rfl
  by_cases hne : ¬ L1.length = L2.length
  · have hd : decide (L1.map EvX.v = L2.map EvX.v) = false := decide_eq_false (fun e => hne (by have := congrArg List.length e; rwa [List.length_map, List.length_map] at this))
    have hnb : ((L1.length : Int) != (L2.length : Int)) = true := by rw [bne_iff_ne]; omega
    rw [hd]
    clear h1 h2 f1 f2 hd
    go_enter Try.func46, Try.ntmps46
    go_wp2_with fail
    go_ret
    exact ⟨rfl, Below.refl _ _⟩
  have hne := Decidable.not_not.1 hne
  have HR := Lib.hid (And.intro h1 h2)
  have HF := Lib.hid (And.intro f1 f2)
  have HC := Lib.hid (And.intro hc1 (And.intro hc2 (And.intro hl hne)))
  have hnb : ((L1.length : Int) != (L2.length : Int)) = false := by rw [bne_eq_false_iff_eq]; omega
  have HALL : Hid ((∀ j (a : j < L1.length) (b : j < L2.length), L1[j].v = L2[j].v) → L1.map EvX.v = L2.map EvX.v) := Lib.hid (fun hh => List.ext_getElem (by rw [List.length_map, List.length_map]; exact hne) (fun j a b => by rw [List.getElem_map, List.getElem_map]; exact hh j (by rw [List.length_map] at a; exact a) (by rw [List.length_map] at b; exact b)))
  have HNO : Hid (∀ j (a : j < L1.length) (b : j < L2.length), L1[j].v ≠ L2[j].v → L1.map EvX.v ≠ L2.map EvX.v) := Lib.hid (fun j a b hn e => hn (by
    have h3 : (L1.map EvX.v)[j]? = (L2.map EvX.v)[j]? := by rw [e]
    rw [List.getElem?_map, List.getElem?_map, List.getElem?_eq_getElem a, List.getElem?_eq_getElem b] at h3
    exact Option.some.inj h3))
  obtain ⟨res, hres⟩ : ∃ res, decide (L1.map EvX.v = L2.map EvX.v) = res := ⟨_, rfl⟩
  rw [hres]
  have HRES := Lib.hid hres
  clear h1 h2 f1 f2 hc1 hc2 hl hne hres
  go_enter Try.func46, Try.ntmps46
  go_wp2_with fail
  go_loopg [17] L1.length (fun m v17 wr => ∃ k : Nat, k + m = L1.length ∧ v17 = .int .i64 (k : Int) ∧ Hid (∀ j (a : j < L1.length) (b : j < L2.length), j < k → L1[j].v = L2[j].v) ∧ Hid (Below w.heap.size w wr))
  case atStart => exact ⟨0, Nat.zero_add _, rfl, Lib.hid (fun j a b h0 => by omega), Lib.hid (Below.refl _ _)⟩
  case round =>
    obtain ⟨k, hkm, rfl, HK, HB⟩ := hrel
    cases gk with
    | zero =>
      have hlt : ¬ (k : Int) < (L1.length : Int) := by omega
      obtain rfl : k = L1.length := by omega
      have hr : res = true := by rw [← HRES.out, decide_eq_true_iff]; exact HALL.out (fun j a b => HK.out j a b a)
      subst hr
      go_wp2_with fail
      go_ret
      exact ⟨rfl, HB.out⟩
    | succ m =>
      have hlt : (k : Int) < (L1.length : Int) := by omega
      have hk : k < L1.length := by omega
      have hk2 : k < L2.length := by have := HC.out.2.2.2; omega
      have hlt2 : (k : Int) < (L2.length : Int) := by omega
      have hk0 : (0 : Int) ≤ (k : Int) := by omega
      have hkc : (k : Int) < (c1 : Int) := by have := HC.out.1; omega
      have hkc2 : (k : Int) < (c2 : Int) := by have := HC.out.2.1; omega
      have hinc : IntKind.i64.wrap ((k : Int) + 1) = (k : Int) + 1 := by rw [IntKind.wrap_i64]; have := HC.out.2.2.1; omega
      obtain ⟨b, off, hA, hbl, -, p⟩ := RowV.get HR.out.1 k hk
      obtain ⟨b2, off2, hA2, hbl2, -, p2⟩ := RowV.get HR.out.2 k hk2
      subst hA hA2
      have pw := fun j u hu => (HB.out.cell (p := ⟨b, off + k * 14 + j, none⟩) hbl).trans (p j u hu)
      have pw2 := fun j u hu => (HB.out.cell (p := ⟨b2, off2 + k * 14 + j, none⟩) hbl2).trans (p2 j u hu)
      have hS := fun (W : World) (hb : Below w.heap.size w W) => sameV_any ((HR.out.1.ents _ (List.getElem_mem hk)).below hb) ((HR.out.2.ents _ (List.getElem_mem hk2)).below hb) (HF.out.1 _ (List.getElem_mem hk)).1 (HF.out.2 _ (List.getElem_mem hk2)).1
      rw [sameOk (HF.out.1 _ (List.getElem_mem hk)) (HF.out.2 _ (List.getElem_mem hk2))] at hS
      have HN := Lib.hid (HNO.out k hk hk2)
      have HKS : Hid (L1[k].v = L2[k].v → ∀ j (a : j < L1.length) (b : j < L2.length), j < k + 1 → L1[j].v = L2[j].v) := Lib.hid (fun e j a b hj => by
        rcases Nat.lt_or_eq_of_le (Nat.le_of_lt_succ hj) with h1 | h1
        · exact HK.out j a b h1
        · subst h1; exact e)
      obtain ⟨sm, hsm⟩ : ∃ sm, decide (L1[k].v = L2[k].v) = sm := ⟨_, rfl⟩
      rw [hsm] at hS
      have HSM := Lib.hid hsm
      clear hsm p p2
      generalize L1[k]'hk = x at pw hS HN HKS HSM
      generalize L2[k]'hk2 = y at pw2 hS HN HKS HSM
      obtain ⟨⟨xkind, ⟨xid, xcls, xborn, xslot, xL, xgone, xH⟩, xseq, xidx, xname, xsize, xroot, xnow⟩, xA, xca, xB, xcb⟩ := x
      obtain ⟨⟨ykind, ⟨yid, ycls, yborn, yslot, yL, ygone, yH⟩, yseq, yidx, yname, ysize, yroot, ynow⟩, yA, yca, yB, ycb⟩ := y
      have hbw1 : b < wr.heap.size := Nat.lt_of_lt_of_le hbl HB.out.size
      have hbw2 : b2 < wr.heap.size := Nat.lt_of_lt_of_le hbl2 HB.out.size
      have ec0 := pw 0 _ rfl
      have ec1 := pw 1 _ rfl
      have ec2 := pw 2 _ rfl
      have ec3 := pw 3 _ rfl
      have ec4 := pw 4 _ rfl
      have ec5 := pw 5 _ rfl
      have ec6 := pw 6 _ rfl
      have ec7 := pw 7 _ rfl
      have ec8 := pw 8 _ rfl
      have ec9 := pw 9 _ rfl
      have ec10 := pw 10 _ rfl
      have ec11 := pw 11 _ rfl
      have ec12 := pw 12 _ rfl
      have ec13 := pw 13 _ rfl
      have ed0 := pw2 0 _ rfl
      have ed1 := pw2 1 _ rfl
      have ed2 := pw2 2 _ rfl
      have ed3 := pw2 3 _ rfl
      have ed4 := pw2 4 _ rfl
      have ed5 := pw2 5 _ rfl
      have ed6 := pw2 6 _ rfl
      have ed7 := pw2 7 _ rfl
      have ed8 := pw2 8 _ rfl
      have ed9 := pw2 9 _ rfl
      have ed10 := pw2 10 _ rfl
      have ed11 := pw2 11 _ rfl
      have ed12 := pw2 12 _ rfl
      have ed13 := pw2 13 _ rfl
      simp only [Nat.add_zero] at ec0 ed0
      unfold Evt.val at hS
      dsimp only at ec0 ec1 ec2 ec3 ec4 ec5 ec6 ec7 ec8 ec9 ec10 ec11 ec12 ec13 ed0 ed1 ed2 ed3 ed4 ed5 ed6 ed7 ed8 ed9 ed10 ed11 ed12 ed13 hS HN HKS HSM
      have HS := Lib.hid hS
      have HKM := Lib.hid hkm
      have hb5 := stBox wr (.cells #[.int .i64 xkind, .string (S xid), .int .i64 xcls, .int .i64 xborn, .int .i64 xslot, .slice xA xL.length xca, .bool xgone, .slice xB xH.length xcb, .int .i64 xseq, .int .i64 xidx, .string (S xname), .int .i64 xsize, .string (S xroot), .int .i64 xnow] 37)
      have HB5 := Lib.hid hb5
      have HBW : Hid (Below w.heap.size w ((wr.alloc (.cells #[.int .i64 xkind, .string (S xid), .int .i64 xcls, .int .i64 xborn, .int .i64 xslot, .slice xA xL.length xca, .bool xgone, .slice xB xH.length xcb, .int .i64 xseq, .int .i64 xidx, .string (S xname), .int .i64 xsize, .string (S xroot), .int .i64 xnow] 37)).alloc (.cells #[.int .i64 ykind, .string (S yid), .int .i64 ycls, .int .i64 yborn, .int .i64 yslot, .slice yA yL.length yca, .bool ygone, .slice yB yH.length ycb, .int .i64 yseq, .int .i64 yidx, .string (S yname), .int .i64 ysize, .string (S yroot), .int .i64 ynow] 37))) := Lib.hid (HB.out.trans ((stPair wr _ _).mono HB.out.size))
      clear pw pw2 hS hkm hb5 HK
      have hpx := entTwo wr 37 #[.int .i64 xkind, .string (S xid), .int .i64 xcls, .int .i64 xborn, .int .i64 xslot, .slice xA xL.length xca, .bool xgone, .slice xB xH.length xcb, .int .i64 xseq, .int .i64 xidx, .string (S xname), .int .i64 xsize, .string (S xroot), .int .i64 xnow] #[.int .i64 ykind, .string (S yid), .int .i64 ycls, .int .i64 yborn, .int .i64 yslot, .slice yA yL.length yca, .bool ygone, .slice yB yH.length ycb, .int .i64 yseq, .int .i64 yidx, .string (S yname), .int .i64 ysize, .string (S yroot), .int .i64 ynow]
      go_upto_region 7 with fail
      clear ec0 ed0 ec1 ed1 ec2 ed2 ec3 ed3 ec4 ed4 ec5 ed5 ec6 ed6 ec7 ed7 ec8 ed8 ec9 ed9 ec10 ed10 ec11 ed11 ec12 ed12 ec13 ed13
      generalize (wr.alloc (.cells #[.int .i64 xkind, .string (S xid), .int .i64 xcls, .int .i64 xborn, .int .i64 xslot, .slice xA xL.length xca, .bool xgone, .slice xB xH.length xcb, .int .i64 xseq, .int .i64 xidx, .string (S xname), .int .i64 xsize, .string (S xroot), .int .i64 xnow] 37)).alloc (.cells #[.int .i64 ykind, .string (S yid), .int .i64 ycls, .int .i64 yborn, .int .i64 yslot, .slice yA yL.length yca, .bool ygone, .slice yB yH.length ycb, .int .i64 yseq, .int .i64 yidx, .string (S yname), .int .i64 ysize, .string (S yroot), .int .i64 ynow] 37) = WL at hpx HBW ⊢
      obtain ⟨b0, hq0⟩ : ∃ b0, wr.heap.size = b0 := ⟨_, rfl⟩
      rw [hq0] at hpx ⊢
      have HP := Lib.hid hpx
      clear hpx hq0 hbw1 hbw2 hbl hbl2
      refine wp_region_lit ?_
      go_wp2_with (first | (refine wpList_evLoad (by rfl) (.tmp 8) rfl b0 #[.int .i64 xkind, .string (S xid), .int .i64 xcls, .int .i64 xborn, .int .i64 xslot, .slice xA xL.length xca, .bool xgone, .slice xB xH.length xcb, .int .i64 xseq, .int .i64 xidx, .string (S xname), .int .i64 xsize, .string (S xroot), .int .i64 xnow] ?e1 HP.out.1 rfl ?_; (case e1 => rfl)) | (refine wpList_evLoad (by rfl) (.tmp 9) rfl (b0 + 1) #[.int .i64 ykind, .string (S yid), .int .i64 ycls, .int .i64 yborn, .int .i64 yslot, .slice yA yL.length yca, .bool ygone, .slice yB yH.length ycb, .int .i64 yseq, .int .i64 yidx, .string (S yname), .int .i64 ysize, .string (S yroot), .int .i64 ynow] ?e1 HP.out.2 rfl ?_; (case e1 => rfl)))
      refine (HS.out _ HBW.out).mono ?_
      rintro r w2 ⟨rfl, hb2⟩
      have HB2 := Lib.hid (HBW.out.trans (hb2.mono HBW.out.size))
      clear hb2 HP HBW HS
      cases sm with
      | true =>
        have e := of_decide_eq_true HSM.out
        have HK2 := Lib.hid (HKS.out e)
        clear HSM HN HKS e
        go_wp2_with fail
        go_roundg m
        case measure => omega
        case rel => exact ⟨k + 1, by have := HKM.out; omega, by go_num, HK2, HB2⟩
      | false =>
        have e := of_decide_eq_false HSM.out
        have hr : res = false := by rw [← HRES.out, decide_eq_false_iff_not]; exact HN.out e
        subst hr
        clear HSM HN HKS e
        go_wp2_with fail
        go_ret
        exact ⟨rfl, HB2.out⟩
end Go.Proofs.Ytojemaaljjibiaa

namespace Go.Proofs.Ytojemaaljjibiaa
open Go.RowKit
set_option linter.unusedVariables false

theorem StAt.works {w : World} {q : Nat} {s ot : List Nat} {st : Sta} {n : Nat} (h : StAt w q s ot st n) : Calls Try.prog 34 #[.pointer (some ⟨q, 0, none⟩)] w fun r w' => r = .returned (.bool true) ∧ w' = w := by
  obtain ⟨⟨M, _, hr⟩, _⟩ := h
  obtain ⟨_, _, _, _, _, h1, _⟩ := hr.ex
  exact works_has h1
theorem snapOk {st : Sta} (hI : Sta.Inv st) {L : List EvX} (hL : L.map EvX.v = Sta.snap st) : ∀ x ∈ L, EvOk x.v := fun x hx => by
  have : x.v ∈ Sta.snap st := by rw [← hL]; exact List.mem_map_of_mem hx
  exact Sta.snap_mem hI this
section
variable {w : World} {q : Nat} {s ot : List Nat} {st : Sta} {n : Nat}
set_option maxRecDepth 100000 in
theorem stSame (h : StAt w q s ot st n) (hI : Sta.Inv st) (hQ : st.Q.length ≤ 1000) {q2 : Nat} {s2 ot2 : List Nat} {st2 : Sta} {n2 : Nat} (h2 : StAt w q2 s2 ot2 st2 n2) (hI2 : Sta.Inv st2) (hQ2 : st2.Q.length ≤ 1000) :
    Calls Try.prog 22 #[.pointer (some ⟨q, 0, none⟩), .pointer (some ⟨q2, 0, none⟩)] w fun r w' => r = .returned (.bool (decide (st = st2))) ∧ Below w.heap.size w w' := by
  have HW1 := Lib.hid h.works
  have HW2 := Lib.hid h2.works
  have HS1 := Lib.hid (stSnapshot h hI hQ)
  have HS2 := Lib.hid (fun (W : World) (hb : Below w.heap.size w W) => stSnapshot (h2.below hb) hI2 hQ2)
  have HO := Lib.hid (And.intro (fun (L : List EvX) (hL : L.map EvX.v = Sta.snap st) => snapOk hI hL) (fun (L : List EvX) (hL : L.map EvX.v = Sta.snap st2) => snapOk hI2 hL))
  have HLN : Hid ((Sta.snap st).length ≤ 1000000) := Lib.hid (by rw [Sta.snap_len]; have := hI.few; omega)
  obtain ⟨res, hres⟩ : ∃ res, decide (st = st2) = res := ⟨_, rfl⟩
  have HRES := Lib.hid hres
  rw [hres]
  clear h h2 hI hI2 hQ hQ2 hres
  go_enter Try.func22, Try.ntmps22
  go_wp2_with fail
  refine HW1.out.mono ?_
  rintro r w1 ⟨rfl, hw1⟩
  subst w1
  go_wp2_with fail
  refine HW2.out.mono ?_
  rintro r w1 ⟨rfl, hw1⟩
  subst w1
  go_wp2_with fail
  refine HS1.out.mono ?_
  rintro r w1 ⟨A1, c1, L1, rfl, hL1, hc1, hm1, hR1, hb1⟩
  have HX1 := Lib.hid (And.intro hL1 (And.intro hc1 (And.intro hR1 hb1)))
  clear hL1 hc1 hm1 hR1 hb1 HS1
  go_wp2_with fail
  refine (HS2.out _ HX1.out.2.2.2).mono ?_
  rintro r w2 ⟨A2, c2, L2, rfl, hL2, hc2, hm2, hR2, hb2⟩
  have HE := Lib.hid (equalV_any (RowV.mk ((HX1.out.2.2.1.below hb2).row.sub (t := []) (by simp)) (fun x hx => ((HX1.out.2.2.1.below hb2).ents x hx).sub (by simp))) (RowV.mk (hR2.row.sub (t := []) (by simp)) (fun x hx => (hR2.ents x hx).sub (by simp))) HX1.out.2.1 hc2 (by
    have h1 := congrArg List.length HX1.out.1
    rw [List.length_map] at h1
    have h2 := HLN.out
    omega) (HO.out.1 L1 HX1.out.1) (HO.out.2 L2 hL2))
  have HB := Lib.hid (HX1.out.2.2.2.trans (hb2.mono HX1.out.2.2.2.size))
  rw [HX1.out.1, hL2, show decide (Sta.snap st = Sta.snap st2) = decide (st = st2) from decide_eq_decide.2 Sta.snap_inj, HRES.out] at HE
  clear hL2 hc2 hm2 hR2 hb2 HX1 HS2 HRES HO HLN
  go_wp2_with fail
  refine HE.out.mono ?_
  rintro r w3 ⟨rfl, hb3⟩
  have HB3 := Lib.hid (HB.out.trans (hb3.mono HB.out.size))
  clear hb3 HE HB
  go_wp2_with fail
  go_ret
  exact ⟨rfl, HB3.out⟩
end
end Go.Proofs.Ytojemaaljjibiaa
