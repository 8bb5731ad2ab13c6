/-
  QEG: the texts StaQE, StaQF, StaQG in one.
-/
import Derived.Test.YtojemaaljjibiaaPQBD
import Derived.Test.YtojemaaljjibiaaPSoL
namespace Go.Proofs.Ytojemaaljjibiaa
open Go.RowKit
set_option linter.unusedVariables false

/-- The slots of the papers that are not gone. -/
def Sta.used (P : List Ent) : List Int := (P.filter fun e => !e.gone).map Ent.slot
theorem Sta.used_snoc (P : List Ent) (e : Ent) : Sta.used (P ++ [e]) = Sta.used P ++ (if e.gone = true then [] else [e.slot]) := by
  unfold Sta.used
  rw [List.filter_append, List.map_append]
  congr 1
  cases h : e.gone <;> simp [h]
theorem Sta.used_le (P : List Ent) : (Sta.used P).length ≤ P.length := by unfold Sta.used; rw [List.length_map]; exact List.length_filter_le _ _
theorem leN_trans (a b c : Int) (h1 : leN a b = true) (h2 : leN b c = true) : leN a c = true := by unfold leN at *; simp only [decide_eq_true_eq] at *; omega
theorem leN_total (a b : Int) : (leN a b || leN b a) = true := by unfold leN; simp only [Bool.or_eq_true, decide_eq_true_eq]; omega
theorem Sta.Inv.rise {st : Sta} (h : Sta.Inv st) : ((Sta.used st.P).mergeSort leN).Pairwise (· < ·) := by
  have h1 : ((Sta.used st.P).mergeSort leN).Pairwise (fun a b => leN a b = true) := List.pairwise_mergeSort leN_trans leN_total _
  have h2 : (Sta.used st.P).Pairwise (· ≠ ·) := by
    unfold Sta.used
    rw [List.pairwise_map, List.pairwise_filter]
    exact h.slots.imp (fun {a b} hab ha hb => hab (by simpa using ha) (by simpa using hb))
  have h3 : ((Sta.used st.P).mergeSort leN).Pairwise (· ≠ ·) := ((List.mergeSort_perm _ _).pairwise_iff (fun {_ _} hne => Ne.symm hne)).2 h2
  exact (h1.and h3).imp (fun {a b} ⟨x, y⟩ => by unfold leN at x; simp only [decide_eq_true_eq] at x; omega)
theorem zInfo16 : (Try.prog.info? 3).map (fun i => (i.zero, i.size, i.bytes)) = some (some (.int .i64 0), 1, 8) := by kernel_rfl
theorem ivs_snoc (L : List Int) (x : Int) : ivs L ++ [.int .i64 x] = ivs (L ++ [x]) := by simp [ivs]
section
variable {w : World} {q : Nat} {s ot : List Nat} {st : Sta} {n : Nat}
/-- The slots that came so far. -/
structure Usd (w : World) (P : List Ent) (k : Nat) (v : Value) (wr : World) : Prop where
  ow : wr.ownsRow w.heap.size 3 1 v (Sta.used (P.take k)).length (ivs (Sta.used (P.take k)))
  bl : Below w.heap.size w wr
set_option maxRecDepth 100000 in
set_option maxHeartbeats 8000000 in
theorem stUsed (h : StAt w q s ot st n) (hI : Sta.Inv st) :
    Calls Try.prog 28 #[.pointer (some ⟨q, 0, none⟩)] w fun r w' => ∃ (A : Option Addr) (ca : Nat) (U : List Int), r = .returned (.slice A U.length ca) ∧ U.Pairwise (· < ·) ∧ U.Perm ((st.P.filter fun e => !e.gone).map Ent.slot) ∧ U.length ≤ ca ∧ ca ≤ 9223372036854775807 ∧ RowI w' ((q :: s) ++ ot) A U ∧ Below w.heap.size w w' := by
  have hq := h.lt
  have hu := h.ul
  obtain ⟨⟨M, hM, hr⟩, -⟩ := h
  obtain ⟨A, ca, mb, B, cb, h1, hca, -, hP, -, -⟩ := hr.reads
  have hlen : M.length ≤ 64 := by
    have := hI.few
    rw [← hM, List.length_map] at this
    exact this
  have HRI := Lib.hid hI.rise
  have HW := Lib.hid (works_has h1)
  have y0 := h1.cell 0
  have HQ := Lib.hid (And.intro hq hu)
  have HP := Lib.hid hP
  have HM := Lib.hid hM
  have HCA := Lib.hid (And.intro hca.1 hlen)
  obtain ⟨i0, hi0, hz0, hz1, hz2⟩ := info_parts zInfo16
  have HI := Lib.hid (And.intro hi0 (And.intro hz0 (And.intro hz1 hz2)))
  clear hr hM h1 hI hP hca hq hu hlen hi0 hz0 hz1 hz2
  have hl0 : (M.length : Int) ≤ 64 := by have := HCA.out.2; omega
  go_enter Try.func28, Try.ntmps28
  go_wp2_with fail
  refine HW.out.mono ?_
  rintro r w1 ⟨rfl, hw1⟩
  subst w1
  go_wp2_with fail
  go_loopg [3, 14] M.length (fun m v3 v14 wr => ∃ k : Nat, k + m = M.length ∧ v14 = .int .i64 (k : Int) ∧ Usd w st.P k v3 wr)
  case atStart => exact ⟨0, Nat.zero_add _, rfl, ⟨by rw [List.take_zero]; exact World.ownsRow_nil _ _ _ _, Below.refl _ _⟩⟩
  case round =>
    obtain ⟨k, hkm, rfl, hC⟩ := hrel
    cases gk with
    | zero =>
      have hlt : ¬ (k : Int) < (M.length : Int) := by omega
      obtain rfl : k = M.length := by omega
      have how := hC.ow
      rw [show M.length = st.P.length by rw [← HM.out, List.length_map], List.take_length] at how
      have hll : (Sta.used st.P).length ≤ 1000000 := by
        have h1 := Sta.used_le st.P
        rw [← HM.out, List.length_map, HM.out] at h1
        have := HCA.out.2
        omega
      have HS := Lib.hid (sortN_any how hll)
      have HB := Lib.hid hC.bl
      have HLO := Lib.hid (fun j hj => (how.lt j hj).1)
      clear hC how hll
      go_wp2_with fail
      refine HS.out.mono ?_
      rintro r w1 ⟨rfl, ho, hg⟩
      obtain ⟨A1, c1, rfl⟩ := ownS_slice ho
      have HO := Lib.hid (And.intro ho (HB.out.grown hg HB.out.size (fun j hj => HLO.out j hj)))
      clear ho hg HS HB
      go_wp2_with fail
      go_ret
      have el : ((Sta.used st.P).mergeSort leN).length = (Sta.used st.P).length := List.length_mergeSort _
      refine ⟨A1, c1, (Sta.used st.P).mergeSort leN, by rw [el]; rfl, HRI.out, List.mergeSort_perm _ _, by rw [el]; exact (ownS_reads HO.out.1).1.1, (ownS_reads HO.out.1).1.2, ownS_row HO.out.1 (fun b hb hz => ?_), HO.out.2⟩
      have h1 := HQ.out
      have h2 := (HO.out.1.lt b hb).1
      rcases List.mem_append.1 (show b ∈ (q :: s) ++ ot from hz) with hz | hz
      · rcases List.mem_cons.1 hz with rfl | hz
        · omega
        · have := h1.1.2 b hz; omega
      · have := h1.2 b hz; omega
    | succ m =>
      have hlt : (k : Int) < (M.length : Int) := by omega
      have hk : k < M.length := by omega
      have hk0 : (0 : Int) ≤ (k : Int) := by omega
      have hkc : (k : Int) < (ca : Int) := by have := HCA.out.1; omega
      have hinc : IntKind.i64.wrap ((k : Int) + 1) = (k : Int) + 1 := by rw [IntKind.wrap_i64]; omega
      obtain ⟨b, hA, hb, -, hX⟩ := HP.out k hk
      obtain ⟨x0, x1, x2, x3, x4, x5, x6⟩ := hX.below (hC.bl.mono (Nat.le_refl _)) hb
      have hst : Sta.used (st.P.take (k + 1)) = Sta.used (st.P.take k) ++ (if M[k].e.gone = true then [] else [M[k].e.slot]) := by
        rw [take_one (x := M[k].e) (by rw [← HM.out, List.getElem?_map, List.getElem?_eq_getElem hk]; rfl), Sta.used_snoc]
      have HST := Lib.hid hst
      have hul : (Sta.used (st.P.take k)).length ≤ 1000 := by
        have h1 := Sta.used_le (st.P.take k)
        rw [List.length_take] at h1
        omega
      subst hA
      clear hX hst
      generalize M[k]'hk = x at x0 x1 x2 x3 x4 x5 x6 HST
      obtain ⟨⟨id, cls, born, slot, L, gone, H⟩, xA, xca, xB, xcb⟩ := x
      dsimp only at x0 x1 x2 x3 x4 x5 x6 HST
      have hba : Below wr.heap.size wr (wr.alloc (.cells #[.string (S id), .int .i64 cls, .int .i64 born, .int .i64 slot, .slice xA L.length xca, .bool gone, .slice xB H.length xcb] 33)) := (Below.refl _ wr).alloc (Nat.le_refl _) _
      have HC := Lib.hid hC
      have HKM := Lib.hid hkm
      have HBA := Lib.hid (hC.bl.trans (hba.mono hC.bl.size))
      have HOW := Lib.hid (hC.ow.alloc (.cells #[.string (S id), .int .i64 cls, .int .i64 born, .int .i64 slot, .slice xA L.length xca, .bool gone, .slice xB H.length xcb] 33))
      have HUL := Lib.hid hul
      clear hC hkm hba hul
      cases gone with
      | true =>
        have HN : Hid (Usd w st.P (k + 1) u3 (wr.alloc (.cells #[.string (S id), .int .i64 cls, .int .i64 born, .int .i64 slot, .slice xA L.length xca, .bool true, .slice xB H.length xcb] 33))) := Lib.hid ⟨by rw [HST.out, if_pos rfl, List.append_nil]; exact HOW.out, HBA.out⟩
        clear HC HBA HOW
        go_wp2_with fail
        go_roundg m
        case measure => omega
        case rel => exact ⟨k + 1, by have := HKM.out; omega, by go_num, HN.out⟩
      | false =>
        have hst := HST.out
        rw [if_neg (show ¬ (false = true) from by decide)] at hst
        have HST2 := Lib.hid hst
        clear hst HST HC
        have hmd := cell_one_new (wr.alloc (.cells #[.string (S id), .int .i64 cls, .int .i64 born, .int .i64 slot, .slice xA L.length xca, .bool false, .slice xB H.length xcb] 33)) (.int .i64 slot) 3
        rw [asize] at hmd
        have HMD := Lib.hid hmd
        clear hmd
        have HOW2 := Lib.hid (HOW.out.alloc (.cells #[.int .i64 slot] 3))
        have HB2 := Lib.hid (HBA.out.trans (((Below.refl _ (wr.alloc (.cells #[.string (S id), .int .i64 cls, .int .i64 born, .int .i64 slot, .slice xA L.length xca, .bool false, .slice xB H.length xcb] 33))).alloc (Nat.le_refl _) (.cells #[.int .i64 slot] 3)).mono HBA.out.size))
        go_wp2_with (at_builtin; (refine wpList_append_own _ rfl (.tmp 21) (.tmp 24) 63 rfl w.heap.size 3 i0 (.int .i64 0) 1 8 Try.underlying63 HI.out.1 HI.out.2.1 HI.out.2.2.1 HI.out.2.2.2 rfl (by decide) u3 (Sta.used (st.P.take k)).length (ivs (Sta.used (st.P.take k))) rfl HOW2.out ⟨wr.heap.size + 1, 0, none⟩ 1 1 [.int .i64 slot] rfl rfl HMD.out (by simp [Value.oneCell']) (by have := HUL.out; simp only [maxLen]; omega) (by have := HUL.out; omega) HB2.out.size ?_))
        intro v4 w4 hown4 hg4 hn4
        rw [ivs_snoc, ← HST2.out] at hown4
        have HN : Hid (Usd w st.P (k + 1) v4 w4) := Lib.hid ⟨by
          have e1 : (Sta.used (st.P.take (k + 1))).length = (Sta.used (st.P.take k)).length + 1 := by rw [HST2.out, List.length_append]; rfl
          rw [e1]
          exact hown4, HB2.out.grown hg4 HB2.out.size (fun j hj => (HOW.out.lt j hj).1)⟩
        clear hown4 hg4 hn4 HBA HOW HOW2 HB2 HMD
        go_wp2_with fail
        go_roundg m
        case measure => omega
        case rel => exact ⟨k + 1, by have := HKM.out; omega, by go_num, HN.out⟩
end
end Go.Proofs.Ytojemaaljjibiaa

namespace Go.Proofs.Ytojemaaljjibiaa
open Go.RowKit
set_option linter.unusedVariables false

section
variable {w : World} {e : Ent} {A B : Option Addr} {ca cb : Nat}
theorem stBox (w : World) (o : Obj) : Below w.heap.size w (w.alloc o) := (Below.refl _ w).alloc (Nat.le_refl _) o
theorem Sta.heldC_nil {e : Ent} (h : e.H.length = 0) : Sta.heldC e = 0 := by unfold Sta.heldC; rw [if_pos (List.eq_nil_of_length_eq_zero h)]
theorem Sta.heldC_some {e : Ent} (h : e.H.length ≠ 0) : Sta.heldC e = 11 := by unfold Sta.heldC; rw [if_neg (fun e => h (by rw [e]; rfl))]
set_option maxRecDepth 100000 in
theorem ckField_any (hin : EntIn w [] e A ca B cb) (i : Int) (h0 : 0 ≤ i) :
    Calls Try.prog 56 #[.agg #[.string (S e.id), .int .i64 e.cls, .int .i64 e.born, .int .i64 e.slot, .slice A e.L.length ca, .bool e.gone, .slice B e.H.length cb], .int .i64 i] w fun r w' => r = .returned (.int .i64 (if (e.L.length : Int) ≤ i then 14 else if Sta.gonS e i.toNat = true then 12 else Sta.heldC e)) ∧ Below w.heap.size w w' := by
  obtain ⟨id, cls, born, slot, L, gone, H⟩ := e
  have HB := Lib.hid (stBox w (.cells #[.string (S id), .int .i64 cls, .int .i64 born, .int .i64 slot, .slice A L.length ca, .bool gone, .slice B H.length cb] 33))
  have HH0 := Lib.hid (Sta.heldC_nil (e := ⟨id, cls, born, slot, L, gone, H⟩))
  have HH1 := Lib.hid (Sta.heldC_some (e := ⟨id, cls, born, slot, L, gone, H⟩))
  dsimp only at *
  generalize Sta.heldC ⟨id, cls, born, slot, L, gone, H⟩ = hc at *
  by_cases h1 : (L.length : Int) ≤ i
  · rw [if_pos h1]
    clear hin
    go_enter Try.func56, Try.ntmps56
    go_wp2_with fail
    go_ret
    exact ⟨rfl, HB.out⟩
  · rw [if_neg h1]
    obtain ⟨k, rfl⟩ : ∃ k : Nat, i = (k : Int) := ⟨i.toNat, by omega⟩
    have hk : k < L.length := by omega
    have hkc : (k : Int) < (ca : Int) := by have := hin.la; dsimp only at this; omega
    have hki : (k : Int) < (L.length : Int) := by omega
    obtain ⟨b, off, hA, hbl, -, q⟩ := RowP.get hin.rl k hk
    have q3 := (HB.out.cell (p := ⟨b, off + k * 4 + 3, none⟩) hbl).trans q.2.2.2
    have hgs : Sta.gonS ⟨id, cls, born, slot, L, gone, H⟩ (k : Int).toNat = L[k].e := by
      unfold Sta.gonS
      dsimp only
      rw [Int.toNat_natCast, List.getD_eq_getElem?_getD, List.getElem?_eq_getElem hk]; rfl
    rw [hgs]
    subst hA
    clear q hin hgs
    generalize L[k]'hk = y at q3 ⊢
    obtain ⟨yn, yp, yc, ye⟩ := y
    dsimp only at q3 ⊢
    cases ye with
    | true =>
      rw [if_pos rfl]
      go_enter Try.func56, Try.ntmps56
      go_wp2_with fail
      go_ret
      exact ⟨rfl, HB.out⟩
    | false =>
      rw [if_neg (show ¬ (false = true) from by decide)]
      by_cases hH : H.length = 0
      · have hcz := Lib.hid (HH0.out hH)
        have hn : ¬ (0 : Int) < (H.length : Int) := by omega
        clear hH
        go_enter Try.func56, Try.ntmps56
        go_wp2_with fail
        go_ret
        exact ⟨by rw [hcz.out]; rfl, HB.out⟩
      · have hcz := Lib.hid (HH1.out hH)
        have hn : (0 : Int) < (H.length : Int) := by omega
        clear hH
        go_enter Try.func56, Try.ntmps56
        go_wp2_with fail
        go_ret
        exact ⟨by rw [hcz.out]; rfl, HB.out⟩
set_option maxRecDepth 100000 in
theorem ckGone_any (e : Ent) (A B : Option Addr) (ca cb : Nat) (w : World) :
    Calls Try.prog 57 #[.agg #[.string (S e.id), .int .i64 e.cls, .int .i64 e.born, .int .i64 e.slot, .slice A e.L.length ca, .bool e.gone, .slice B e.H.length cb]] w fun r w' => r = .returned (.int .i64 (if e.gone = true then 12 else Sta.heldC e)) ∧ Below w.heap.size w w' := by
  obtain ⟨id, cls, born, slot, L, gone, H⟩ := e
  have HB := Lib.hid (stBox w (.cells #[.string (S id), .int .i64 cls, .int .i64 born, .int .i64 slot, .slice A L.length ca, .bool gone, .slice B H.length cb] 33))
  have HH0 := Lib.hid (Sta.heldC_nil (e := ⟨id, cls, born, slot, L, gone, H⟩))
  have HH1 := Lib.hid (Sta.heldC_some (e := ⟨id, cls, born, slot, L, gone, H⟩))
  dsimp only at *
  generalize Sta.heldC ⟨id, cls, born, slot, L, gone, H⟩ = hc at *
  cases gone with
  | true =>
    rw [if_pos rfl]
    go_enter Try.func57, Try.ntmps57
    go_wp2_with fail
    go_ret
    exact ⟨rfl, HB.out⟩
  | false =>
    rw [if_neg (show ¬ (false = true) from by decide)]
    by_cases hH : H.length = 0
    · have hcz := Lib.hid (HH0.out hH)
      have hn : ¬ (0 : Int) < (H.length : Int) := by omega
      clear hH
      go_enter Try.func57, Try.ntmps57
      go_wp2_with fail
      go_ret
      exact ⟨by rw [hcz.out]; rfl, HB.out⟩
    · have hcz := Lib.hid (HH1.out hH)
      have hn : (0 : Int) < (H.length : Int) := by omega
      clear hH
      go_enter Try.func57, Try.ntmps57
      go_wp2_with fail
      go_ret
      exact ⟨by rw [hcz.out]; rfl, HB.out⟩
set_option maxRecDepth 100000 in
theorem ckHold_any (hin : EntIn w [] e A ca B cb) (hH : e.H.length ≤ 1000) (name : List UInt8) :
    Calls Try.prog 58 #[.agg #[.string (S e.id), .int .i64 e.cls, .int .i64 e.born, .int .i64 e.slot, .slice A e.L.length ca, .bool e.gone, .slice B e.H.length cb], .string (S name)] w fun r w' => r = .returned (.int .i64 (if e.gone = true then 12 else if name ∈ e.H then 10 else if 4 ≤ e.H.length then 6 else 0)) ∧ Below w.heap.size w w' := by
  obtain ⟨id, cls, born, slot, L, gone, H⟩ := e
  dsimp only at *
  have hb := stBox w (.cells #[.string (S id), .int .i64 cls, .int .i64 born, .int .i64 slot, .slice A L.length ca, .bool gone, .slice B H.length cb] 33)
  have HB := Lib.hid hb
  have HC := Lib.hid (containsT_any (hin.below hb).rh (L := H) (ca := cb) hin.lb (by omega) name)
  clear hin hH hb
  cases gone with
  | true =>
    rw [if_pos rfl]
    clear HC
    go_enter Try.func58, Try.ntmps58
    go_wp2_with fail
    go_ret
    exact ⟨rfl, HB.out⟩
  | false =>
    rw [if_neg (show ¬ (false = true) from by decide)]
    by_cases hn : name ∈ H
    · rw [if_pos hn]
      rw [decide_eq_true hn] at HC
      clear hn
      go_enter Try.func58, Try.ntmps58
      go_wp2_with fail
      refine HC.out.mono ?_
      rintro r w1 ⟨rfl, hw1⟩
      subst w1
      go_wp2_with fail
      go_ret
      exact ⟨rfl, HB.out⟩
    · rw [if_neg hn]
      rw [decide_eq_false hn] at HC
      clear hn
      by_cases h4 : 4 ≤ H.length
      · rw [if_pos h4]
        have hn : (4 : Int) ≤ (H.length : Int) := by omega
        clear h4
        go_enter Try.func58, Try.ntmps58
        go_wp2_with fail
        refine HC.out.mono ?_
        rintro r w1 ⟨rfl, hw1⟩
        subst w1
        go_wp2_with fail
        go_ret
        exact ⟨rfl, HB.out⟩
      · rw [if_neg h4]
        have hn : ¬ (4 : Int) ≤ (H.length : Int) := by omega
        clear h4
        go_enter Try.func58, Try.ntmps58
        go_wp2_with fail
        refine HC.out.mono ?_
        rintro r w1 ⟨rfl, hw1⟩
        subst w1
        go_wp2_with fail
        go_ret
        exact ⟨rfl, HB.out⟩
end
end Go.Proofs.Ytojemaaljjibiaa

namespace Go.Proofs.Ytojemaaljjibiaa
open Go.RowKit
set_option linter.unusedVariables false

theorem stPair (w : World) (o p : Obj) : Below w.heap.size w ((w.alloc o).alloc p) := ((Below.refl _ w).alloc (Nat.le_refl _) o).alloc (by rw [asize]; omega) p
theorem Sta.cc2 (e : Ent) (v : Evt) (h : v.kind = 2) : Sta.changeC e v = (if (e.L.length : Int) ≤ v.idx then 14 else if Sta.gonS e v.idx.toNat = true then 12 else Sta.heldC e) := by unfold Sta.changeC; rw [if_pos h]
theorem Sta.cc3 (e : Ent) (v : Evt) (h : v.kind = 3) : Sta.changeC e v = (if e.gone = true then 12 else Sta.heldC e) := by unfold Sta.changeC; rw [if_neg (by omega), if_pos h]
theorem Sta.cc4 (e : Ent) (v : Evt) (h : v.kind = 4) : Sta.changeC e v = (if e.gone = true then 12 else if v.name ∈ e.H then 10 else if 4 ≤ e.H.length then 6 else 0) := by unfold Sta.changeC; rw [if_neg (by omega), if_neg (by omega), if_pos h]
theorem Sta.cc5 (e : Ent) (v : Evt) (h2 : ¬ v.kind = 2) (h3 : ¬ v.kind = 3) (h4 : ¬ v.kind = 4) : Sta.changeC e v = (if v.name ∈ e.H then 0 else 14) := by unfold Sta.changeC; rw [if_neg h2, if_neg h3, if_neg h4]
section
variable {w : World} {e : Ent} {A B : Option Addr} {ca cb : Nat}
set_option maxRecDepth 100000 in
set_option maxHeartbeats 8000000 in
theorem ckChange_any (hin : EntIn w [] e A ca B cb) (hH : e.H.length ≤ 1000) (v : Evt) (VA : Option Addr) (vca : Nat) (VB : Option Addr) (vcb : Nat) (hidx : v.kind = 2 → 0 ≤ v.idx) :
    Calls Try.prog 39 #[.agg #[.string (S e.id), .int .i64 e.cls, .int .i64 e.born, .int .i64 e.slot, .slice A e.L.length ca, .bool e.gone, .slice B e.H.length cb], v.val VA vca VB vcb] w fun r w' => r = .returned (.int .i64 (Sta.changeC e v)) ∧ Below w.heap.size w w' := by
  have HK2 := Lib.hid (fun (h : v.kind = 2) (W : World) (hb : Below w.heap.size w W) => (show Calls Try.prog 56 #[.agg #[.string (S e.id), .int .i64 e.cls, .int .i64 e.born, .int .i64 e.slot, .slice A e.L.length ca, .bool e.gone, .slice B e.H.length cb], .int .i64 v.idx] W fun r w' => r = .returned (.int .i64 (Sta.changeC e v)) ∧ Below W.heap.size W w' from by rw [Sta.cc2 e v h]; exact ckField_any (hin.below hb) v.idx (hidx h)))
  have HK3 := Lib.hid (fun (h : v.kind = 3) (W : World) => (show Calls Try.prog 57 #[.agg #[.string (S e.id), .int .i64 e.cls, .int .i64 e.born, .int .i64 e.slot, .slice A e.L.length ca, .bool e.gone, .slice B e.H.length cb]] W fun r w' => r = .returned (.int .i64 (Sta.changeC e v)) ∧ Below W.heap.size W w' from by rw [Sta.cc3 e v h]; exact ckGone_any e A B ca cb W))
  have HK4 := Lib.hid (fun (h : v.kind = 4) (W : World) (hb : Below w.heap.size w W) => (show Calls Try.prog 58 #[.agg #[.string (S e.id), .int .i64 e.cls, .int .i64 e.born, .int .i64 e.slot, .slice A e.L.length ca, .bool e.gone, .slice B e.H.length cb], .string (S v.name)] W fun r w' => r = .returned (.int .i64 (Sta.changeC e v)) ∧ Below W.heap.size W w' from by rw [Sta.cc4 e v h]; exact ckHold_any (hin.below hb) hH v.name))
  have HK5 := Lib.hid (Sta.cc5 e v)
  unfold Evt.val
  obtain ⟨id, cls, born, slot, L, gone, H⟩ := e
  obtain ⟨kind, ⟨vid, vcls, vborn, vslot, VL, vgone, VH⟩, vseq, vidx, vname, vsize, vroot, vnow⟩ := v
  dsimp only at *
  generalize Sta.changeC ⟨id, cls, born, slot, L, gone, H⟩ ⟨kind, ⟨vid, vcls, vborn, vslot, VL, vgone, VH⟩, vseq, vidx, vname, vsize, vroot, vnow⟩ = res at *
  have hW : Below w.heap.size w ((w.alloc (.cells #[.string (S id), .int .i64 cls, .int .i64 born, .int .i64 slot, .slice A L.length ca, .bool gone, .slice B H.length cb] 33)).alloc (.cells #[.int .i64 kind, .string (S vid), .int .i64 vcls, .int .i64 vborn, .int .i64 vslot, .slice VA VL.length vca, .bool vgone, .slice VB VH.length vcb, .int .i64 vseq, .int .i64 vidx, .string (S vname), .int .i64 vsize, .string (S vroot), .int .i64 vnow] 37)) := stPair _ _ _
  by_cases c2 : kind = 2
  · subst c2
    have HW := Lib.hid hW
    have HC := Lib.hid (HK2.out rfl _ hW)
    clear hin hH hidx hW HK2 HK3 HK4 HK5
    go_enter Try.func39, Try.ntmps39
    go_wp2_with fail
    refine HC.out.mono ?_
    rintro r w1 ⟨rfl, hb1⟩
    have HB := Lib.hid (HW.out.trans (hb1.mono HW.out.size))
    clear hb1
    go_wp2_with fail
    go_ret
    exact ⟨rfl, HB.out⟩
  have c2' : (kind == 2) = false := by rw [beq_eq_false_iff_ne]; exact c2
  by_cases c3 : kind = 3
  · subst c3
    have HW := Lib.hid hW
    have HC := Lib.hid (HK3.out rfl ((w.alloc (.cells #[.string (S id), .int .i64 cls, .int .i64 born, .int .i64 slot, .slice A L.length ca, .bool gone, .slice B H.length cb] 33)).alloc (.cells #[.int .i64 3, .string (S vid), .int .i64 vcls, .int .i64 vborn, .int .i64 vslot, .slice VA VL.length vca, .bool vgone, .slice VB VH.length vcb, .int .i64 vseq, .int .i64 vidx, .string (S vname), .int .i64 vsize, .string (S vroot), .int .i64 vnow] 37)))
    clear hin hH hidx hW HK2 HK3 HK4 HK5
    go_enter Try.func39, Try.ntmps39
    go_wp2_with fail
    refine HC.out.mono ?_
    rintro r w1 ⟨rfl, hb1⟩
    have HB := Lib.hid (HW.out.trans (hb1.mono HW.out.size))
    clear hb1
    go_wp2_with fail
    go_ret
    exact ⟨rfl, HB.out⟩
  have c3' : (kind == 3) = false := by rw [beq_eq_false_iff_ne]; exact c3
  by_cases c4 : kind = 4
  · subst c4
    have HW := Lib.hid hW
    have HC := Lib.hid (HK4.out rfl _ hW)
    clear hin hH hidx hW HK2 HK3 HK4 HK5
    go_enter Try.func39, Try.ntmps39
    go_wp2_with fail
    refine HC.out.mono ?_
    rintro r w1 ⟨rfl, hb1⟩
    have HB := Lib.hid (HW.out.trans (hb1.mono HW.out.size))
    clear hb1
    go_wp2_with fail
    go_ret
    exact ⟨rfl, HB.out⟩
  have c4' : (kind == 4) = false := by rw [beq_eq_false_iff_ne]; exact c4
  have HW := Lib.hid hW
  have HC := Lib.hid (containsT_any (hin.below hW).rh (L := H) (ca := cb) hin.lb (by omega) vname)
  rw [HK5.out c2 c3 c4]
  clear hin hH hidx hW HK2 HK3 HK4 HK5 c2 c3 c4
  by_cases hn : vname ∈ H
  · rw [if_pos hn]
    rw [decide_eq_true hn] at HC
    clear hn
    go_enter Try.func39, Try.ntmps39
    go_wp2_with fail
    refine HC.out.mono ?_
    rintro r w1 ⟨rfl, hw1⟩
    subst w1
    go_wp2_with fail
    go_ret
    exact ⟨rfl, HW.out⟩
  · rw [if_neg hn]
    rw [decide_eq_false hn] at HC
    clear hn
    go_enter Try.func39, Try.ntmps39
    go_wp2_with fail
    refine HC.out.mono ?_
    rintro r w1 ⟨rfl, hw1⟩
    subst w1
    go_wp2_with fail
    go_ret
    exact ⟨rfl, HW.out⟩
end
end Go.Proofs.Ytojemaaljjibiaa
