/-
  The contract of MerkleRoots.
-/
import Derived.Test.YtphhaiccpllnpaaDoorMkArg
import Derived.Test.YtphhaiccpllnpaaDoorMkLeaves
import Derived.Test.YtphhaiccpllnpaaDoorMkAdd
import Derived.Test.YtphhaiccpllnpaaDoorSwap
import Derived.Test.YtphhaiccpllnpaaDoorLaw
import Derived.Test.YtphhaiccpllnpaaDoorRows
namespace Go.Proofs.YtphhaiccpllnpaaDoor
open Go.ChangeShapes Go.WideShapes Go.ChangeAt Go.RowKit
open Go.ChangeMaps (open_string shut_string)
set_option linter.unusedVariables false

theorem own_rowS3 {w : World} {B : Nat} {v : Value} {R : List (List UInt8)} (h : w.ownsRow B 9 1 v R.length (tvs R)) : ∃ A cap, v = .slice A R.length cap ∧ R.length ≤ cap ∧ cap ≤ 9223372036854775807 ∧
    (R ≠ [] → ∃ b, A = some ⟨b, 0, none⟩ ∧ B ≤ b ∧ b < w.heap.size ∧ TRow w b 0 R) := by
  obtain ⟨A, cap, hv, hc, hcm, _, hr⟩ := own_row h rfl
  exact ⟨A, cap, hv, hc, hcm, fun hl => by obtain ⟨b, hA, hb, hB, hrow⟩ := hr hl; exact ⟨b, hA, hB, hb, hrow⟩⟩
/-- What is true ahead of a round. -/
structure RootsAt (w wr : World) (f : Nat) (A : Option Addr) (R : List (List UInt8)) (k : Nat) (st : Mill.St) : Prop where
  o : OneK w wr st
  d : Deb wr
  fr : FrontAt wr f (w.heap.size + 1) (f + 1) (R.take k)
  r : RowS wr [w.heap.size + 1, w.heap.size, f] A R
  q : st.sums ≤ 2000 + 2100 * k

set_option maxHeartbeats 4000000 in
set_option maxRecDepth 100000 in
theorem merkleRoots_any (A : Option Addr) (L : List (List UInt8)) (cap : Nat) (w : World) (hA : RowA w A L) (hT : Tabs w) (hD : Deb w) (hlc : L.length ≤ cap) (hcm : cap ≤ 9223372036854775807) :
    Calls Tryd.prog 3 #[.slice A L.length cap] w fun e w' => e = .returned (.bool true) ∧ Below w.heap.size w w' := by
  have hL := fun st W (h : OneK w W st) (hs : st.sums ≤ 1000) => mkLeaves_any (w.heap.size + 1) w.heap.size none [] rfl A L cap st W hlc hcm (hA.at h.b two_low) (by omega) h.m
  have h40 := Mk.leaves_len [] L
  have h32 := Mk.leaves_sums [] rfl L
  have HT := Lib.hid hT
  have HD := Lib.hid hD
  have h2 := hT.2.2
  unfold RowPost at hL
  generalize Mk.leaves [] L = R at *
  have hs6 : ∀ s, s ∈ R → s.length ≤ 1000000 := fun s hs => by rw [h32 s hs]; decide
  have HS6 := Lib.hid hs6
  have hN := fun st W (h : OneK w W st) (hs : st.sums ≤ 5000) => mkNone_any (w.heap.size + 1) w.heap.size none [] rfl st W h.m (by omega)
  have hRt := fun A c st W hr (hc : R.length ≤ c) (hcm : c ≤ 9223372036854775807) (h : OneK w W st) (hs : st.sums ≤ 500000) => mRoot_any (w.heap.size + 1) w.heap.size none [] rfl A R c st W (by omega) hc hcm hr hs6 (by omega) h.m
  have hRl := fun A c st W hr (hc : R.length ≤ c) (hcm : c ≤ 9223372036854775807) (h : OneK w W st) (hs : st.sums ≤ 500000) => mkRoot_any (w.heap.size + 1) w.heap.size none [] rfl A R c st W (by omega) hc hcm hr hs6 (by omega) h.m
  have hal := (Mk.rootAsks_len [] R.length R rfl).1
  unfold MkPost at hRt hRl hN
  generalize Mk.root [] R = yR at *
  generalize Mk.rootAsks [] R = rts at *
  have HL := Lib.hid hL; clear hL
  have HN := Lib.hid hN; clear hN
  have HRT := Lib.hid hRt; clear hRt
  have HRL := Lib.hid hRl; clear hRl
  clear hA hT hD h32 hs6
  obtain ⟨yN, hyN⟩ : ∃ y, Mk.nil [] = y := ⟨_, rfl⟩
  have HYN := Lib.hid hyN
  rw [hyN] at HN
  clear hyN
  have e1 : (yN == yN) = true := by simp
  have e2 : (yR == yR) = true := by simp
  obtain ⟨n0, hn0⟩ : ∃ n0, L.length = n0 := ⟨_, rfl⟩
  rw [hn0] at hlc HL ⊢
  clear hn0
  go_enter Tryd.func3, Tryd.ntmps3
  go_wp2_with fail
  refine (newMill_tv w).mono ?_
  rintro r1 w1 ⟨rfl, hM1, hb1, hs1⟩
  have H := Lib.hid (OneK.made HT.out hM1 hb1)
  have hf0 : Mill.fresh.sums = 0 := rfl
  generalize Mill.fresh = s0 at H hf0
  have hz1 : w.heap.size + 2 ≤ w1.heap.size := by omega
  clear hM1 hb1 hs1
  go_wp2_with fail
  refine (HL.out _ _ H.out (by omega)).mono ?_
  rintro r w2 ⟨v, ts, rfl, hown, hts, hm2, hv2⟩
  replace H := Lib.hid (H.out.step hm2 hv2)
  obtain ⟨A2, cap2, rfl, hc2, hcm2, hR2⟩ := own_rowS3 hown
  have hz2 : w.heap.size + 2 ≤ w2.heap.size := Nat.le_trans hz1 hv2.size
  have hq2 : (Mill.steps [] ts s0).sums ≤ 40 := by rw [Mill.steps_sums]; omega
  generalize Mill.steps [] ts s0 = s2 at H hq2
  clear hown hm2 hv2 hts
  go_wp2_with fail
  refine (fnew_any (w.heap.size + 1) w2).mono ?_
  rintro r w3 ⟨rfl, hF3, hb3, hs3⟩
  replace H := Lib.hid (H.out.below hb3)
  have hRS : RowS w3 [w.heap.size + 1, w.heap.size, w2.heap.size] A2 R := fun hl => by
    obtain ⟨b, hA, hB, hb, hr⟩ := hR2 hl
    exact ⟨b, 0, hA, by omega, by simp only [List.mem_cons, List.not_mem_nil, or_false]; omega, hr.mv (Mv.of_below hb3 []) hb (by simp)⟩
  have hfr : w.heap.size + 2 ≤ w2.heap.size := hz2
  generalize w2.heap.size = f at *
  have hfn : f ∉ [w.heap.size + 1, w.heap.size] := by simp only [List.mem_cons, List.not_mem_nil, or_false]; omega
  have hfB : ∀ x ∈ [w.heap.size + 1, w.heap.size], x < f + 1 := fun x hx => by simp only [List.mem_cons, List.not_mem_nil, or_false] at hx; omega
  clear hR2 hb3 hz2
  have hR0 := froot_any f (w.heap.size + 1) w.heap.size (f + 1) [] s2 w3 hF3 hfn hfB (by decide) (fun s hs => by cases hs) (by omega) H.out.m
  rw [Mk.root_nil, HYN.out] at hR0
  unfold FewPost at hR0
  go_wp2_with fail
  refine hR0.mono ?_
  rintro r w4 ⟨ts4, rfl, hts4, hm4, hv4⟩
  replace H := Lib.hid (H.out.step hm4 hv4)
  have hF4 := hF3.mv hv4 hfn hfB
  have hRS4 := hRS.mv hv4 (by intro x hx; simp only [List.mem_cons, List.not_mem_nil, or_false] at hx ⊢; omega)
  have hq4 : (Mill.steps [] ts4 s2).sums ≤ 1100 := by rw [Mill.steps_sums]; omega
  generalize Mill.steps [] ts4 s2 = s4 at H hq4
  clear hF3 hRS hR0 hm4 hv4 hts4
  go_wp2_with fail
  refine (HN.out _ _ H.out (by omega)).mono ?_
  rintro r w5 ⟨rfl, hm5, hv5⟩
  replace H := Lib.hid (H.out.step hm5 hv5)
  have hF5 := hF4.mv hv5 hfn hfB
  have hRS5 := hRS4.mv hv5 (by intro x hx; simp only [List.mem_cons, List.not_mem_nil, or_false] at hx ⊢; omega)
  have hq5 : (Mill.steps [] [[]] s4).sums ≤ 1200 := by rw [Mill.steps_sums]; simp only [List.length_cons, List.length_nil]; omega
  generalize Mill.steps [] [[]] s4 = s5 at H hq5
  have HA5 : Hid (RootsAt w w5 f A2 R 0 s5) := Lib.hid ⟨H.out, HD.out.below H.out.b h2, by rw [List.take_zero]; exact hF5, hRS5, by omega⟩
  clear hF4 hRS4 hm5 hv5 hF5 hRS5 H
  go_wp2_with fail
  obtain ⟨n, hN'⟩ : ∃ n, R.length = n := ⟨_, rfl⟩
  rw [hN'] at HRT HRL hc2 hal h40 ⊢
  have HRN := Lib.hid hN'
  clear hN'
  go_loopw [6] (fun v6 wr => ∃ (k : Nat) (st : Mill.St), k ≤ n ∧ v6 = .int .i64 (k : Int) ∧ RootsAt w wr f A2 R k st) (fun v6 _ => n - (intOf v6).toNat)
  case atStart => exact ⟨0, s5, Nat.zero_le _, rfl, HA5.out⟩
  case round =>
    obtain ⟨k, st, hk, rfl, hR⟩ := hrel
    have hq := hR.q
    by_cases hlt : k < n
    · have hkl : k < R.length := by rw [HRN.out]; exact hlt
      obtain ⟨b, off, rfl, hbl, hbn, hrow⟩ := hR.r (fun e => by rw [e] at hkl; exact absurd hkl (Nat.not_lt_zero _))
      have hcell : wr.cell? ⟨b, off + k, none⟩ = some (.string (S (R[k]'hkl))) := hrow k hkl
      have htk : R.take (k + 1) = R.take k ++ [R[k]'hkl] := List.take_succ_eq_append_getElem hkl
      have hAdd := add_any f (w.heap.size + 1) w.heap.size (R.take k) (R[k]'hkl) st wr hR.fr (by omega) (by omega) (by rw [List.length_take]; omega) (fun s hs => HS6.out s (List.mem_of_mem_take hs)) (HS6.out _ (List.getElem_mem hkl)) (by omega) hR.o.m hR.d
      rw [← htk] at hAdd
      have hlk : (R.take (k + 1)).length = k + 1 := by rw [List.length_take]; omega
      have hFR := fun st' W (h : FrontAt W f (w.heap.size + 1) (f + 1) (R.take (k + 1))) (ho : OneK w W st') (hs : st'.sums ≤ 100000) => froot_any f (w.heap.size + 1) w.heap.size (f + 1) (R.take (k + 1)) st' W h hfn hfB (by omega) (fun s hs => HS6.out s (List.mem_of_mem_take hs)) (by omega) ho.m
      have hLR := fun st' W (hr : RowS W [w.heap.size + 1, w.heap.size, f] (some ⟨b, off, none⟩) R) (ho : OneK w W st') (hs : st'.sums ≤ 100000) => mkRoot_any (w.heap.size + 1) w.heap.size none [] rfl (some ⟨b, off, none⟩) (R.take (k + 1)) cap2 st' W (by omega) (by omega) hcm2 ((fun hl => by
        obtain ⟨b', off', hA, hb', hn', hr'⟩ := hr (fun e => hl (by rw [e, List.take_nil]))
        exact ⟨b', off', hA, hb', (fun hx => hn' (by simp only [List.mem_cons, List.not_mem_nil, or_false] at hx ⊢; omega)), hr'.take (k + 1)⟩) : RowS W [w.heap.size + 1, w.heap.size] (some ⟨b, off, none⟩) (R.take (k + 1))) (fun s hs => HS6.out s (List.mem_of_mem_take hs)) (by omega) ho.m
      have hal2 := (Mk.rootAsks_len [] (k + 1) (R.take (k + 1)) hlk).1
      have hSz := fun W (h : FrontAt W f (w.heap.size + 1) (f + 1) (R.take (k + 1))) => (show Calls Tryd.prog 17 #[.pointer (some ⟨f, 0, none⟩)] W fun e w' => e = .returned (.int .i64 ((k : Int) + 1)) ∧ w' = W by
        obtain ⟨v, hv⟩ := h.has
        have := size_any f (w.heap.size + 1) _ v W hv
        rw [hlk] at this
        exact this)
      rw [hlk] at hLR
      unfold FewPost at hFR
      unfold MkPost at hLR
      unfold AddPost at hAdd
      generalize Mk.root [] (R.take (k + 1)) = yk at *
      generalize Mk.rootAsks [] (R.take (k + 1)) = tk at *
      generalize R[k]'hkl = x at *
      have e3 : (yk == yk) = true := by simp
      have HADD := Lib.hid hAdd; clear hAdd
      have HFR := Lib.hid hFR; clear hFR
      have HLR := Lib.hid hLR; clear hLR
      have HSZ := Lib.hid hSz; clear hSz
      have HR := Lib.hid hR; clear hR
      clear htk hlk hrow hbn
      have hkc : k + 1 ≤ cap2 := by omega
      have hki : (k : Int) < (n : Int) := by omega
      go_wp2_with fail
      refine HADD.out.mono ?_
      rintro r w6 ⟨ts6, rfl, hts6, hF6, hm6, hv6⟩
      have hlowx : ∀ x ∈ [w.heap.size + 1, w.heap.size, f], w.heap.size ≤ x := fun x hx => by simp only [List.mem_cons, List.not_mem_nil, or_false] at hx; omega
      have h6 : OneK w w6 (Mill.steps [] ts6 st) := ⟨hm6, hv6.below HR.out.o.b HR.out.o.b.size hlowx⟩
      have hD6 : Deb w6 := HD.out.below h6.b h2
      have hRS6 : RowS w6 [w.heap.size + 1, w.heap.size, f] (some ⟨b, off, none⟩) R := HR.out.r.mv hv6 (fun x hx => hx)
      have hq6 : (Mill.steps [] ts6 st).sums ≤ 3000 + 2100 * k := by rw [Mill.steps_sums]; omega
      generalize Mill.steps [] ts6 st = s6 at *
      have H6 : Hid (OneK w w6 s6 ∧ FrontAt w6 f (w.heap.size + 1) (f + 1) (R.take (k + 1)) ∧ RowS w6 [w.heap.size + 1, w.heap.size, f] (some ⟨b, off, none⟩) R) := Lib.hid ⟨h6, hF6, hRS6⟩
      clear hcell hm6 hv6 HR HADD hF6 hts6 hRS6 hD6 h6
      go_upto_region 10 with (fail)
      refine wp_region_any (by kernel_rfl) ?_
      change wpAny _ _ _ _ _ _ _ (World.drew _)
      have hbd : Below w6.heap.size w6 w6.drew := Below.drew (Below.refl _ _)
      replace H6 : Hid (OneK w w6.drew s6 ∧ FrontAt w6.drew f (w.heap.size + 1) (f + 1) (R.take (k + 1)) ∧ RowS w6.drew [w.heap.size + 1, w.heap.size, f] (some ⟨b, off, none⟩) R) := Lib.hid ⟨H6.out.1.below hbd, H6.out.2.1.below hbd, H6.out.2.2.below hbd⟩
      clear hbd
      generalize w6.drew = w7 at H6 ⊢
      have HWR : Hid (IntKind.i64.wrap ((k : Int) + 1) = (k : Int) + 1) := Lib.hid (by simp [IntKind.wrap, IntKind.bits, IntKind.signed]; omega)
      (refine grab (i := 0) (v := ?_) rfl rfl (by kernel_rfl) (by kernel_rfl) (by kernel_rfl) (fun _ _ _ h => h) (by rfl) ?_ ?_; rotate_left; (focus (intro w; go_simp; first | done | with_reducible rfl)); (simp only [Act.at, List.setIfInBounds_toArray, List.set_cons_zero, List.set_cons_succ]))
      (refine grab (i := 2) (v := ?_) rfl rfl (by kernel_rfl) (by kernel_rfl) (by kernel_rfl) (fun _ _ _ h => h) (by rfl) ?_ ?_; rotate_left; (focus (intro w; go_simp; first | done | with_reducible rfl)); (simp only [Act.at, List.setIfInBounds_toArray, List.set_cons_zero, List.set_cons_succ]))
      (refine grab (i := 3) (v := ?_) rfl rfl (by kernel_rfl) (by kernel_rfl) (by kernel_rfl) (fun _ _ _ h => h) (by rfl) ?_ ?_; rotate_left; (focus (intro w; go_simp; (try simp only [HWR.out, if_true, if_false, Result.andThen_ok]); first | done | with_reducible rfl)); (simp only [Act.at, List.setIfInBounds_toArray, List.set_cons_zero, List.set_cons_succ]))
      refine wpOne (i := 1) (by kernel_rfl) rfl (by rfl) (fun K hK => ?_)
      go_simp
      refine (HSZ.out w7 H6.out.2.1).mono ?_
      rintro e w8 ⟨rfl, rfl⟩
      refine hK _ _ ?_
      clear hK K
      try simp only [Act.put, List.setIfInBounds_toArray, List.set_cons_zero, List.set_cons_succ]
      (refine grab (i := 4) (v := ?_) rfl rfl (by kernel_rfl) (by kernel_rfl) (by kernel_rfl) (fun _ _ _ h => h) (by rfl) ?_ ?_; rotate_left; (focus (intro w; go_simp; first | done | with_reducible rfl)); (simp only [Act.at, List.setIfInBounds_toArray, List.set_cons_zero, List.set_cons_succ]))
      (refine grab (i := 5) (v := ?_) rfl rfl (by kernel_rfl) (by kernel_rfl) (by kernel_rfl) (fun _ _ _ h => h) (by rfl) ?_ ?_; rotate_left; (focus (intro w; go_simp; first | done | with_reducible rfl)); (simp only [Act.at, List.setIfInBounds_toArray, List.set_cons_zero, List.set_cons_succ]))
      (refine grab (i := 6) (v := ?_) rfl rfl (by kernel_rfl) (by kernel_rfl) (by kernel_rfl) (fun _ _ _ h => h) (by rfl) ?_ ?_; rotate_left; (focus (intro w; go_simp; first | done | with_reducible rfl)); (simp only [Act.at, List.setIfInBounds_toArray, List.set_cons_zero, List.set_cons_succ]))
      (refine grab (i := 8) (v := ?_) rfl rfl (by kernel_rfl) (by kernel_rfl) (by kernel_rfl) (fun _ _ _ h => h) (by rfl) ?_ ?_; rotate_left; (focus (intro w; go_simp; first | done | with_reducible rfl)); (simp only [Act.at, List.setIfInBounds_toArray, List.set_cons_zero, List.set_cons_succ]))
      (refine grab (i := 9) (v := ?_) rfl rfl (by kernel_rfl) (by kernel_rfl) (by kernel_rfl) (fun _ _ _ h => h) (by rfl) ?_ ?_; rotate_left; (focus (intro w; go_simp; first | done | with_reducible rfl)); (simp only [Act.at, List.setIfInBounds_toArray, List.set_cons_zero, List.set_cons_succ]))
      (refine grab (i := 10) (v := ?_) rfl rfl (by kernel_rfl) (by kernel_rfl) (by kernel_rfl) (fun _ _ _ h => h) (by rfl) ?_ ?_; rotate_left; (focus (intro w; go_simp; first | done | with_reducible rfl)); (simp only [Act.at, List.setIfInBounds_toArray, List.set_cons_zero, List.set_cons_succ]))
      (refine grab (i := 11) (v := ?_) rfl rfl (by kernel_rfl) (by kernel_rfl) (by kernel_rfl) (fun _ _ _ h => h) (by rfl) ?_ ?_; rotate_left; (focus (intro w; go_simp; (try simp only [HWR.out, if_true, if_false, Result.andThen_ok]); first | done | with_reducible rfl)); (simp only [Act.at, List.setIfInBounds_toArray, List.set_cons_zero, List.set_cons_succ]))
      have hkc2 : (0 : Int) ≤ (k : Int) + 1 ∧ (k : Int) + 1 ≤ (cap2 : Int) := ⟨by omega, by omega⟩
      (refine grab (i := 12) (v := ?_) rfl rfl (by kernel_rfl) (by kernel_rfl) (by kernel_rfl) (fun _ _ _ h => h) (by rfl) ?_ ?_; rotate_left; (focus (intro w; go_simp; (try simp only [hkc2.1, hkc2.2, and_self, if_true, if_false, Result.andThen_ok]); first | done | with_reducible rfl)); (simp only [Act.at, List.setIfInBounds_toArray, List.set_cons_zero, List.set_cons_succ]))
      refine wpOne (i := 7) (by kernel_rfl) rfl (by rfl) (fun K hK => ?_)
      go_simp
      refine (HFR.out _ w8 H6.out.2.1 H6.out.1 (by omega)).mono ?_
      rintro e w9 ⟨ts9, rfl, hts9, hm9, hv9⟩
      have h9 := H6.out.1.step hm9 hv9
      have hF9 := H6.out.2.1.mv hv9 hfn hfB
      have hRS9 := H6.out.2.2.mv hv9 (by intro x hx; simp only [List.mem_cons, List.not_mem_nil, or_false] at hx ⊢; omega)
      have hq9 : (Mill.steps [] ts9 s6).sums ≤ 4001 + 2100 * k := by rw [Mill.steps_sums]; omega
      generalize Mill.steps [] ts9 s6 = s9 at h9 hq9 hm9
      refine hK _ _ ?_
      clear hK K hm9 hv9 H6
      try simp only [Act.put, List.setIfInBounds_toArray, List.set_cons_zero, List.set_cons_succ]
      refine wpOne (i := 13) (by kernel_rfl) rfl (by rfl) (fun K hK => ?_)
      go_simp
      refine (HLR.out _ w9 hRS9 h9 (by omega)).mono ?_
      rintro e wA ⟨rfl, hmA, hvA⟩
      have hA' := h9.step hmA hvA
      have hFA := hF9.mv hvA hfn hfB
      have hRSA := hRS9.mv hvA (by intro x hx; simp only [List.mem_cons, List.not_mem_nil, or_false] at hx ⊢; omega)
      have hqA : (Mill.steps [] tk s9).sums ≤ 4100 + 2100 * k := by rw [Mill.steps_sums]; omega
      generalize Mill.steps [] tk s9 = sA at hA' hqA hmA
      refine hK _ _ ?_
      clear hK K hmA hvA h9 hF9 hRS9
      try simp only [Act.put, List.setIfInBounds_toArray, List.set_cons_zero, List.set_cons_succ]
      (refine grab (i := 14) (v := ?_) rfl rfl (by kernel_rfl) (by kernel_rfl) (by kernel_rfl) (fun _ _ _ h => h) (by rfl) ?_ ?_; rotate_left; (focus (intro w; go_simp; first | done | with_reducible rfl)); (simp only [Act.at, List.setIfInBounds_toArray, List.set_cons_zero, List.set_cons_succ]))
      (refine grab (i := 15) (v := ?_) rfl rfl (by kernel_rfl) (by kernel_rfl) (by kernel_rfl) (fun _ _ _ h => h) (by rfl) ?_ ?_; rotate_left; (focus (intro w; go_simp; first | done | with_reducible rfl)); (simp only [Act.at, List.setIfInBounds_toArray, List.set_cons_zero, List.set_cons_succ]))
      refine wpAny_done (by kernel_rfl) ?_ _
      have HRA : Hid (RootsAt w wA f (some ⟨b, off, none⟩) R (k + 1) sA) := Lib.hid ⟨hA', HD.out.below hA'.b h2, hFA, hRSA, by omega⟩
      clear hA' hFA hRSA
      go_wp2_with fail
      go_roundw
      case rel => exact ⟨k + 1, sA, by omega, by go_num, HRA.out⟩
      case measure => simp [intOf]; omega
    · have hkn : ¬ (k : Int) < (n : Int) := by omega
      have hRS := hR.r
      have H := Lib.hid hR.o
      have hq' : st.sums ≤ 100000 := by omega
      clear hR
      have hRS2 : RowS wr [w.heap.size + 1, w.heap.size] A2 R := fun hl => by
        obtain ⟨b', off', hA, hb', hn', hr'⟩ := hRS hl
        exact ⟨b', off', hA, hb', (fun hx => hn' (by simp only [List.mem_cons, List.not_mem_nil, or_false] at hx ⊢; omega)), hr'⟩
      clear hRS
      go_wp2_with fail
      refine (HRT.out _ _ _ _ hRS2 hc2 hcm2 H.out (by omega)).mono ?_
      rintro r w6 ⟨rfl, hm6, hv6⟩
      replace H := Lib.hid (H.out.step hm6 hv6)
      have hRS6 := hRS2.mv hv6 (fun z hz => hz)
      have hq6 : (Mill.steps [] rts st).sums ≤ 100100 := by rw [Mill.steps_sums]; omega
      generalize Mill.steps [] rts st = s6 at H hq6
      clear hm6 hv6 hRS2
      go_wp2_with fail
      refine (HRL.out _ _ _ _ hRS6 hc2 hcm2 H.out (by omega)).mono ?_
      rintro r w7 ⟨rfl, hm7, hv7⟩
      replace H := Lib.hid (H.out.step hm7 hv7)
      clear hm7 hv7 hRS6
      go_wp2_with fail
      refine (H.out.awake).mono ?_
      rintro r w8 ⟨rfl, hb8⟩
      go_wp2_with fail
      go_ret
      exact ⟨rfl, hb8⟩

set_option maxRecDepth 100000 in
theorem merkleRoots_contract {H : Type} (enc : TypeId × Value → H) (W : World) (base : Nat) (args : Array Value) (ds gs : List (DataW H)) (before : List MemPlace)
    (hval : ∀ (j : Nat) t v, Tryd.f3.params[j]? = some t → args[j]? = some v → Value.okWide Tryd.prog W .any base t v)
    (hW : DataW.Whole enc Tryd.prog Tryd.f3.params.toList Rows.merkleRootsSpec.vars false W args.toList ds gs before)
    (hsz : (DataW.weightsEach Tryd.prog (Tryd.f3.params.toList ++ Rows.merkleRootsSpec.plain.varTypes Tryd.prog) (ds ++ gs)).all (· ≤ reachBytes) = true) (hT : Tabs W ∧ Deb W) :
    Calls Tryd.prog 3 args W fun e W' =>
      ((Rows.merkleRootsSpec.fn H (ds ++ gs)).results = [.lit (.bool true)] ∧ (Rows.merkleRootsSpec.fn H (ds ++ gs)).args = ds ∧ (Rows.merkleRootsSpec.fn H (ds ++ gs)).vars = []) ∧ e = .returned (.bool true) ∧ Below W.heap.size W W' := by
  obtain ⟨p, q, hA0, hV, rfl, hfz, hnd⟩ := hW
  have hA : DataW.TrodAll enc Tryd.prog W 0 (fun _ => true) true Tryd.f3.params.toList args.toList ds p := hA0
  rw [Tryd.params3] at hA hval hsz
  obtain ⟨v0, d0, rfl, rfl, h0⟩ := trodAll_one hA
  obtain ⟨rfl, rfl⟩ := trodVars_none hV
  obtain ⟨A_p, len_p, cap_p, rfl⟩ := okWide_slice Tryd.underlying22 (hval 0 22 v0 rfl rfl)
  obtain ⟨fuel_p, hf_p⟩ := h0
  obtain ⟨l_p, rfl, lc_p, cm_p, hA_p, hB_p⟩ := mktexts_open hf_p (fun n hn => by
    have h := List.all_eq_true.1 hsz n (DataW.weights_mem_each (j := 0) (t := 22) (d := d0) rfl rfl n hn)
    exact Nat.le_trans (by simpa using h) (by decide))
  exact (merkleRoots_any A_p l_p cap_p W hA_p hT.1 hT.2 lc_p cm_p).mono fun e W' h => ⟨⟨rfl, rfl, rfl⟩, h⟩

end Go.Proofs.YtphhaiccpllnpaaDoor
