/-
  The contract of the statements' own tidy: an insertion into an own row.
-/
import Derived.Test.YtfppobnfajkmmaaPapH
import Derived.Test.YtfppobnfajkmmaaTidy
import Derived.Test.YtfppobnfajkmmaaPapD
import Derived.Deep.Cut
import Derived.Deep.DeepCutAuto
import Derived.Deep.CutBlock
namespace Go.Proofs.Ytfppobnfajkmmaa
open Go.RowKit Go.Lib Go.Sort
open Go.Op (bytesLess)
set_option linter.unusedVariables false

section
variable {P : Program} {ops : Array Oper} {Q : Exit → Act → World → Prop} {md : Region.Mode} {S : World → Prop}
theorem wpOneH {i : Nat} {oi : Oper} {fuel : Nat} {listed : Array Bool} {a : Act} {w : World} (hr : Region.ready md ops listed = [i]) (hi : ops[i]? = some oi) (hwi : Region.wanted oi (yielded ops a.tmps) = true)
    (h1 : ∀ K : Act → World → Prop, Shut (∀ a w, S w → (S w → wpAnyH P md ops Q S fuel (listed.setIfInBounds i true) a w) → K a w) → Oper.wp P oi a w K Q) : wpAnyH P md ops Q S (fuel + 1) listed a w :=
  wpAnyH_ready hr (by simp) (AllReadyH.cons hi (fun K hK => by rw [if_pos hwi]; exact h1 K hK) AllReadyH.nil)
theorem wpTwoH {i j : Nat} {oi oj : Oper} {fuel : Nat} {listed : Array Bool} {a : Act} {w : World} (hr : Region.ready md ops listed = [i, j]) (hi : ops[i]? = some oi) (hj : ops[j]? = some oj)
    (hwi : Region.wanted oi (yielded ops a.tmps) = true) (hwj : Region.wanted oj (yielded ops a.tmps) = true)
    (h1 : ∀ K : Act → World → Prop, Shut (∀ a w, S w → (S w → wpAnyH P md ops Q S fuel (listed.setIfInBounds i true) a w) → K a w) → Oper.wp P oi a w K Q)
    (h2 : ∀ K : Act → World → Prop, Shut (∀ a w, S w → (S w → wpAnyH P md ops Q S fuel (listed.setIfInBounds j true) a w) → K a w) → Oper.wp P oj a w K Q) : wpAnyH P md ops Q S (fuel + 1) listed a w :=
  wpAnyH_ready hr (by simp) (AllReadyH.cons hi (fun K hK => by rw [if_pos hwi]; exact h1 K hK) (AllReadyH.cons hj (fun K hK => by rw [if_pos hwj]; exact h2 K hK) AllReadyH.nil))
end

theorem fl_take (T : List Fld) (k : Nat) (h : k ≤ T.length) : fl (T.take k) = (fl T).take (k * 6) := by
  have e : fl T = fl (T.take k) ++ fl (T.drop k) := by rw [← fl_append, List.take_append_drop]
  have hl : (fl (T.take k)).length = k * 6 := by rw [fl_len, List.length_take]; congr 1; omega
  rw [e, ← hl]
  exact (List.take_left' rfl).symm
theorem fl_drop (T : List Fld) (k : Nat) (h : k ≤ T.length) : fl (T.drop k) = (fl T).drop (k * 6) := by
  have e : fl T = fl (T.take k) ++ fl (T.drop k) := by rw [← fl_append, List.take_append_drop]
  have hl : (fl (T.take k)).length = k * 6 := by rw [fl_len, List.length_take]; congr 1; omega
  rw [e, ← hl]
  exact (List.drop_left' rfl).symm

theorem place_unique (f : Fld) (T : List Fld) (k : Nat) (hk : k ≤ T.length) (h1 : ∀ t (ht : t < T.length), k ≤ t → bytesLess f.name T[t].name = true) (h2 : k = 0 ∨ ∃ (h : k - 1 < T.length), bytesLess f.name T[k - 1].name = false) : Stab.place Fld.name f T = k := by
  have hle := Stab.place_le Fld.name f T
  have ha := Stab.place_after Fld.name f T
  have hb := Stab.place_before Fld.name f T
  generalize Stab.place Fld.name f T = p at hle ha hb
  rcases Nat.lt_trichotomy p k with h | h | h
  · rcases h2 with h2 | ⟨h3, h2⟩
    · omega
    · have hm : T[k - 1] ∈ T.drop p := by
        rw [List.mem_iff_getElem]
        exact ⟨k - 1 - p, by simp; omega, by simp only [List.getElem_drop]; congr 1; omega⟩
      rw [ha _ hm] at h2
      cases h2
  · exact h
  · obtain ⟨a, h3, h4⟩ := hb (by omega)
    have hlt : p - 1 < T.length := by omega
    rw [List.getElem?_eq_getElem hlt] at h3
    injection h3 with h3
    have := h1 (p - 1) hlt (by omega)
    rw [h3, h4] at this
    cases this

set_option maxHeartbeats 4000000 in
set_option maxRecDepth 100000 in
theorem ltidy_any (id : List UInt8) (cls : Int) (L : List Fld) (hL : L.length ≤ 100) (b cap : Nat) (A : Option Addr) (w : World) (hF : FSl w b A L) (hok : ∀ x ∈ L, x.ok) :
    Calls Try.prog 9 #[.agg #[.string (S id), .int .i64 cls, .slice A L.length cap]] w (TidyPost w id cls L) := by
  have HF := Lib.hid hF; clear hF
  have HOK := Lib.hid hok; clear hok
  obtain ⟨i0, hi, hz0, hz1, hz2⟩ := info_parts fldInfo
  have HI := Lib.hid (And.intro hi (And.intro hz0 (And.intro hz1 hz2))); clear hi hz0 hz1 hz2
  have hu := up2 (w := w) (.cells #[.string (S id), .int .i64 cls, .slice A L.length cap] 24) (.cells #[.string ⟨#[]⟩, .int .i64 0, .slice none 0 0] 24)
  go_enter Try.func9, Try.ntmps9
  go_wp2_with fail
  have hP := ((Has.made w 24 #[.string (S id), .int .i64 cls, .slice A L.length cap]).of_alloc (.cells #[.string ⟨#[]⟩, .int .i64 0, .slice none 0 0] 24)).of_alloc (.cells #[.string (S id), .int .i64 cls, .slice none 0 0] 24)
  have hR := (has_new w (.cells #[.string (S id), .int .i64 cls, .slice A L.length cap] 24) 24 #[.string ⟨#[]⟩, .int .i64 0, .slice none 0 0]).of_alloc (.cells #[.string (S id), .int .i64 cls, .slice none 0 0] 24)
  have hO := Has.made ((w.alloc (.cells #[.string (S id), .int .i64 cls, .slice A L.length cap] 24)).alloc (.cells #[.string ⟨#[]⟩, .int .i64 0, .slice none 0 0] 24)) 24 #[.string (S id), .int .i64 cls, .slice none 0 0]
  have hb0 := up3 (w := w) (.cells #[.string (S id), .int .i64 cls, .slice A L.length cap] 24) (.cells #[.string ⟨#[]⟩, .int .i64 0, .slice none 0 0] 24) (.cells #[.string (S id), .int .i64 cls, .slice none 0 0] 24)
  have hF0 := HF.out.below hb0 (Nat.le_refl _)
  have hs0 : (((w.alloc (.cells #[.string (S id), .int .i64 cls, .slice A L.length cap] 24)).alloc (.cells #[.string ⟨#[]⟩, .int .i64 0, .slice none 0 0] 24)).alloc (.cells #[.string (S id), .int .i64 cls, .slice none 0 0] 24)).heap.size = w.heap.size + 3 := by simp
  rw [show ((w.alloc (.cells #[.string (S id), .int .i64 cls, .slice A L.length cap] 24)).alloc (.cells #[.string ⟨#[]⟩, .int .i64 0, .slice none 0 0] 24)).heap.size = w.heap.size + 1 + 1 by simp] at hO
  clear hu
  generalize (((w.alloc (.cells #[.string (S id), .int .i64 cls, .slice A L.length cap] 24)).alloc (.cells #[.string ⟨#[]⟩, .int .i64 0, .slice none 0 0] 24)).alloc (.cells #[.string (S id), .int .i64 cls, .slice none 0 0] 24)) = W0 at hP hR hO hb0 hF0 hs0 ⊢
  have HK : Hid (∀ W : World, Below (w.heap.size + 2) W0 W → Has W w.heap.size 24 #[.string (S id), .int .i64 cls, .slice A L.length cap] ∧ Has W (w.heap.size + 1) 24 #[.string ⟨#[]⟩, .int .i64 0, .slice none 0 0] ∧ FSl W b A L ∧ Below w.heap.size w W) := fun W hW =>
    have hb := hb0.trans (hW.mono (by omega))
    ⟨hP.below hW (by omega), hR.below hW (by omega), HF.out.below hb (Nat.le_refl _), hb⟩
  clear hP hR hF0 hb0
  have hs3 : w.heap.size + 3 ≤ W0.heap.size := by omega
  clear hs0
  go_wp2_with fail
  go_loopg [4] L.length (fun g1 v4 wr => ∃ (k : Nat) (v : Value) (T : List Fld), k ≤ L.length ∧ v4 = .int .i64 (k : Int) ∧ L.length - k ≤ g1 ∧ T.length = k ∧ Hid (T = fsort ((L.take k).map Fld.clean)) ∧ wr.ownsRow (w.heap.size + 3) 40 6 v k (fl T) ∧
      Has wr (w.heap.size + 1 + 1) 24 #[.string (S id), .int .i64 cls, v] ∧ Below (w.heap.size + 2) W0 wr ∧ w.heap.size + 3 ≤ wr.heap.size)
  case atStart => exact ⟨0, .slice none 0 0, [], Nat.zero_le _, rfl, by omega, rfl, (by show _ = _; rfl), World.ownsRow_nil _ _ _ _, hO, Below.refl _ _, hs3⟩
  case round =>
    obtain ⟨k, v, T, hk, rfl, hg, hTk, HT, hown, hOk, hbk, hsk⟩ := hrel
    obtain ⟨hPk, hRk, hFk, hbw⟩ := HK.out _ hbk
    have c2 := hPk.cell 2
    by_cases hlt : k < L.length
    · have hki : (k : Int) < (L.length : Int) := by omega
      have hki0 : (0 : Int) ≤ (k : Int) := by omega
      obtain ⟨off, hA, hbl, hfat⟩ := hFk (by intro hc; rw [hc] at hlt; cases hlt)
      subst hA
      have hfk := hfat k hlt
      clear hfat
      have hOkx := HOK.out L[k] (List.getElem_mem hlt)
      have hstep : (L.take (k + 1)).map Fld.clean = (L.take k).map Fld.clean ++ [L[k].clean] := by rw [List.take_succ_eq_append_getElem hlt, List.map_append]; rfl
      generalize L[k] = x at hfk hOkx hstep
      obtain ⟨n, x⟩ := x
      have hC := fun W => clean_any x hOkx W
      have hcl : Fld.clean ⟨n, x⟩ = ⟨n, x.clean⟩ := rfl
      rw [hcl] at hstep
      clear hcl
      obtain ⟨vk, vf, vi, vb, vt⟩ := x
      rw [Val.v_eq] at hC
      generalize Val.clean ⟨vk, vf, vi, vb, vt⟩ = y at hC hstep
      obtain ⟨yk, yf, yi, yb, yt⟩ := y
      rw [Val.v_eq] at hC
      have HCL := Lib.hid hC; clear hC
      have HST := Lib.hid hstep; clear hstep hOkx
      have hx0 : ELies w.heap.size b (off + k * 6) (some ⟨b, off, none⟩) L.length cap n vk vf vi vb vt wr.drew := ⟨c2, hfk.1, hfk.2.1, hfk.2.2.1, hfk.2.2.2.1, hfk.2.2.2.2.1, hfk.2.2.2.2.2⟩
      have HW := Lib.hid (And.intro hown.drew (And.intro (show Has wr.drew _ _ _ from hOk) (And.intro hbk.drew (And.intro (show w.heap.size + 3 ≤ wr.drew.heap.size from hsk) hbw.drew))))
      have HKP : Hid (∀ W, Below wr.drew.heap.size wr.drew W → ELies w.heap.size b (off + k * 6) (some ⟨b, off, none⟩) L.length cap n vk vf vi vb vt W) := fun W hW =>
        have hb1 : b < wr.drew.heap.size := hbl
        ⟨(hW.cell (p := ⟨w.heap.size, 2, none⟩) (by show w.heap.size < wr.heap.size; omega)).trans hx0.1, (hW.cell (p := ⟨b, off + k * 6, none⟩) hb1).trans hx0.2.1, (hW.cell (p := ⟨b, off + k * 6 + 1, none⟩) hb1).trans hx0.2.2.1, (hW.cell (p := ⟨b, off + k * 6 + 2, none⟩) hb1).trans hx0.2.2.2.1, (hW.cell (p := ⟨b, off + k * 6 + 3, none⟩) hb1).trans hx0.2.2.2.2.1, (hW.cell (p := ⟨b, off + k * 6 + 4, none⟩) hb1).trans hx0.2.2.2.2.2.1, (hW.cell (p := ⟨b, off + k * 6 + 5, none⟩) hb1).trans hx0.2.2.2.2.2.2⟩
      clear hPk hRk hFk hbw hfk hown hOk hbk
      go_upto_region 5 with (fail)
      clear c2
      go_cut [5] from 20 to 33 (fun v5 W => ∃ gf, v5 = .pointer (some ⟨gf, 0, none⟩) ∧ Has W gf 40 (fcs n yk yf yi yb yt) ∧ Below wr.drew.heap.size wr.drew W ∧ wr.heap.size ≤ gf)
      case first =>
        have hx := hx0
        clear hx0
        have hbr : Below wr.drew.heap.size wr.drew wr.drew := Below.refl _ _
        have HBR := Lib.hid hbr; clear hbr
        refine wp_region_held_drew (S := ELies w.heap.size b (off + k * 6) (some ⟨b, off, none⟩) L.length cap n vk vf vi vb vt) (by kernel_rfl) hx (fun hHeld => ?_)
        first
        | (refine take_wanted (i := 0) (v := ?_) rfl rfl (by kernel_rfl) (by kernel_rfl) (by kernel_rfl) (fun _ _ _ h => h) (by rfl) (by assumption) ?_ ?_; rotate_left; (focus (intro w hSw; (try dsimp only at hSw); go_simp; first | done | with_reducible rfl)); (simp only [Act.at, List.setIfInBounds_toArray, List.set_cons_zero, List.set_cons_succ]))
        | (refine take_unwanted (i := 0) rfl rfl (by kernel_rfl) (by kernel_rfl) (by kernel_rfl) (fun _ _ _ h => h) (by rfl) (by assumption) ?_; (simp only [Act.at, List.setIfInBounds_toArray, List.set_cons_zero, List.set_cons_succ]))
        first
        | (refine take_wanted (i := 1) (v := ?_) rfl rfl (by kernel_rfl) (by kernel_rfl) (by kernel_rfl) (fun _ _ _ h => h) (by rfl) (by assumption) ?_ ?_; rotate_left; (focus (intro w hSw; (try dsimp only at hSw); go_simp; first | done | with_reducible rfl)); (simp only [Act.at, List.setIfInBounds_toArray, List.set_cons_zero, List.set_cons_succ]))
        | (refine take_unwanted (i := 1) rfl rfl (by kernel_rfl) (by kernel_rfl) (by kernel_rfl) (fun _ _ _ h => h) (by rfl) (by assumption) ?_; (simp only [Act.at, List.setIfInBounds_toArray, List.set_cons_zero, List.set_cons_succ]))
        first
        | (refine take_wanted (i := 2) (v := ?_) rfl rfl (by kernel_rfl) (by kernel_rfl) (by kernel_rfl) (fun _ _ _ h => h) (by rfl) (by assumption) ?_ ?_; rotate_left; (focus (intro w hSw; (try dsimp only at hSw); go_simp; first | done | with_reducible rfl)); (simp only [Act.at, List.setIfInBounds_toArray, List.set_cons_zero, List.set_cons_succ]))
        | (refine take_unwanted (i := 2) rfl rfl (by kernel_rfl) (by kernel_rfl) (by kernel_rfl) (fun _ _ _ h => h) (by rfl) (by assumption) ?_; (simp only [Act.at, List.setIfInBounds_toArray, List.set_cons_zero, List.set_cons_succ]))
        first
        | (refine take_wanted (i := 3) (v := ?_) rfl rfl (by kernel_rfl) (by kernel_rfl) (by kernel_rfl) (fun _ _ _ h => h) (by rfl) (by assumption) ?_ ?_; rotate_left; (focus (intro w hSw; (try dsimp only at hSw); go_simp; first | done | with_reducible rfl)); (simp only [Act.at, List.setIfInBounds_toArray, List.set_cons_zero, List.set_cons_succ]))
        | (refine take_unwanted (i := 3) rfl rfl (by kernel_rfl) (by kernel_rfl) (by kernel_rfl) (fun _ _ _ h => h) (by rfl) (by assumption) ?_; (simp only [Act.at, List.setIfInBounds_toArray, List.set_cons_zero, List.set_cons_succ]))
        first
        | (refine take_wanted (i := 4) (v := ?_) rfl rfl (by kernel_rfl) (by kernel_rfl) (by kernel_rfl) (fun _ _ _ h => h) (by rfl) (by assumption) ?_ ?_; rotate_left; (focus (intro w hSw; (try dsimp only at hSw); go_simp; first | done | with_reducible rfl)); (simp only [Act.at, List.setIfInBounds_toArray, List.set_cons_zero, List.set_cons_succ]))
        | (refine take_unwanted (i := 4) rfl rfl (by kernel_rfl) (by kernel_rfl) (by kernel_rfl) (fun _ _ _ h => h) (by rfl) (by assumption) ?_; (simp only [Act.at, List.setIfInBounds_toArray, List.set_cons_zero, List.set_cons_succ]))
        first
        | (refine take_wanted (i := 5) (v := ?_) rfl rfl (by kernel_rfl) (by kernel_rfl) (by kernel_rfl) (fun _ _ _ h => h) (by rfl) (by assumption) ?_ ?_; rotate_left; (focus (intro w hSw; (try dsimp only at hSw); go_simp; first | done | with_reducible rfl)); (simp only [Act.at, List.setIfInBounds_toArray, List.set_cons_zero, List.set_cons_succ]))
        | (refine take_unwanted (i := 5) rfl rfl (by kernel_rfl) (by kernel_rfl) (by kernel_rfl) (fun _ _ _ h => h) (by rfl) (by assumption) ?_; (simp only [Act.at, List.setIfInBounds_toArray, List.set_cons_zero, List.set_cons_succ]))
        first
        | (refine take_wanted (i := 6) (v := ?_) rfl rfl (by kernel_rfl) (by kernel_rfl) (by kernel_rfl) (fun _ _ _ h => h) (by rfl) (by assumption) ?_ ?_; rotate_left; (focus (intro w hSw; (try dsimp only at hSw); go_simp; first | done | with_reducible rfl)); (simp only [Act.at, List.setIfInBounds_toArray, List.set_cons_zero, List.set_cons_succ]))
        | (refine take_unwanted (i := 6) rfl rfl (by kernel_rfl) (by kernel_rfl) (by kernel_rfl) (fun _ _ _ h => h) (by rfl) (by assumption) ?_; (simp only [Act.at, List.setIfInBounds_toArray, List.set_cons_zero, List.set_cons_succ]))
        first
        | (refine take_wanted (i := 7) (v := ?_) rfl rfl (by kernel_rfl) (by kernel_rfl) (by kernel_rfl) (fun _ _ _ h => h) (by rfl) (by assumption) ?_ ?_; rotate_left; (focus (intro w hSw; (try dsimp only at hSw); go_simp; first | done | with_reducible rfl)); (simp only [Act.at, List.setIfInBounds_toArray, List.set_cons_zero, List.set_cons_succ]))
        | (refine take_unwanted (i := 7) rfl rfl (by kernel_rfl) (by kernel_rfl) (by kernel_rfl) (fun _ _ _ h => h) (by rfl) (by assumption) ?_; (simp only [Act.at, List.setIfInBounds_toArray, List.set_cons_zero, List.set_cons_succ]))
        first
        | (refine take_wanted (i := 8) (v := ?_) rfl rfl (by kernel_rfl) (by kernel_rfl) (by kernel_rfl) (fun _ _ _ h => h) (by rfl) (by assumption) ?_ ?_; rotate_left; (focus (intro w hSw; (try dsimp only at hSw); go_simp; first | done | with_reducible rfl)); (simp only [Act.at, List.setIfInBounds_toArray, List.set_cons_zero, List.set_cons_succ]))
        | (refine take_unwanted (i := 8) rfl rfl (by kernel_rfl) (by kernel_rfl) (by kernel_rfl) (fun _ _ _ h => h) (by rfl) (by assumption) ?_; (simp only [Act.at, List.setIfInBounds_toArray, List.set_cons_zero, List.set_cons_succ]))
        first
        | (refine take_wanted (i := 9) (v := ?_) rfl rfl (by kernel_rfl) (by kernel_rfl) (by kernel_rfl) (fun _ _ _ h => h) (by rfl) (by assumption) ?_ ?_; rotate_left; (focus (intro w hSw; (try dsimp only at hSw); go_simp; first | done | with_reducible rfl)); (simp only [Act.at, List.setIfInBounds_toArray, List.set_cons_zero, List.set_cons_succ]))
        | (refine take_unwanted (i := 9) rfl rfl (by kernel_rfl) (by kernel_rfl) (by kernel_rfl) (fun _ _ _ h => h) (by rfl) (by assumption) ?_; (simp only [Act.at, List.setIfInBounds_toArray, List.set_cons_zero, List.set_cons_succ]))
        first
        | (refine take_wanted (i := 10) (v := ?_) rfl rfl (by kernel_rfl) (by kernel_rfl) (by kernel_rfl) (fun _ _ _ h => h) (by rfl) (by assumption) ?_ ?_; rotate_left; (focus (intro w hSw; (try dsimp only at hSw); go_simp; first | done | with_reducible rfl)); (simp only [Act.at, List.setIfInBounds_toArray, List.set_cons_zero, List.set_cons_succ]))
        | (refine take_unwanted (i := 10) rfl rfl (by kernel_rfl) (by kernel_rfl) (by kernel_rfl) (fun _ _ _ h => h) (by rfl) (by assumption) ?_; (simp only [Act.at, List.setIfInBounds_toArray, List.set_cons_zero, List.set_cons_succ]))
        first
        | (refine take_wanted (i := 11) (v := ?_) rfl rfl (by kernel_rfl) (by kernel_rfl) (by kernel_rfl) (fun _ _ _ h => h) (by rfl) (by assumption) ?_ ?_; rotate_left; (focus (intro w hSw; (try dsimp only at hSw); go_simp; first | done | with_reducible rfl)); (simp only [Act.at, List.setIfInBounds_toArray, List.set_cons_zero, List.set_cons_succ]))
        | (refine take_unwanted (i := 11) rfl rfl (by kernel_rfl) (by kernel_rfl) (by kernel_rfl) (fun _ _ _ h => h) (by rfl) (by assumption) ?_; (simp only [Act.at, List.setIfInBounds_toArray, List.set_cons_zero, List.set_cons_succ]))
        refine wpTwoH (i := 12) (j := 14) (by kernel_rfl) rfl rfl (by rfl) (by rfl) (fun K hK => ?s1) (fun K hK => ?s2)
        case' s1 =>
          go_simp
          refine (HCL.out _).mono ?_
          rintro r w1 ⟨rfl, hb1⟩
          replace HBR := Lib.hid (HBR.out.trans (hb1.mono HBR.out.size))
          clear hx
          have hx := HKP.out _ HBR.out
          clear hb1
          refine hK.out _ _ hx (fun hHeld => ?_)
          clear hK K
          try simp only [Act.put, List.setIfInBounds_toArray, List.set_cons_zero, List.set_cons_succ]
          first
          | (refine take_wanted (i := 13) (v := ?_) rfl rfl (by kernel_rfl) (by kernel_rfl) (by kernel_rfl) (fun _ _ _ h => h) (by rfl) (by assumption) ?_ ?_; rotate_left; (focus (intro w hSw; (try dsimp only at hSw); go_simp; first | done | with_reducible rfl)); (simp only [Act.at, List.setIfInBounds_toArray, List.set_cons_zero, List.set_cons_succ]))
          | (refine take_unwanted (i := 13) rfl rfl (by kernel_rfl) (by kernel_rfl) (by kernel_rfl) (fun _ _ _ h => h) (by rfl) (by assumption) ?_; (simp only [Act.at, List.setIfInBounds_toArray, List.set_cons_zero, List.set_cons_succ]))
          refine take_call (i := 14) (by kernel_rfl) rfl rfl (by rfl) (fun K hK => ?_)
          go_simp
          have hf : Has (w1.alloc (.cells (fcs [] 0 false 0 0 []) 40)) w1.heap.size 40 (fcs [] 0 false 0 0 []) := Has.made w1 _ _
          have hbf := HBR.out.trans ((up1 (w := w1) (.cells (fcs [] 0 false 0 0 []) 40)).mono HBR.out.size)
          have hgf : wr.heap.size ≤ w1.heap.size := HBR.out.size
          clear hx
          have hx := HKP.out _ hbf
          clear HBR
          generalize hW2 : w1.alloc (.cells (fcs [] 0 false 0 0 []) 40) = W2 at hf hbf hx
          rw [show (w1.alloc (.cells #[.string ⟨#[]⟩, .int .i64 0, .bool false, .int .i64 0, .int .u64 0, .string ⟨#[]⟩] 40)) = W2 from hW2]
          clear hW2
          generalize w1.heap.size = gf at hf hgf ⊢
          refine hK.out _ _ hx (fun hHeld => ?_)
          clear hK K
          try simp only [Act.put, List.setIfInBounds_toArray, List.set_cons_zero, List.set_cons_succ]
        case' s2 =>
          go_simp
          have hf : Has (wr.alloc (.cells (fcs [] 0 false 0 0 []) 40)).drew wr.heap.size 40 (fcs [] 0 false 0 0 []) := Has.made wr _ _
          have hbf : Below wr.drew.heap.size wr.drew (wr.alloc (.cells (fcs [] 0 false 0 0 []) 40)).drew := ⟨rfl, rfl, rfl, ((up1 (w := wr) (.cells (fcs [] 0 false 0 0 []) 40)).drew).size, ((up1 (w := wr) (.cells (fcs [] 0 false 0 0 []) 40)).drew).block⟩
          obtain ⟨gf, hge⟩ : ∃ g, g = wr.heap.size := ⟨_, rfl⟩
          clear hx HBR
          have hx := HKP.out _ hbf
          generalize hWa : (wr.alloc (.cells (fcs [] 0 false 0 0 []) 40)).drew = Wa at hf hbf hx
          rw [show ((wr.alloc (.cells #[.string ⟨#[]⟩, .int .i64 0, .bool false, .int .i64 0, .int .u64 0, .string ⟨#[]⟩] 40)).drew) = Wa from hWa]
          clear hWa
          rw [← hge] at hf ⊢
          have hgf : wr.heap.size ≤ gf := by omega
          clear hge
          refine hK.out _ _ hx (fun hHeld => ?_)
          clear hK K
          try simp only [Act.put, List.setIfInBounds_toArray, List.set_cons_zero, List.set_cons_succ]
          refine take_call (i := 12) (by kernel_rfl) rfl rfl (by rfl) (fun K hK => ?_)
          go_simp
          refine (HCL.out _).mono ?_
          rintro r W2 ⟨rfl, hb1⟩
          replace hf := hf.below hb1 hf.lt
          replace hbf := hbf.trans (hb1.mono hbf.size)
          clear hx hb1
          have hx := HKP.out _ hbf
          refine hK.out _ _ hx (fun hHeld => ?_)
          clear hK K
          try simp only [Act.put, List.setIfInBounds_toArray, List.set_cons_zero, List.set_cons_succ]
          first
          | (refine take_wanted (i := 13) (v := ?_) rfl rfl (by kernel_rfl) (by kernel_rfl) (by kernel_rfl) (fun _ _ _ h => h) (by rfl) (by assumption) ?_ ?_; rotate_left; (focus (intro w hSw; (try dsimp only at hSw); go_simp; first | done | with_reducible rfl)); (simp only [Act.at, List.setIfInBounds_toArray, List.set_cons_zero, List.set_cons_succ]))
          | (refine take_unwanted (i := 13) rfl rfl (by kernel_rfl) (by kernel_rfl) (by kernel_rfl) (fun _ _ _ h => h) (by rfl) (by assumption) ?_; (simp only [Act.at, List.setIfInBounds_toArray, List.set_cons_zero, List.set_cons_succ]))
        all_goals
          obtain ⟨e0, e1, e2, e3, e4, e5⟩ := flies hf
          have f0 := hf.free 0; have f1 := hf.free 1; have f2 := hf.free 2; have f3 := hf.free 3; have f4 := hf.free 4; have f5 := hf.free 5
          have hoB := fstored_only W2 gf (.string (S n)) (.int .i64 yk) (.bool yf) (.int .i64 yi) (.int .u64 (yb : Int)) (.string (S yt))
          have hfn := hf.fstored (n' := n) (k' := yk) (f' := yf) (i' := yi) (b' := yb) (t' := yt)
          have hbn := hoB.below hbf (by have := hbf.size; exact this) hgf
          clear hx
          have hx := HKP.out _ hbn
          have HFN := Lib.hid (And.intro hfn (And.intro hbn hgf))
          clear hfn hbn hoB hf hbf
          refine wpOneH (i := 15) (by kernel_rfl) rfl (by rfl) (fun K hK => ?_)
          go_simp
          refine hK.out _ _ hx (fun hHeld => ?_)
          clear hK K
          try simp only [Act.put, List.setIfInBounds_toArray, List.set_cons_zero, List.set_cons_succ]
          refine wpAnyH_done (by kernel_rfl) ?_ _
          clear hx hHeld e0 e1 e2 e3 e4 e5 f0 f1 f2 f3 f4 f5
          generalize ((((((W2.setCell ⟨gf, 0, none⟩ (.string (S n))).setCell ⟨gf, 1, none⟩ (.int .i64 yk)).setCell ⟨gf, 2, none⟩ (.bool yf)).setCell ⟨gf, 3, none⟩ (.int .i64 yi)).setCell ⟨gf, 4, none⟩ (.int .u64 (yb : Int))).setCell ⟨gf, 5, none⟩ (.string (S yt))) = W3 at HFN ⊢
          go_wp2_with fail
          go_meet
          exact ⟨gf, rfl, HFN.out.1, HFN.out.2.1, HFN.out.2.2⟩
      case rest =>
        obtain ⟨gf, rfl, hfn, hbn, hgf⟩ := hcut
        have hown3 := own_keep HW.out.1 (fun q hq => hbn.block q (HW.out.1.lt q hq).2)
        have hO3 := HW.out.2.1.below hbn HW.out.2.1.lt
        have hb3 := HW.out.2.2.1.trans (hbn.mono (by have := HW.out.2.2.2.1; omega))
        have hs3' : w.heap.size + 3 ≤ wc.heap.size := by have := hbn.size; have := HW.out.2.2.2.1; omega
        have hgfl := hfn.lt
        have hgf3 : w.heap.size + 3 ≤ gf := by omega
        have hvl : ∀ q, v.ownBlock = some q → q < gf := fun q hq => Nat.lt_of_lt_of_le (HW.out.1.lt q hq).2 hgf
        clear HKP HW hbn hgf
        have c2 := hO3.cell 2
        have hgo : w.heap.size + 1 + 1 < wc.heap.size := by omega
        have d0 := (flies hfn).1
        rcases own_fields hown3 hTk.symm with ⟨rfl, rfl⟩ | ⟨g, cp, rfl, hgB, hgl, hH⟩
        · have hk00 : k = 0 := hTk.symm
          subst hk00
          clear hTk hvl hown3
          have HTK0 : Hid True := trivial
          go_upto_block 2 with (fail)
          go_cut [6] from 37 to 52 (fun v6 W => ∃ q : Nat, v6 = .int .i64 0 ∧ W = wc.drewN q)
          case first =>
            go_wp2_with fail
            go_loopg [6] 0 (fun g2 v6 wr' => ∃ q : Nat, v6 = .int .i64 0 ∧ wr' = wc.drewN q)
            case atStart => exact ⟨0, rfl, rfl⟩
            case round =>
              obtain ⟨q, rfl, rfl⟩ := hrel
              go_wp2_with fail
              go_quiet (fail)
              go_wp2_with fail
              go_meet
              exact ⟨q + nq, rfl, by first | rfl | rw [World.drewN_drewN]⟩
          case rest =>
            obtain ⟨q, rfl, rfl⟩ := hcut
            have hOq : Has (wc.drewN q) (w.heap.size + 1 + 1) 24 #[.string (S id), .int .i64 cls, .slice none 0 0] := hO3
            have hfq : Has (wc.drewN q) gf 40 (fcs n yk yf yi yb yt) := hfn
            have hbq : Below (w.heap.size + 2) W0 (wc.drewN q) := below_drewN hb3 _
            have hsq : w.heap.size + 3 ≤ (wc.drewN q).heap.size := hs3'
            have hgfq : gf < (wc.drewN q).heap.size := hgfl
            clear hO3 hfn hb3 hs3' hgfl hgo c2 d0
            generalize wc.drewN q = Wq at *
            have c2 := hOq.cell 2
            have hgo : w.heap.size + 1 + 1 < Wq.heap.size := by omega
            have HQ := Lib.hid (And.intro (hOq.of_alloc (.cells #[] 40)) (And.intro (hfq.of_alloc (.cells #[] 40)) (And.intro (hbq.trans ((up1 (w := Wq) (.cells #[] 40)).mono (by omega))) (show w.heap.size + 3 ≤ (Wq.alloc (.cells #[] 40)).heap.size by simp; omega))))
            go_upto_region 9 with (fail)
            go_cut [7] from 53 to 58 (fun v7 W => v7 = .slice (some ⟨Wq.heap.size, 0, none⟩) 0 0 ∧ W = Wq.alloc (.cells #[] 40))
            case first =>
              go_wp2_with fail
              go_meet
              exact ⟨rfl, rfl⟩
            case rest =>
              obtain ⟨rfl, rfl⟩ := hcut
              obtain ⟨hOr, hfr, hbr, hsr⟩ := HQ.out
              clear hOq hfq hbq hsq c2 HQ
              have hgow : w.heap.size + 1 + 1 < (Wq.alloc (.cells #[] 40)).heap.size := by omega
              have hgfr := hfr.lt
              generalize (Wq.alloc (.cells #[] 40)) = wc at *
              have HA := Lib.hid (And.intro hOr (And.intro hfr hbr))
              go_upto_region 10 with (fail)
              go_cut [] from 59 to 66 (fun W => ∃ g8 cp8, Has W (w.heap.size + 1 + 1) 24 #[.string (S id), .int .i64 cls, .slice (some ⟨g8, 0, none⟩) 1 cp8] ∧ W.ownsRow (w.heap.size + 3) 40 6 (.slice (some ⟨g8, 0, none⟩) 1 cp8) 1 (fl [⟨n, ⟨yk, yf, yi, yb, yt⟩⟩]) ∧ Below (w.heap.size + 2) W0 W ∧ w.heap.size + 3 ≤ W.heap.size)
              case first =>
                have c2 : wc.drew.cell? ⟨w.heap.size + 1 + 1, 2, none⟩ = some (.slice none 0 0) := hOr.cell 2
                have c2w : wc.cell? ⟨w.heap.size + 1 + 1, 2, none⟩ = some (.slice none 0 0) := hOr.cell 2
                obtain ⟨e0, e1, e2, e3, e4, e5⟩ := flies (show Has wc.drew gf 40 (fcs n yk yf yi yb yt) from hfr)
                clear hOr hfr hbr
                refine wp_region_any (by kernel_rfl) ?_
                change wpAny _ _ _ _ _ _ _ (World.drew _)
                (refine grab (i := 0) (v := ?_) rfl rfl (by kernel_rfl) (by kernel_rfl) (by kernel_rfl) (fun _ _ _ h => h) (by rfl) ?_ ?_; rotate_left; (focus (intro w; go_simp; first | done | with_reducible rfl)); (simp only [Act.at, List.setIfInBounds_toArray, List.set_cons_zero, List.set_cons_succ]))
                (refine grab (i := 2) (v := ?_) rfl rfl (by kernel_rfl) (by kernel_rfl) (by kernel_rfl) (fun _ _ _ h => h) (by rfl) ?_ ?_; rotate_left; (focus (intro w; go_simp; first | done | with_reducible rfl)); (simp only [Act.at, List.setIfInBounds_toArray, List.set_cons_zero, List.set_cons_succ]))
                refine wpTwo (i := 1) (j := 4) (by kernel_rfl) rfl rfl (by rfl) (by rfl) (fun K hK => ?_) (fun K hK => ?_)
                · go_simp
                  refine hK _ _ ?_
                  clear hK K
                  try simp only [Act.put, List.setIfInBounds_toArray, List.set_cons_zero, List.set_cons_succ]
                  (refine grab (i := 3) (v := ?_) rfl rfl (by kernel_rfl) (by kernel_rfl) (by kernel_rfl) (fun _ _ _ h => h) (by rfl) ?_ ?_; rotate_left; (focus (intro w; go_simp; first | done | with_reducible rfl)); (simp only [Act.at, List.setIfInBounds_toArray, List.set_cons_zero, List.set_cons_succ]))
                  refine wpOne (i := 4) (by kernel_rfl) rfl (by rfl) (fun K hK => ?_)
                  go_simp
                  refine hK _ _ ?_
                  clear hK K
                  try simp only [Act.put, List.setIfInBounds_toArray, List.set_cons_zero, List.set_cons_succ]
                  refine wpOne (i := 5) (by kernel_rfl) rfl (by rfl) (fun K hK => ?_)
                  go_simp
                  refine hK _ _ ?_
                  clear hK K
                  try simp only [Act.put, List.setIfInBounds_toArray, List.set_cons_zero, List.set_cons_succ]
                  have hu := up1 (w := wc.drew) (.cells (fcs n yk yf yi yb yt) 40)
                  have hC6 := (show Has wc.drew (w.heap.size + 1 + 1) 24 #[.string (S id), .int .i64 cls, .slice none 0 0] from HA.out.1).of_alloc (.cells (fcs n yk yf yi yb yt) 40)
                  have hD6 := (HA.out.2.2.drew).trans (hu.mono (show w.heap.size + 2 ≤ wc.heap.size by omega))
                  have hM6 : ∀ (j : Nat) (u : Value), (Fld.cs ⟨n, ⟨yk, yf, yi, yb, yt⟩⟩)[j]? = some u → (wc.drew.alloc (.cells (fcs n yk yf yi yb yt) 40)).cell? ((⟨wc.heap.size, 0, none⟩ : Addr).add j) = some u := fun j u hu => by
                    have e : (⟨wc.heap.size, 0, none⟩ : Addr).add j = ⟨wc.heap.size, j, none⟩ := by rw [Addr.add_mid, Nat.zero_add]
                    rw [e]
                    have h := (Has.made wc.drew 40 (fcs n yk yf yi yb yt)).cell j
                    rw [show (wc.drew.heap.size) = wc.heap.size from rfl] at h
                    rw [h]
                    simpa [Fld.cs] using hu
                  have hs6 : w.heap.size + 3 ≤ (wc.drew.alloc (.cells (fcs n yk yf yi yb yt) 40)).heap.size := Nat.le_trans (show w.heap.size + 3 ≤ wc.drew.heap.size from hsr) hu.size
                  refine wpOne (i := 6) (by kernel_rfl) rfl (by rfl) (fun K hK => ?_)
                  refine wp_append_own _ (.tmp 62) (.tmp 64) 22 rfl (w.heap.size + 3) 40 i0 (.agg #[.string ⟨#[]⟩, .int .i64 0, .bool false, .int .i64 0, .int .u64 0, .string ⟨#[]⟩]) 6 64 Try.underlying22 HI.out.1 HI.out.2.1 HI.out.2.2.1 HI.out.2.2.2 rfl (by decide) (.slice none 0 0) 0 [] rfl (World.ownsRow_nil _ _ _ _) ⟨wc.heap.size, 0, none⟩ 1 1 (Fld.cs ⟨n, ⟨yk, yf, yi, yb, yt⟩⟩) rfl rfl hM6 (Fld.cs_one _) (by decide) (by decide) hs6 ?_
                  intro v8 w8 hown8' hg8 hnil8
                  refine hK _ _ ?_
                  clear hK K
                  try simp only [Act.put, List.setIfInBounds_toArray, List.set_cons_zero, List.set_cons_succ]
                  have hgb : ∀ q, (Value.slice none 0 0).ownBlock = some q → False := fun q hq => by cases hq
                  have hC8 : Has w8 (w.heap.size + 1 + 1) 24 #[.string (S id), .int .i64 cls, .slice none 0 0] := (hg8.block _ hC6.lt (fun e => hgb _ e.symm)).trans hC6
                  have hD8 : Below (w.heap.size + 2) W0 w8 := hD6.grown hg8 (by omega) (fun q hq => absurd hq (fun h => hgb q h))
                  have hs8 : w.heap.size + 3 ≤ w8.heap.size := Nat.le_trans hs6 hg8.size
                  have hown8 : w8.ownsRow (w.heap.size + 3) 40 6 v8 1 (fl [⟨n, ⟨yk, yf, yi, yb, yt⟩⟩]) := hown8'
                  obtain ⟨g8, cp8, rfl⟩ : ∃ g8 cp8, v8 = .slice (some ⟨g8, 0, none⟩) 1 cp8 := hown8.2.elim (fun h => absurd h.2 (by decide)) (fun ⟨g8, cp8, cur, h8, _⟩ => ⟨g8, cp8, h8⟩)
                  clear hown8' hg8 hnil8 hC6 hD6 hM6 hs6 hgb
                  have d2 := hC8.cell 2
                  have f2 := hC8.free 2
                  have hC9 : Has (w8.setCell ⟨w.heap.size + 1 + 1, 2, none⟩ (.slice (some ⟨g8, 0, none⟩) 1 cp8)) (w.heap.size + 1 + 1) 24 #[.string (S id), .int .i64 cls, (.slice (some ⟨g8, 0, none⟩) 1 cp8)] := by simpa using hC8.set 2 (.slice (some ⟨g8, 0, none⟩) 1 cp8)
                  have ho9 := Only.set w8 (w.heap.size + 1 + 1) 2 (.slice (some ⟨g8, 0, none⟩) 1 cp8)
                  have hD9 := ho9.below hD8 (by omega) (by omega)
                  have hA9 := own_keep hown8 (fun q hq => ho9.block q (hown8.lt q hq).2 (fun e => by injection e with e; have := (hown8.lt q hq).1; omega))
                  have hs9 := Nat.le_trans hs8 ho9.size
                  have HX := Lib.hid (And.intro hC9 (And.intro hA9 (And.intro hD9 hs9)))
                  clear hC9 hA9 hD9 hs9 ho9 hC8 hD8 hs8 hown8
                  (refine grab (i := 7) (v := ?_) rfl rfl (by kernel_rfl) (by kernel_rfl) (by kernel_rfl) (fun _ _ _ h => h) (by rfl) ?_ ?_; rotate_left; (focus (intro w; go_simp; first | done | with_reducible rfl)); (simp only [Act.at, List.setIfInBounds_toArray, List.set_cons_zero, List.set_cons_succ]))
                  refine wpOne (i := 8) (by kernel_rfl) rfl (by rfl) (fun K hK => ?_)
                  go_simp
                  refine hK _ _ ?_
                  clear hK K d2 f2
                  try simp only [Act.put, List.setIfInBounds_toArray, List.set_cons_zero, List.set_cons_succ]
                  refine wpAny_done (by kernel_rfl) ?_ _
                  go_wp2_with fail
                  go_meet
                  exact ⟨g8, cp8, HX.out⟩
                · go_simp
                  refine hK _ _ ?_
                  clear hK K
                  try simp only [Act.put, List.setIfInBounds_toArray, List.set_cons_zero, List.set_cons_succ]
                  refine wpTwo (i := 1) (j := 5) (by kernel_rfl) rfl rfl (by rfl) (by rfl) (fun K hK => ?_) (fun K hK => ?_)
                  · go_simp
                    refine hK _ _ ?_
                    clear hK K
                    try simp only [Act.put, List.setIfInBounds_toArray, List.set_cons_zero, List.set_cons_succ]
                    (refine grab (i := 3) (v := ?_) rfl rfl (by kernel_rfl) (by kernel_rfl) (by kernel_rfl) (fun _ _ _ h => h) (by rfl) ?_ ?_; rotate_left; (focus (intro w; go_simp; first | done | with_reducible rfl)); (simp only [Act.at, List.setIfInBounds_toArray, List.set_cons_zero, List.set_cons_succ]))
                    refine wpOne (i := 5) (by kernel_rfl) rfl (by rfl) (fun K hK => ?_)
                    go_simp
                    refine hK _ _ ?_
                    clear hK K
                    try simp only [Act.put, List.setIfInBounds_toArray, List.set_cons_zero, List.set_cons_succ]
                    have hu := up1 (w := wc.drew) (.cells (fcs n yk yf yi yb yt) 40)
                    have hC6 := (show Has wc.drew (w.heap.size + 1 + 1) 24 #[.string (S id), .int .i64 cls, .slice none 0 0] from HA.out.1).of_alloc (.cells (fcs n yk yf yi yb yt) 40)
                    have hD6 := (HA.out.2.2.drew).trans (hu.mono (show w.heap.size + 2 ≤ wc.heap.size by omega))
                    have hM6 : ∀ (j : Nat) (u : Value), (Fld.cs ⟨n, ⟨yk, yf, yi, yb, yt⟩⟩)[j]? = some u → (wc.drew.alloc (.cells (fcs n yk yf yi yb yt) 40)).cell? ((⟨wc.heap.size, 0, none⟩ : Addr).add j) = some u := fun j u hu => by
                      have e : (⟨wc.heap.size, 0, none⟩ : Addr).add j = ⟨wc.heap.size, j, none⟩ := by rw [Addr.add_mid, Nat.zero_add]
                      rw [e]
                      have h := (Has.made wc.drew 40 (fcs n yk yf yi yb yt)).cell j
                      rw [show (wc.drew.heap.size) = wc.heap.size from rfl] at h
                      rw [h]
                      simpa [Fld.cs] using hu
                    have hs6 : w.heap.size + 3 ≤ (wc.drew.alloc (.cells (fcs n yk yf yi yb yt) 40)).heap.size := Nat.le_trans (show w.heap.size + 3 ≤ wc.drew.heap.size from hsr) hu.size
                    refine wpOne (i := 6) (by kernel_rfl) rfl (by rfl) (fun K hK => ?_)
                    refine wp_append_own _ (.tmp 62) (.tmp 64) 22 rfl (w.heap.size + 3) 40 i0 (.agg #[.string ⟨#[]⟩, .int .i64 0, .bool false, .int .i64 0, .int .u64 0, .string ⟨#[]⟩]) 6 64 Try.underlying22 HI.out.1 HI.out.2.1 HI.out.2.2.1 HI.out.2.2.2 rfl (by decide) (.slice none 0 0) 0 [] rfl (World.ownsRow_nil _ _ _ _) ⟨wc.heap.size, 0, none⟩ 1 1 (Fld.cs ⟨n, ⟨yk, yf, yi, yb, yt⟩⟩) rfl rfl hM6 (Fld.cs_one _) (by decide) (by decide) hs6 ?_
                    intro v8 w8 hown8' hg8 hnil8
                    refine hK _ _ ?_
                    clear hK K
                    try simp only [Act.put, List.setIfInBounds_toArray, List.set_cons_zero, List.set_cons_succ]
                    have hgb : ∀ q, (Value.slice none 0 0).ownBlock = some q → False := fun q hq => by cases hq
                    have hC8 : Has w8 (w.heap.size + 1 + 1) 24 #[.string (S id), .int .i64 cls, .slice none 0 0] := (hg8.block _ hC6.lt (fun e => hgb _ e.symm)).trans hC6
                    have hD8 : Below (w.heap.size + 2) W0 w8 := hD6.grown hg8 (by omega) (fun q hq => absurd hq (fun h => hgb q h))
                    have hs8 : w.heap.size + 3 ≤ w8.heap.size := Nat.le_trans hs6 hg8.size
                    have hown8 : w8.ownsRow (w.heap.size + 3) 40 6 v8 1 (fl [⟨n, ⟨yk, yf, yi, yb, yt⟩⟩]) := hown8'
                    obtain ⟨g8, cp8, rfl⟩ : ∃ g8 cp8, v8 = .slice (some ⟨g8, 0, none⟩) 1 cp8 := hown8.2.elim (fun h => absurd h.2 (by decide)) (fun ⟨g8, cp8, cur, h8, _⟩ => ⟨g8, cp8, h8⟩)
                    clear hown8' hg8 hnil8 hC6 hD6 hM6 hs6 hgb
                    have d2 := hC8.cell 2
                    have f2 := hC8.free 2
                    have hC9 : Has (w8.setCell ⟨w.heap.size + 1 + 1, 2, none⟩ (.slice (some ⟨g8, 0, none⟩) 1 cp8)) (w.heap.size + 1 + 1) 24 #[.string (S id), .int .i64 cls, (.slice (some ⟨g8, 0, none⟩) 1 cp8)] := by simpa using hC8.set 2 (.slice (some ⟨g8, 0, none⟩) 1 cp8)
                    have ho9 := Only.set w8 (w.heap.size + 1 + 1) 2 (.slice (some ⟨g8, 0, none⟩) 1 cp8)
                    have hD9 := ho9.below hD8 (by omega) (by omega)
                    have hA9 := own_keep hown8 (fun q hq => ho9.block q (hown8.lt q hq).2 (fun e => by injection e with e; have := (hown8.lt q hq).1; omega))
                    have hs9 := Nat.le_trans hs8 ho9.size
                    have HX := Lib.hid (And.intro hC9 (And.intro hA9 (And.intro hD9 hs9)))
                    clear hC9 hA9 hD9 hs9 ho9 hC8 hD8 hs8 hown8
                    (refine grab (i := 7) (v := ?_) rfl rfl (by kernel_rfl) (by kernel_rfl) (by kernel_rfl) (fun _ _ _ h => h) (by rfl) ?_ ?_; rotate_left; (focus (intro w; go_simp; first | done | with_reducible rfl)); (simp only [Act.at, List.setIfInBounds_toArray, List.set_cons_zero, List.set_cons_succ]))
                    refine wpOne (i := 8) (by kernel_rfl) rfl (by rfl) (fun K hK => ?_)
                    go_simp
                    refine hK _ _ ?_
                    clear hK K d2 f2
                    try simp only [Act.put, List.setIfInBounds_toArray, List.set_cons_zero, List.set_cons_succ]
                    refine wpAny_done (by kernel_rfl) ?_ _
                    go_wp2_with fail
                    go_meet
                    exact ⟨g8, cp8, HX.out⟩
                  · go_simp
                    refine hK _ _ ?_
                    clear hK K
                    try simp only [Act.put, List.setIfInBounds_toArray, List.set_cons_zero, List.set_cons_succ]
                    have hu := up1 (w := wc.drew) (.cells (fcs n yk yf yi yb yt) 40)
                    have hC6 := (show Has wc.drew (w.heap.size + 1 + 1) 24 #[.string (S id), .int .i64 cls, .slice none 0 0] from HA.out.1).of_alloc (.cells (fcs n yk yf yi yb yt) 40)
                    have hD6 := (HA.out.2.2.drew).trans (hu.mono (show w.heap.size + 2 ≤ wc.heap.size by omega))
                    have hM6 : ∀ (j : Nat) (u : Value), (Fld.cs ⟨n, ⟨yk, yf, yi, yb, yt⟩⟩)[j]? = some u → (wc.drew.alloc (.cells (fcs n yk yf yi yb yt) 40)).cell? ((⟨wc.heap.size, 0, none⟩ : Addr).add j) = some u := fun j u hu => by
                      have e : (⟨wc.heap.size, 0, none⟩ : Addr).add j = ⟨wc.heap.size, j, none⟩ := by rw [Addr.add_mid, Nat.zero_add]
                      rw [e]
                      have h := (Has.made wc.drew 40 (fcs n yk yf yi yb yt)).cell j
                      rw [show (wc.drew.heap.size) = wc.heap.size from rfl] at h
                      rw [h]
                      simpa [Fld.cs] using hu
                    have hs6 : w.heap.size + 3 ≤ (wc.drew.alloc (.cells (fcs n yk yf yi yb yt) 40)).heap.size := Nat.le_trans (show w.heap.size + 3 ≤ wc.drew.heap.size from hsr) hu.size
                    refine wpOne (i := 1) (by kernel_rfl) rfl (by rfl) (fun K hK => ?_)
                    go_simp
                    refine hK _ _ ?_
                    clear hK K
                    try simp only [Act.put, List.setIfInBounds_toArray, List.set_cons_zero, List.set_cons_succ]
                    (refine grab (i := 3) (v := ?_) rfl rfl (by kernel_rfl) (by kernel_rfl) (by kernel_rfl) (fun _ _ _ h => h) (by rfl) ?_ ?_; rotate_left; (focus (intro w; go_simp; first | done | with_reducible rfl)); (simp only [Act.at, List.setIfInBounds_toArray, List.set_cons_zero, List.set_cons_succ]))
                    refine wpOne (i := 6) (by kernel_rfl) rfl (by rfl) (fun K hK => ?_)
                    refine wp_append_own _ (.tmp 62) (.tmp 64) 22 rfl (w.heap.size + 3) 40 i0 (.agg #[.string ⟨#[]⟩, .int .i64 0, .bool false, .int .i64 0, .int .u64 0, .string ⟨#[]⟩]) 6 64 Try.underlying22 HI.out.1 HI.out.2.1 HI.out.2.2.1 HI.out.2.2.2 rfl (by decide) (.slice none 0 0) 0 [] rfl (World.ownsRow_nil _ _ _ _) ⟨wc.heap.size, 0, none⟩ 1 1 (Fld.cs ⟨n, ⟨yk, yf, yi, yb, yt⟩⟩) rfl rfl hM6 (Fld.cs_one _) (by decide) (by decide) hs6 ?_
                    intro v8 w8 hown8' hg8 hnil8
                    refine hK _ _ ?_
                    clear hK K
                    try simp only [Act.put, List.setIfInBounds_toArray, List.set_cons_zero, List.set_cons_succ]
                    have hgb : ∀ q, (Value.slice none 0 0).ownBlock = some q → False := fun q hq => by cases hq
                    have hC8 : Has w8 (w.heap.size + 1 + 1) 24 #[.string (S id), .int .i64 cls, .slice none 0 0] := (hg8.block _ hC6.lt (fun e => hgb _ e.symm)).trans hC6
                    have hD8 : Below (w.heap.size + 2) W0 w8 := hD6.grown hg8 (by omega) (fun q hq => absurd hq (fun h => hgb q h))
                    have hs8 : w.heap.size + 3 ≤ w8.heap.size := Nat.le_trans hs6 hg8.size
                    have hown8 : w8.ownsRow (w.heap.size + 3) 40 6 v8 1 (fl [⟨n, ⟨yk, yf, yi, yb, yt⟩⟩]) := hown8'
                    obtain ⟨g8, cp8, rfl⟩ : ∃ g8 cp8, v8 = .slice (some ⟨g8, 0, none⟩) 1 cp8 := hown8.2.elim (fun h => absurd h.2 (by decide)) (fun ⟨g8, cp8, cur, h8, _⟩ => ⟨g8, cp8, h8⟩)
                    clear hown8' hg8 hnil8 hC6 hD6 hM6 hs6 hgb
                    have d2 := hC8.cell 2
                    have f2 := hC8.free 2
                    have hC9 : Has (w8.setCell ⟨w.heap.size + 1 + 1, 2, none⟩ (.slice (some ⟨g8, 0, none⟩) 1 cp8)) (w.heap.size + 1 + 1) 24 #[.string (S id), .int .i64 cls, (.slice (some ⟨g8, 0, none⟩) 1 cp8)] := by simpa using hC8.set 2 (.slice (some ⟨g8, 0, none⟩) 1 cp8)
                    have ho9 := Only.set w8 (w.heap.size + 1 + 1) 2 (.slice (some ⟨g8, 0, none⟩) 1 cp8)
                    have hD9 := ho9.below hD8 (by omega) (by omega)
                    have hA9 := own_keep hown8 (fun q hq => ho9.block q (hown8.lt q hq).2 (fun e => by injection e with e; have := (hown8.lt q hq).1; omega))
                    have hs9 := Nat.le_trans hs8 ho9.size
                    have HX := Lib.hid (And.intro hC9 (And.intro hA9 (And.intro hD9 hs9)))
                    clear hC9 hA9 hD9 hs9 ho9 hC8 hD8 hs8 hown8
                    (refine grab (i := 7) (v := ?_) rfl rfl (by kernel_rfl) (by kernel_rfl) (by kernel_rfl) (fun _ _ _ h => h) (by rfl) ?_ ?_; rotate_left; (focus (intro w; go_simp; first | done | with_reducible rfl)); (simp only [Act.at, List.setIfInBounds_toArray, List.set_cons_zero, List.set_cons_succ]))
                    refine wpOne (i := 8) (by kernel_rfl) rfl (by rfl) (fun K hK => ?_)
                    go_simp
                    refine hK _ _ ?_
                    clear hK K d2 f2
                    try simp only [Act.put, List.setIfInBounds_toArray, List.set_cons_zero, List.set_cons_succ]
                    refine wpAny_done (by kernel_rfl) ?_ _
                    go_wp2_with fail
                    go_meet
                    exact ⟨g8, cp8, HX.out⟩
              case rest =>
                obtain ⟨g8, cp8, hO8, hown8, hb8, hs8⟩ := hcut
                have c2 := hO8.cell 2
                have HB := Lib.hid (And.intro hO8 (And.intro hown8 (And.intro hb8 hs8))); clear hO8 hown8 hb8 hOr hfr hbr
                have hgb8 : w.heap.size + 3 ≤ g8 := (HB.out.2.1.lt g8 rfl).1
                go_wp2_with (at_builtin; refine wpList_append_own _ rfl (.tmp 68) (.tmp 69) 22 rfl (w.heap.size + 3) 40 i0 (.agg #[.string ⟨#[]⟩, .int .i64 0, .bool false, .int .i64 0, .int .u64 0, .string ⟨#[]⟩]) 6 64 Try.underlying22 HI.out.1 HI.out.2.1 HI.out.2.2.1 HI.out.2.2.2 rfl (by decide) (.slice (some ⟨g8, 0, none⟩) 1 cp8) 1 (fl [⟨n, ⟨yk, yf, yi, yb, yt⟩⟩]) rfl HB.out.2.1 ⟨Wq.heap.size, 0, none⟩ 0 0 [] rfl rfl (fun j u hu => by cases hu) (fun u hu => by cases hu) (by decide) (by decide) HB.out.2.2.2 ?_; intro v9 w9 hown9 hg9 hnil9; rw [List.append_nil] at hown9; have hgb : ∀ q, (Value.slice (some ⟨g8, 0, none⟩) 1 cp8).ownBlock = some q → q = g8 := fun q hq => (Option.some.inj (show some g8 = some q from hq)).symm; have hO9 : Has w9 (w.heap.size + 1 + 1) 24 #[.string (S id), .int .i64 cls, .slice (some ⟨g8, 0, none⟩) 1 cp8] := (hg9.block _ HB.out.1.lt (fun e => by have := hgb _ e.symm; omega)).trans HB.out.1; have hD9 : Below (w.heap.size + 2) W0 w9 := HB.out.2.2.1.grown hg9 (by have := HB.out.2.2.2; omega) (fun q hq => by have := hgb q hq; omega); have hs9 : w.heap.size + 3 ≤ w9.heap.size := Nat.le_trans HB.out.2.2.2 hg9.size; obtain ⟨g9, cp9, rfl⟩ : ∃ g9 cp9, v9 = .slice (some ⟨g9, 0, none⟩) 1 cp9 := hown9.2.elim (fun h => absurd h.2 (by decide)) (fun ⟨g9, cp9, cur, h9, _⟩ => ⟨g9, cp9, h9⟩); have d2 := hO9.cell 2; have f2 := hO9.free 2)
                have hO10 : Has (w9.setCell ⟨w.heap.size + 1 + 1, 2, none⟩ (.slice (some ⟨g9, 0, none⟩) 1 cp9)) (w.heap.size + 1 + 1) 24 #[.string (S id), .int .i64 cls, (.slice (some ⟨g9, 0, none⟩) 1 cp9)] := by simpa using hO9.set 2 (.slice (some ⟨g9, 0, none⟩) 1 cp9)
                have ho10 := Only.set w9 (w.heap.size + 1 + 1) 2 (.slice (some ⟨g9, 0, none⟩) 1 cp9)
                have hD10 := ho10.below hD9 (by omega) (by omega)
                have hA10 := own_keep hown9 (fun q hq => ho10.block q (hown9.lt q hq).2 (fun e => by injection e with e; have := (hown9.lt q hq).1; omega))
                have hs10 := Nat.le_trans hs9 ho10.size
                have hTn : [⟨n, ⟨yk, yf, yi, yb, yt⟩⟩] = fsort ((L.take (0 + 1)).map Fld.clean) := by
                  rw [HST.out]
                  rfl
                have HTN := Lib.hid hTn; clear hTn
                go_roundg (L.length - 1)
                case measure => omega
                case rel => exact ⟨1, (.slice (some ⟨g9, 0, none⟩) 1 cp9), [⟨n, ⟨yk, yf, yi, yb, yt⟩⟩], by omega, by first | rfl | go_num, Nat.le_refl _, rfl, HTN, hA10, hO10, hD10, hs10⟩
        · have HFAT := Lib.hid (holds_fsl hH hgl)
          have hTl : T.length ≤ 100 := by omega
          have HTK := Lib.hid hTk; clear hTk
          go_upto_block 2 with (fail)
          go_cut [6] from 37 to 52 (fun v6 W => ∃ q kk : Nat, kk ≤ T.length ∧ v6 = .int .i64 (kk : Int) ∧ Hid (Stab.place Fld.name ⟨n, ⟨yk, yf, yi, yb, yt⟩⟩ T = kk) ∧ W = wc.drewN q)
          case first =>
            go_wp2_with fail
            go_loopg [6] T.length (fun g2 v6 wr' => ∃ q kk : Nat, kk ≤ T.length ∧ v6 = .int .i64 (kk : Int) ∧ kk ≤ g2 ∧ Hid (∀ t (ht : t < T.length), kk ≤ t → bytesLess n T[t].name = true) ∧ wr' = wc.drewN q)
            case atStart => exact ⟨0, T.length, Nat.le_refl _, rfl, Nat.le_refl _, (fun t ht h => absurd h (by omega)), rfl⟩
            case round =>
              obtain ⟨q, kk, hkk, rfl, hg2, HALL, rfl⟩ := hrel
              by_cases hz : kk = 0
              · subst hz
                have HPL := Lib.hid (place_unique ⟨n, ⟨yk, yf, yi, yb, yt⟩⟩ T 0 (Nat.zero_le _) (fun t ht h => HALL.out t ht h) (Or.inl rfl))
                go_wp2_with fail
                go_quiet (fail)
                go_wp2_with fail
                go_meet
                exact ⟨q + nq, 0, Nat.zero_le _, rfl, HPL.out, by first | rfl | rw [World.drewN_drewN]⟩
              · obtain ⟨jp, rfl⟩ : ∃ jp, kk = jp + 1 := ⟨kk - 1, by omega⟩
                have hjl : jp < T.length := by omega
                obtain ⟨off', hA', _, hc'⟩ := HFAT.out (by intro hc; rw [hc] at hjl; cases hjl)
                obtain ⟨e0, -⟩ := hc' jp hjl
                have hoff : off' = 0 := by injection hA' with h; injection h with _ h _; exact h.symm
                subst hoff
                rw [Nat.zero_add] at e0
                clear hc' hA'
                have p0 : (0 : Int) < (jp : Int) + 1 := by omega
                have p1 : ((jp : Int) + 1).toNat = jp + 1 := by omega
                have p2 : (jp : Int) < (T.length : Int) := by omega
                have hnx : bytesLess n T[jp].name = true → Hid (∀ t (ht : t < T.length), jp ≤ t → bytesLess n T[t].name = true) := fun h t ht hj => by
                  by_cases e : t = jp
                  · subst e; exact h
                  · exact HALL.out t ht (by omega)
                have hpl : bytesLess n T[jp].name = false → Hid (Stab.place Fld.name ⟨n, ⟨yk, yf, yi, yb, yt⟩⟩ T = jp + 1) := fun h => place_unique ⟨n, ⟨yk, yf, yi, yb, yt⟩⟩ T (jp + 1) hkk (fun t ht hj => HALL.out t ht hj) (Or.inr ⟨hjl, h⟩)
                have HNX := Lib.hid hnx; clear hnx
                have HPL := Lib.hid hpl; clear hpl
                obtain ⟨tn, htn⟩ : ∃ x, x = T[jp].name := ⟨_, rfl⟩
                rw [← htn] at e0
                cases hl : bytesLess n tn
                · have HQ := Lib.hid (HPL.out (by rw [← htn]; exact hl))
                  have hsp : bytesLess tn n = true ∨ (bytesLess tn n = false ∧ (tn == n) = true) := by
                    cases h2 : bytesLess tn n
                    · exact Or.inr ⟨rfl, by rw [bl_total tn n h2 hl]; simp⟩
                    · exact Or.inl rfl
                  clear htn hl
                  rcases hsp with g1 | ⟨g1, g2⟩
                  all_goals
                    go_wp2_with fail
                    go_quiet (fail)
                    go_wp2_with fail
                    go_meet
                    exact ⟨q + nq, jp + 1, hkk, by first | rfl | go_num, HQ.out, by first | rfl | rw [World.drewN_drewN]⟩
                · have HQ := Lib.hid (HNX.out (by rw [← htn]; exact hl))
                  have g1 : bytesLess tn n = false := bl_asymm _ _ hl
                  have g2 : (tn == n) = false := by rw [beq_eq_false_iff_ne]; rintro rfl; rw [bl_irrefl] at hl; cases hl
                  clear htn hl
                  go_wp2_with fail
                  go_quiet (fail)
                  go_wp2_with fail
                  go_roundg jp
                  case measure => omega
                  case rel => exact ⟨q + nq, jp, by omega, by first | rfl | go_num, Nat.le_refl _, HQ.out, by first | rfl | rw [World.drewN_drewN]⟩
          case rest =>
            obtain ⟨q, kk, hkk, rfl, HPL, rfl⟩ := hcut
            have hownq : (wc.drewN q).ownsRow (w.heap.size + 3) 40 6 (.slice (some ⟨g, 0, none⟩) T.length cp) k (fl T) := own_keep hown3 (fun _ _ => rfl)
            have hOq : Has (wc.drewN q) (w.heap.size + 1 + 1) 24 #[.string (S id), .int .i64 cls, .slice (some ⟨g, 0, none⟩) T.length cp] := hO3
            have hfq : Has (wc.drewN q) gf 40 (fcs n yk yf yi yb yt) := hfn
            have hbq : Below (w.heap.size + 2) W0 (wc.drewN q) := below_drewN hb3 _
            have hsq : w.heap.size + 3 ≤ (wc.drewN q).heap.size := hs3'
            have hgq : g < (wc.drewN q).heap.size := hgl
            have hgfq : gf < (wc.drewN q).heap.size := hgfl
            have hcpl : T.length ≤ cp := by
              rcases hown3.2 with ⟨h, _⟩ | ⟨g', cap', cur, h, _, _, hle, _⟩
              · cases h
              · injection h with h1 h2 h3; have := HTK.out; omega
            have hneg : g < gf := hvl g rfl
            clear hown3 hO3 hfn hb3 hs3' hgl hgfl hH hgo c2 d0 HFAT hvl
            generalize wc.drewN q = Wq at *
            have c2 := hOq.cell 2
            have hgo : w.heap.size + 1 + 1 < Wq.heap.size := by omega
            have hk0 : (0 : Int) ≤ (kk : Int) := by omega
            have hk1 : (kk : Int) ≤ (T.length : Int) := by omega
            have hk2 : (T.length : Int) ≤ (cp : Int) := by omega
            obtain rfl : k = T.length := HTK.out.symm
            have hown0 : (Wq.alloc (.cells #[] 40)).ownsRow Wq.heap.size 40 6 (.slice (some ⟨Wq.heap.size, 0, none⟩) 0 0) 0 [] := ⟨rfl, Or.inr ⟨Wq.heap.size, 0, #[], rfl, Nat.le_refl _, Has.made Wq _ _, Nat.le_refl _, by decide, rfl, rfl⟩⟩
            have hM0 : ∀ (j : Nat) (u : Value), (fl (T.drop kk))[j]? = some u → (Wq.alloc (.cells #[] 40)).cell? ((⟨g, kk * 6, none⟩ : Addr).add j) = some u := fun j u hu => by
              rw [Addr.add_mid, (Below.refl _ Wq).alloc (Nat.le_refl _) (.cells #[] 40) |>.cell (p := ⟨g, kk * 6 + j, none⟩) hgq]
              rw [fl_drop T kk hkk, List.getElem?_drop] at hu
              have hlt2 : kk * 6 + j < T.length * 6 := by
                have := (List.getElem?_eq_some_iff.1 hu).1
                rw [fl_len] at this
                exact this
              rw [hownq.cellAt (kk * 6 + j) hlt2]
              exact hu
            have HO0 := Lib.hid (And.intro hown0 hM0); clear hown0 hM0
            have hlen0 : (fl (T.drop kk)).length = (T.length - kk) * 6 := by rw [fl_len, List.length_drop]
            go_upto_region 9 with (fail)
            go_cut [7] from 53 to 58 (fun v7 W => ∃ g7 c7, v7 = .slice (some ⟨g7, 0, none⟩) (T.length - kk) c7 ∧ W.ownsRow Wq.heap.size 40 6 v7 (T.length - kk) (fl (T.drop kk)) ∧ Wq.heap.size ≤ g7 ∧ Below Wq.heap.size Wq W)
            case first =>
              by_cases hm : T.length - kk = 0
              · have hdr : fl (T.drop kk) = [] := by rw [hm] at hlen0; exact List.eq_nil_of_length_eq_zero hlen0
                have HDR := Lib.hid (And.intro hdr hlen0); clear hdr hlen0
                have HM := Lib.hid hm
                by_cases hck : cp = kk
                case' pos => subst hck
                all_goals
                  go_wp2_with fail
                  go_meet
                  exact ⟨Wq.heap.size, 0, (by rw [HM.out]; first | done | rfl), by rw [HM.out, HDR.out.1]; exact HO0.out.1, Nat.le_refl _, up1 _⟩
              · have hck : ¬ cp = kk := by omega
                go_wp2_with (at_builtin; refine wpList_append_own _ rfl (.tmp 53) (.tmp 57) 22 rfl Wq.heap.size 40 i0 (.agg #[.string ⟨#[]⟩, .int .i64 0, .bool false, .int .i64 0, .int .u64 0, .string ⟨#[]⟩]) 6 64 Try.underlying22 HI.out.1 HI.out.2.1 HI.out.2.2.1 HI.out.2.2.2 rfl (by decide) (.slice (some ⟨Wq.heap.size, 0, none⟩) 0 0) 0 [] rfl HO0.out.1 ⟨g, kk * 6, none⟩ (T.length - kk) (cp - kk) (fl (T.drop kk)) rfl hlen0 HO0.out.2 (fl_one _) (by simp only [maxLen]; omega) (by omega) (by simp) ?_; intro v7 w7 hown7 hg7 hnil7)
                have hbl7 : Below Wq.heap.size Wq w7 := (up1 (w := Wq) (.cells #[] 40)).grown hg7 (by simp) (fun q hq => Nat.le_of_eq (Option.some.inj (show some Wq.heap.size = some q from hq)))
                rw [Nat.zero_add, List.nil_append] at hown7
                obtain ⟨g7, c7, hv7, hg7q⟩ : ∃ g7 c7, v7 = .slice (some ⟨g7, 0, none⟩) (T.length - kk) c7 ∧ Wq.heap.size ≤ g7 := by
                  rcases hown7.2 with ⟨_, h0⟩ | ⟨g7, c7, cur, h7, hb7', hc7, _⟩
                  · exact absurd h0 hm
                  · exact ⟨g7, c7, h7, by assumption⟩
                go_wp2_with fail
                go_meet
                exact ⟨g7, c7, hv7, hown7, hg7q, hbl7⟩
            case rest =>
              obtain ⟨g7, c7, rfl, hown7, hg7, hb7⟩ := hcut
              have hownr := own_keep hownq (fun q hq => hb7.block q (by have := Option.some.inj (show some g = some q from hq); omega))
              have hOr := hOq.below hb7 hOq.lt
              have hfr := hfq.below hb7 hfq.lt
              have hbr := hbq.trans (hb7.mono (by omega))
              have hsr : w.heap.size + 3 ≤ wc.heap.size := by have := hb7.size; omega
              have hg7l : g7 < wc.heap.size := (hown7.lt g7 rfl).2
              have hgfr := hfr.lt
              clear hownq hOq hfq hbq hsq hb7 c2 HO0 hlen0 HTK
              have hgf7 : gf < g7 := by omega
              have hkc : kk ≤ cp := by omega
              have hown8 : wc.drew.ownsRow (w.heap.size + 3) 40 6 (.slice (some ⟨g, 0, none⟩) kk cp) kk (fl (T.take kk)) := by
                refine ⟨by rw [fl_len, List.length_take]; congr 1; omega, ?_⟩
                rcases hownr.2 with ⟨h, _⟩ | ⟨g', cap', cur, h, hB, hc, hle, hmx, hsz, htk⟩
                · cases h
                · injection h with h1 h2 h3
                  injection h1 with h1
                  injection h1 with h1 _ _
                  subst h1
                  subst h3
                  refine Or.inr ⟨g, cp, cur, rfl, hB, hc, by omega, hmx, hsz, ?_⟩
                  rw [fl_take T kk hkk, ← htk, List.take_take]
                  congr 1
                  omega
              have HA := Lib.hid (And.intro hown8 (And.intro hown7 (And.intro hOr (And.intro hfr hbr))))
              go_upto_region 10 with (fail)
              go_cut [] from 59 to 66 (fun W => ∃ g8 cp8, Has W (w.heap.size + 1 + 1) 24 #[.string (S id), .int .i64 cls, .slice (some ⟨g8, 0, none⟩) (kk + 1) cp8] ∧ W.ownsRow (w.heap.size + 3) 40 6 (.slice (some ⟨g8, 0, none⟩) (kk + 1) cp8) (kk + 1) (fl (T.take kk ++ [⟨n, ⟨yk, yf, yi, yb, yt⟩⟩])) ∧
                W.ownsRow Wq.heap.size 40 6 (.slice (some ⟨g7, 0, none⟩) (T.length - kk) c7) (T.length - kk) (fl (T.drop kk)) ∧ Below (w.heap.size + 2) W0 W ∧ w.heap.size + 3 ≤ W.heap.size)
              case first =>
                have c2 : wc.drew.cell? ⟨w.heap.size + 1 + 1, 2, none⟩ = some (.slice (some ⟨g, 0, none⟩) T.length cp) := hOr.cell 2
                have c2w : wc.cell? ⟨w.heap.size + 1 + 1, 2, none⟩ = some (.slice (some ⟨g, 0, none⟩) T.length cp) := hOr.cell 2
                have hgow : w.heap.size + 1 + 1 < wc.heap.size := by omega
                obtain ⟨e0, e1, e2, e3, e4, e5⟩ := flies (show Has wc.drew gf 40 (fcs n yk yf yi yb yt) from hfr)
                clear hownr hown7 hOr hfr hbr hown8
                refine wp_region_any (by kernel_rfl) ?_
                change wpAny _ _ _ _ _ _ _ (World.drew _)
                (refine grab (i := 0) (v := ?_) rfl rfl (by kernel_rfl) (by kernel_rfl) (by kernel_rfl) (fun _ _ _ h => h) (by rfl) ?_ ?_; rotate_left; (focus (intro w; go_simp; first | done | with_reducible rfl)); (simp only [Act.at, List.setIfInBounds_toArray, List.set_cons_zero, List.set_cons_succ]))
                (refine grab (i := 2) (v := ?_) rfl rfl (by kernel_rfl) (by kernel_rfl) (by kernel_rfl) (fun _ _ _ h => h) (by rfl) ?_ ?_; rotate_left; (focus (intro w; go_simp; first | done | with_reducible rfl)); (simp only [Act.at, List.setIfInBounds_toArray, List.set_cons_zero, List.set_cons_succ]))
                refine wpTwo (i := 1) (j := 4) (by kernel_rfl) rfl rfl (by rfl) (by rfl) (fun K hK => ?_) (fun K hK => ?_)
                · go_simp
                  refine hK _ _ ?_
                  clear hK K
                  try simp only [Act.put, List.setIfInBounds_toArray, List.set_cons_zero, List.set_cons_succ]
                  (refine grab (i := 3) (v := ?_) rfl rfl (by kernel_rfl) (by kernel_rfl) (by kernel_rfl) (fun _ _ _ h => h) (by rfl) ?_ ?_; rotate_left; (focus (intro w; go_simp; first | done | with_reducible rfl)); (simp only [Act.at, List.setIfInBounds_toArray, List.set_cons_zero, List.set_cons_succ]))
                  refine wpOne (i := 4) (by kernel_rfl) rfl (by rfl) (fun K hK => ?_)
                  go_simp
                  refine hK _ _ ?_
                  clear hK K
                  try simp only [Act.put, List.setIfInBounds_toArray, List.set_cons_zero, List.set_cons_succ]
                  refine wpOne (i := 5) (by kernel_rfl) rfl (by rfl) (fun K hK => ?_)
                  go_simp
                  refine hK _ _ ?_
                  clear hK K
                  try simp only [Act.put, List.setIfInBounds_toArray, List.set_cons_zero, List.set_cons_succ]
                  have hu := up1 (w := wc.drew) (.cells (fcs n yk yf yi yb yt) 40)
                  have hA6 := own_below' HA.out.1 hu
                  have hB6 := own_below' (show wc.drew.ownsRow Wq.heap.size 40 6 (.slice (some ⟨g7, 0, none⟩) (T.length - kk) c7) (T.length - kk) (fl (T.drop kk)) from HA.out.2.1.drew) hu
                  have hC6 := (show Has wc.drew (w.heap.size + 1 + 1) 24 #[.string (S id), .int .i64 cls, .slice (some ⟨g, 0, none⟩) T.length cp] from HA.out.2.2.1).of_alloc (.cells (fcs n yk yf yi yb yt) 40)
                  have hD6 := (HA.out.2.2.2.2.drew).trans (hu.mono (show w.heap.size + 2 ≤ wc.heap.size by omega))
                  have hM6 : ∀ (j : Nat) (u : Value), (Fld.cs ⟨n, ⟨yk, yf, yi, yb, yt⟩⟩)[j]? = some u → (wc.drew.alloc (.cells (fcs n yk yf yi yb yt) 40)).cell? ((⟨wc.heap.size, 0, none⟩ : Addr).add j) = some u := fun j u hu => by
                    have e : (⟨wc.heap.size, 0, none⟩ : Addr).add j = ⟨wc.heap.size, j, none⟩ := by rw [Addr.add_mid, Nat.zero_add]
                    rw [e]
                    have h := (Has.made wc.drew 40 (fcs n yk yf yi yb yt)).cell j
                    rw [show (wc.drew.heap.size) = wc.heap.size from rfl] at h
                    rw [h]
                    simpa [Fld.cs] using hu
                  have hs6 : w.heap.size + 3 ≤ (wc.drew.alloc (.cells (fcs n yk yf yi yb yt) 40)).heap.size := Nat.le_trans (show w.heap.size + 3 ≤ wc.drew.heap.size from hsr) hu.size
                  have c6 := hC6.cell 2
                  refine wpOne (i := 6) (by kernel_rfl) rfl (by rfl) (fun K hK => ?_)
                  refine wp_append_own _ (.tmp 62) (.tmp 64) 22 rfl (w.heap.size + 3) 40 i0 (.agg #[.string ⟨#[]⟩, .int .i64 0, .bool false, .int .i64 0, .int .u64 0, .string ⟨#[]⟩]) 6 64 Try.underlying22 HI.out.1 HI.out.2.1 HI.out.2.2.1 HI.out.2.2.2 rfl (by decide) (.slice (some ⟨g, 0, none⟩) kk cp) kk (fl (T.take kk)) rfl hA6 ⟨wc.heap.size, 0, none⟩ 1 1 (Fld.cs ⟨n, ⟨yk, yf, yi, yb, yt⟩⟩) rfl rfl hM6 (Fld.cs_one _) (by simp only [maxLen]; omega) (by omega) hs6 ?_
                  intro v8 w8 hown8' hg8 hnil8
                  refine hK _ _ ?_
                  clear hK K
                  try simp only [Act.put, List.setIfInBounds_toArray, List.set_cons_zero, List.set_cons_succ]
                  have hgb : ∀ q, (Value.slice (some ⟨g, 0, none⟩) kk cp).ownBlock = some q → q = g := fun q hq => (Option.some.inj (show some g = some q from hq)).symm
                  have hC8 : Has w8 (w.heap.size + 1 + 1) 24 #[.string (S id), .int .i64 cls, .slice (some ⟨g, 0, none⟩) T.length cp] := (hg8.block _ hC6.lt (fun e => by have := hgb _ e.symm; omega)).trans hC6
                  have hD8 : Below (w.heap.size + 2) W0 w8 := hD6.grown hg8 (by omega) (fun q hq => by have := hgb q hq; omega)
                  have hB8 := own_keep hB6 (fun q hq => hg8.block q (hB6.lt q hq).2 (fun e => by have h1 := hgb q e.symm; have h2 := Option.some.inj (show some g7 = some q from hq); omega))
                  have hs8 : w.heap.size + 3 ≤ w8.heap.size := Nat.le_trans hs6 hg8.size
                  have hown8 : w8.ownsRow (w.heap.size + 3) 40 6 v8 (kk + 1) (fl (T.take kk ++ [⟨n, ⟨yk, yf, yi, yb, yt⟩⟩])) := by rw [fl_snoc]; exact hown8'
                  obtain ⟨g8, cp8, rfl⟩ : ∃ g8 cp8, v8 = .slice (some ⟨g8, 0, none⟩) (kk + 1) cp8 := hown8.2.elim (fun h => absurd h.2 (by omega)) (fun ⟨g8, cp8, cur, h8, _⟩ => ⟨g8, cp8, h8⟩)
                  clear hown8' hg8 hnil8 hC6 hD6 hB6 hA6 hM6 hs6 c6 hgb
                  have d2 := hC8.cell 2
                  have f2 := hC8.free 2
                  have hC9 : Has (w8.setCell ⟨w.heap.size + 1 + 1, 2, none⟩ (.slice (some ⟨g8, 0, none⟩) (kk + 1) cp8)) (w.heap.size + 1 + 1) 24 #[.string (S id), .int .i64 cls, (.slice (some ⟨g8, 0, none⟩) (kk + 1) cp8)] := by simpa using hC8.set 2 (.slice (some ⟨g8, 0, none⟩) (kk + 1) cp8)
                  have ho9 := Only.set w8 (w.heap.size + 1 + 1) 2 (.slice (some ⟨g8, 0, none⟩) (kk + 1) cp8)
                  have hD9 := ho9.below hD8 (by omega) (by omega)
                  have hA9 := own_keep hown8 (fun q hq => ho9.block q (hown8.lt q hq).2 (fun e => by injection e with e; have := (hown8.lt q hq).1; omega))
                  have hB9 := own_keep hB8 (fun q hq => ho9.block q (hB8.lt q hq).2 (fun e => by injection e with e; have := (hB8.lt q hq).1; omega))
                  have hs9 := Nat.le_trans hs8 ho9.size
                  have HX := Lib.hid (And.intro hC9 (And.intro hA9 (And.intro hB9 (And.intro hD9 hs9))))
                  clear hC9 hA9 hB9 hD9 hs9 ho9 hC8 hD8 hB8 hs8 hown8
                  (refine grab (i := 7) (v := ?_) rfl rfl (by kernel_rfl) (by kernel_rfl) (by kernel_rfl) (fun _ _ _ h => h) (by rfl) ?_ ?_; rotate_left; (focus (intro w; go_simp; first | done | with_reducible rfl)); (simp only [Act.at, List.setIfInBounds_toArray, List.set_cons_zero, List.set_cons_succ]))
                  refine wpOne (i := 8) (by kernel_rfl) rfl (by rfl) (fun K hK => ?_)
                  go_simp
                  refine hK _ _ ?_
                  clear hK K d2 f2
                  try simp only [Act.put, List.setIfInBounds_toArray, List.set_cons_zero, List.set_cons_succ]
                  refine wpAny_done (by kernel_rfl) ?_ _
                  go_wp2_with fail
                  go_meet
                  exact ⟨g8, cp8, HX.out⟩
                · go_simp
                  refine hK _ _ ?_
                  clear hK K
                  try simp only [Act.put, List.setIfInBounds_toArray, List.set_cons_zero, List.set_cons_succ]
                  refine wpTwo (i := 1) (j := 5) (by kernel_rfl) rfl rfl (by rfl) (by rfl) (fun K hK => ?_) (fun K hK => ?_)
                  · go_simp
                    refine hK _ _ ?_
                    clear hK K
                    try simp only [Act.put, List.setIfInBounds_toArray, List.set_cons_zero, List.set_cons_succ]
                    (refine grab (i := 3) (v := ?_) rfl rfl (by kernel_rfl) (by kernel_rfl) (by kernel_rfl) (fun _ _ _ h => h) (by rfl) ?_ ?_; rotate_left; (focus (intro w; go_simp; first | done | with_reducible rfl)); (simp only [Act.at, List.setIfInBounds_toArray, List.set_cons_zero, List.set_cons_succ]))
                    refine wpOne (i := 5) (by kernel_rfl) rfl (by rfl) (fun K hK => ?_)
                    go_simp
                    refine hK _ _ ?_
                    clear hK K
                    try simp only [Act.put, List.setIfInBounds_toArray, List.set_cons_zero, List.set_cons_succ]
                    have hu := up1 (w := wc.drew) (.cells (fcs n yk yf yi yb yt) 40)
                    have hA6 := own_below' HA.out.1 hu
                    have hB6 := own_below' (show wc.drew.ownsRow Wq.heap.size 40 6 (.slice (some ⟨g7, 0, none⟩) (T.length - kk) c7) (T.length - kk) (fl (T.drop kk)) from HA.out.2.1.drew) hu
                    have hC6 := (show Has wc.drew (w.heap.size + 1 + 1) 24 #[.string (S id), .int .i64 cls, .slice (some ⟨g, 0, none⟩) T.length cp] from HA.out.2.2.1).of_alloc (.cells (fcs n yk yf yi yb yt) 40)
                    have hD6 := (HA.out.2.2.2.2.drew).trans (hu.mono (show w.heap.size + 2 ≤ wc.heap.size by omega))
                    have hM6 : ∀ (j : Nat) (u : Value), (Fld.cs ⟨n, ⟨yk, yf, yi, yb, yt⟩⟩)[j]? = some u → (wc.drew.alloc (.cells (fcs n yk yf yi yb yt) 40)).cell? ((⟨wc.heap.size, 0, none⟩ : Addr).add j) = some u := fun j u hu => by
                      have e : (⟨wc.heap.size, 0, none⟩ : Addr).add j = ⟨wc.heap.size, j, none⟩ := by rw [Addr.add_mid, Nat.zero_add]
                      rw [e]
                      have h := (Has.made wc.drew 40 (fcs n yk yf yi yb yt)).cell j
                      rw [show (wc.drew.heap.size) = wc.heap.size from rfl] at h
                      rw [h]
                      simpa [Fld.cs] using hu
                    have hs6 : w.heap.size + 3 ≤ (wc.drew.alloc (.cells (fcs n yk yf yi yb yt) 40)).heap.size := Nat.le_trans (show w.heap.size + 3 ≤ wc.drew.heap.size from hsr) hu.size
                    have c6 := hC6.cell 2
                    refine wpOne (i := 6) (by kernel_rfl) rfl (by rfl) (fun K hK => ?_)
                    refine wp_append_own _ (.tmp 62) (.tmp 64) 22 rfl (w.heap.size + 3) 40 i0 (.agg #[.string ⟨#[]⟩, .int .i64 0, .bool false, .int .i64 0, .int .u64 0, .string ⟨#[]⟩]) 6 64 Try.underlying22 HI.out.1 HI.out.2.1 HI.out.2.2.1 HI.out.2.2.2 rfl (by decide) (.slice (some ⟨g, 0, none⟩) kk cp) kk (fl (T.take kk)) rfl hA6 ⟨wc.heap.size, 0, none⟩ 1 1 (Fld.cs ⟨n, ⟨yk, yf, yi, yb, yt⟩⟩) rfl rfl hM6 (Fld.cs_one _) (by simp only [maxLen]; omega) (by omega) hs6 ?_
                    intro v8 w8 hown8' hg8 hnil8
                    refine hK _ _ ?_
                    clear hK K
                    try simp only [Act.put, List.setIfInBounds_toArray, List.set_cons_zero, List.set_cons_succ]
                    have hgb : ∀ q, (Value.slice (some ⟨g, 0, none⟩) kk cp).ownBlock = some q → q = g := fun q hq => (Option.some.inj (show some g = some q from hq)).symm
                    have hC8 : Has w8 (w.heap.size + 1 + 1) 24 #[.string (S id), .int .i64 cls, .slice (some ⟨g, 0, none⟩) T.length cp] := (hg8.block _ hC6.lt (fun e => by have := hgb _ e.symm; omega)).trans hC6
                    have hD8 : Below (w.heap.size + 2) W0 w8 := hD6.grown hg8 (by omega) (fun q hq => by have := hgb q hq; omega)
                    have hB8 := own_keep hB6 (fun q hq => hg8.block q (hB6.lt q hq).2 (fun e => by have h1 := hgb q e.symm; have h2 := Option.some.inj (show some g7 = some q from hq); omega))
                    have hs8 : w.heap.size + 3 ≤ w8.heap.size := Nat.le_trans hs6 hg8.size
                    have hown8 : w8.ownsRow (w.heap.size + 3) 40 6 v8 (kk + 1) (fl (T.take kk ++ [⟨n, ⟨yk, yf, yi, yb, yt⟩⟩])) := by rw [fl_snoc]; exact hown8'
                    obtain ⟨g8, cp8, rfl⟩ : ∃ g8 cp8, v8 = .slice (some ⟨g8, 0, none⟩) (kk + 1) cp8 := hown8.2.elim (fun h => absurd h.2 (by omega)) (fun ⟨g8, cp8, cur, h8, _⟩ => ⟨g8, cp8, h8⟩)
                    clear hown8' hg8 hnil8 hC6 hD6 hB6 hA6 hM6 hs6 c6 hgb
                    have d2 := hC8.cell 2
                    have f2 := hC8.free 2
                    have hC9 : Has (w8.setCell ⟨w.heap.size + 1 + 1, 2, none⟩ (.slice (some ⟨g8, 0, none⟩) (kk + 1) cp8)) (w.heap.size + 1 + 1) 24 #[.string (S id), .int .i64 cls, (.slice (some ⟨g8, 0, none⟩) (kk + 1) cp8)] := by simpa using hC8.set 2 (.slice (some ⟨g8, 0, none⟩) (kk + 1) cp8)
                    have ho9 := Only.set w8 (w.heap.size + 1 + 1) 2 (.slice (some ⟨g8, 0, none⟩) (kk + 1) cp8)
                    have hD9 := ho9.below hD8 (by omega) (by omega)
                    have hA9 := own_keep hown8 (fun q hq => ho9.block q (hown8.lt q hq).2 (fun e => by injection e with e; have := (hown8.lt q hq).1; omega))
                    have hB9 := own_keep hB8 (fun q hq => ho9.block q (hB8.lt q hq).2 (fun e => by injection e with e; have := (hB8.lt q hq).1; omega))
                    have hs9 := Nat.le_trans hs8 ho9.size
                    have HX := Lib.hid (And.intro hC9 (And.intro hA9 (And.intro hB9 (And.intro hD9 hs9))))
                    clear hC9 hA9 hB9 hD9 hs9 ho9 hC8 hD8 hB8 hs8 hown8
                    (refine grab (i := 7) (v := ?_) rfl rfl (by kernel_rfl) (by kernel_rfl) (by kernel_rfl) (fun _ _ _ h => h) (by rfl) ?_ ?_; rotate_left; (focus (intro w; go_simp; first | done | with_reducible rfl)); (simp only [Act.at, List.setIfInBounds_toArray, List.set_cons_zero, List.set_cons_succ]))
                    refine wpOne (i := 8) (by kernel_rfl) rfl (by rfl) (fun K hK => ?_)
                    go_simp
                    refine hK _ _ ?_
                    clear hK K d2 f2
                    try simp only [Act.put, List.setIfInBounds_toArray, List.set_cons_zero, List.set_cons_succ]
                    refine wpAny_done (by kernel_rfl) ?_ _
                    go_wp2_with fail
                    go_meet
                    exact ⟨g8, cp8, HX.out⟩
                  · go_simp
                    refine hK _ _ ?_
                    clear hK K
                    try simp only [Act.put, List.setIfInBounds_toArray, List.set_cons_zero, List.set_cons_succ]
                    have hu := up1 (w := wc.drew) (.cells (fcs n yk yf yi yb yt) 40)
                    have hA6 := own_below' HA.out.1 hu
                    have hB6 := own_below' (show wc.drew.ownsRow Wq.heap.size 40 6 (.slice (some ⟨g7, 0, none⟩) (T.length - kk) c7) (T.length - kk) (fl (T.drop kk)) from HA.out.2.1.drew) hu
                    have hC6 := (show Has wc.drew (w.heap.size + 1 + 1) 24 #[.string (S id), .int .i64 cls, .slice (some ⟨g, 0, none⟩) T.length cp] from HA.out.2.2.1).of_alloc (.cells (fcs n yk yf yi yb yt) 40)
                    have hD6 := (HA.out.2.2.2.2.drew).trans (hu.mono (show w.heap.size + 2 ≤ wc.heap.size by omega))
                    have hM6 : ∀ (j : Nat) (u : Value), (Fld.cs ⟨n, ⟨yk, yf, yi, yb, yt⟩⟩)[j]? = some u → (wc.drew.alloc (.cells (fcs n yk yf yi yb yt) 40)).cell? ((⟨wc.heap.size, 0, none⟩ : Addr).add j) = some u := fun j u hu => by
                      have e : (⟨wc.heap.size, 0, none⟩ : Addr).add j = ⟨wc.heap.size, j, none⟩ := by rw [Addr.add_mid, Nat.zero_add]
                      rw [e]
                      have h := (Has.made wc.drew 40 (fcs n yk yf yi yb yt)).cell j
                      rw [show (wc.drew.heap.size) = wc.heap.size from rfl] at h
                      rw [h]
                      simpa [Fld.cs] using hu
                    have hs6 : w.heap.size + 3 ≤ (wc.drew.alloc (.cells (fcs n yk yf yi yb yt) 40)).heap.size := Nat.le_trans (show w.heap.size + 3 ≤ wc.drew.heap.size from hsr) hu.size
                    have c6 := hC6.cell 2
                    refine wpOne (i := 1) (by kernel_rfl) rfl (by rfl) (fun K hK => ?_)
                    go_simp
                    refine hK _ _ ?_
                    clear hK K
                    try simp only [Act.put, List.setIfInBounds_toArray, List.set_cons_zero, List.set_cons_succ]
                    (refine grab (i := 3) (v := ?_) rfl rfl (by kernel_rfl) (by kernel_rfl) (by kernel_rfl) (fun _ _ _ h => h) (by rfl) ?_ ?_; rotate_left; (focus (intro w; go_simp; first | done | with_reducible rfl)); (simp only [Act.at, List.setIfInBounds_toArray, List.set_cons_zero, List.set_cons_succ]))
                    refine wpOne (i := 6) (by kernel_rfl) rfl (by rfl) (fun K hK => ?_)
                    refine wp_append_own _ (.tmp 62) (.tmp 64) 22 rfl (w.heap.size + 3) 40 i0 (.agg #[.string ⟨#[]⟩, .int .i64 0, .bool false, .int .i64 0, .int .u64 0, .string ⟨#[]⟩]) 6 64 Try.underlying22 HI.out.1 HI.out.2.1 HI.out.2.2.1 HI.out.2.2.2 rfl (by decide) (.slice (some ⟨g, 0, none⟩) kk cp) kk (fl (T.take kk)) rfl hA6 ⟨wc.heap.size, 0, none⟩ 1 1 (Fld.cs ⟨n, ⟨yk, yf, yi, yb, yt⟩⟩) rfl rfl hM6 (Fld.cs_one _) (by simp only [maxLen]; omega) (by omega) hs6 ?_
                    intro v8 w8 hown8' hg8 hnil8
                    refine hK _ _ ?_
                    clear hK K
                    try simp only [Act.put, List.setIfInBounds_toArray, List.set_cons_zero, List.set_cons_succ]
                    have hgb : ∀ q, (Value.slice (some ⟨g, 0, none⟩) kk cp).ownBlock = some q → q = g := fun q hq => (Option.some.inj (show some g = some q from hq)).symm
                    have hC8 : Has w8 (w.heap.size + 1 + 1) 24 #[.string (S id), .int .i64 cls, .slice (some ⟨g, 0, none⟩) T.length cp] := (hg8.block _ hC6.lt (fun e => by have := hgb _ e.symm; omega)).trans hC6
                    have hD8 : Below (w.heap.size + 2) W0 w8 := hD6.grown hg8 (by omega) (fun q hq => by have := hgb q hq; omega)
                    have hB8 := own_keep hB6 (fun q hq => hg8.block q (hB6.lt q hq).2 (fun e => by have h1 := hgb q e.symm; have h2 := Option.some.inj (show some g7 = some q from hq); omega))
                    have hs8 : w.heap.size + 3 ≤ w8.heap.size := Nat.le_trans hs6 hg8.size
                    have hown8 : w8.ownsRow (w.heap.size + 3) 40 6 v8 (kk + 1) (fl (T.take kk ++ [⟨n, ⟨yk, yf, yi, yb, yt⟩⟩])) := by rw [fl_snoc]; exact hown8'
                    obtain ⟨g8, cp8, rfl⟩ : ∃ g8 cp8, v8 = .slice (some ⟨g8, 0, none⟩) (kk + 1) cp8 := hown8.2.elim (fun h => absurd h.2 (by omega)) (fun ⟨g8, cp8, cur, h8, _⟩ => ⟨g8, cp8, h8⟩)
                    clear hown8' hg8 hnil8 hC6 hD6 hB6 hA6 hM6 hs6 c6 hgb
                    have d2 := hC8.cell 2
                    have f2 := hC8.free 2
                    have hC9 : Has (w8.setCell ⟨w.heap.size + 1 + 1, 2, none⟩ (.slice (some ⟨g8, 0, none⟩) (kk + 1) cp8)) (w.heap.size + 1 + 1) 24 #[.string (S id), .int .i64 cls, (.slice (some ⟨g8, 0, none⟩) (kk + 1) cp8)] := by simpa using hC8.set 2 (.slice (some ⟨g8, 0, none⟩) (kk + 1) cp8)
                    have ho9 := Only.set w8 (w.heap.size + 1 + 1) 2 (.slice (some ⟨g8, 0, none⟩) (kk + 1) cp8)
                    have hD9 := ho9.below hD8 (by omega) (by omega)
                    have hA9 := own_keep hown8 (fun q hq => ho9.block q (hown8.lt q hq).2 (fun e => by injection e with e; have := (hown8.lt q hq).1; omega))
                    have hB9 := own_keep hB8 (fun q hq => ho9.block q (hB8.lt q hq).2 (fun e => by injection e with e; have := (hB8.lt q hq).1; omega))
                    have hs9 := Nat.le_trans hs8 ho9.size
                    have HX := Lib.hid (And.intro hC9 (And.intro hA9 (And.intro hB9 (And.intro hD9 hs9))))
                    clear hC9 hA9 hB9 hD9 hs9 ho9 hC8 hD8 hB8 hs8 hown8
                    (refine grab (i := 7) (v := ?_) rfl rfl (by kernel_rfl) (by kernel_rfl) (by kernel_rfl) (fun _ _ _ h => h) (by rfl) ?_ ?_; rotate_left; (focus (intro w; go_simp; first | done | with_reducible rfl)); (simp only [Act.at, List.setIfInBounds_toArray, List.set_cons_zero, List.set_cons_succ]))
                    refine wpOne (i := 8) (by kernel_rfl) rfl (by rfl) (fun K hK => ?_)
                    go_simp
                    refine hK _ _ ?_
                    clear hK K d2 f2
                    try simp only [Act.put, List.setIfInBounds_toArray, List.set_cons_zero, List.set_cons_succ]
                    refine wpAny_done (by kernel_rfl) ?_ _
                    go_wp2_with fail
                    go_meet
                    exact ⟨g8, cp8, HX.out⟩
              case rest =>
                obtain ⟨g8, cp8, hO8, hown8, hown7', hb8, hs8⟩ := hcut
                have c2 := hO8.cell 2
                have hM9 : ∀ (j : Nat) (u : Value), (fl (T.drop kk))[j]? = some u → wc.cell? ((⟨g7, 0, none⟩ : Addr).add j) = some u := fun j u hu => by
                  have e : (⟨g7, 0, none⟩ : Addr).add j = ⟨g7, j, none⟩ := by rw [Addr.add_mid, Nat.zero_add]
                  have hlt2 : j < (T.length - kk) * 6 := by
                    have := (List.getElem?_eq_some_iff.1 hu).1
                    rw [fl_len, List.length_drop] at this
                    exact this
                  rw [e, hown7'.cellAt j hlt2]
                  exact hu
                have hlen9 : (fl (T.drop kk)).length = (T.length - kk) * 6 := by rw [fl_len, List.length_drop]
                have HB := Lib.hid (And.intro hO8 (And.intro hown8 (And.intro hb8 hs8))); clear hO8 hown8 hown7' hb8
                have HM9 := Lib.hid hM9; clear hM9
                have hgb8 : w.heap.size + 3 ≤ g8 := (HB.out.2.1.lt g8 rfl).1
                go_wp2_with (at_builtin; refine wpList_append_own _ rfl (.tmp 68) (.tmp 69) 22 rfl (w.heap.size + 3) 40 i0 (.agg #[.string ⟨#[]⟩, .int .i64 0, .bool false, .int .i64 0, .int .u64 0, .string ⟨#[]⟩]) 6 64 Try.underlying22 HI.out.1 HI.out.2.1 HI.out.2.2.1 HI.out.2.2.2 rfl (by decide) (.slice (some ⟨g8, 0, none⟩) (kk + 1) cp8) (kk + 1) (fl (T.take kk ++ [⟨n, ⟨yk, yf, yi, yb, yt⟩⟩])) rfl HB.out.2.1 ⟨g7, 0, none⟩ (T.length - kk) c7 (fl (T.drop kk)) rfl hlen9 HM9.out (fl_one _) (by simp only [maxLen]; omega) (by omega) HB.out.2.2.2 ?_; intro v9 w9 hown9 hg9 hnil9; rw [show kk + 1 + (T.length - kk) = T.length + 1 by omega, ← fl_append] at hown9; have hgb : ∀ q, (Value.slice (some ⟨g8, 0, none⟩) (kk + 1) cp8).ownBlock = some q → q = g8 := fun q hq => (Option.some.inj (show some g8 = some q from hq)).symm; have hO9 : Has w9 (w.heap.size + 1 + 1) 24 #[.string (S id), .int .i64 cls, .slice (some ⟨g8, 0, none⟩) (kk + 1) cp8] := (hg9.block _ HB.out.1.lt (fun e => by have := hgb _ e.symm; omega)).trans HB.out.1; have hD9 : Below (w.heap.size + 2) W0 w9 := HB.out.2.2.1.grown hg9 (by have := HB.out.2.2.2; omega) (fun q hq => by have := hgb q hq; omega); have hs9 : w.heap.size + 3 ≤ w9.heap.size := Nat.le_trans HB.out.2.2.2 hg9.size; obtain ⟨g9, cp9, rfl⟩ : ∃ g9 cp9, v9 = .slice (some ⟨g9, 0, none⟩) (T.length + 1) cp9 := hown9.2.elim (fun h => absurd h.2 (by omega)) (fun ⟨g9, cp9, cur, h9, _⟩ => ⟨g9, cp9, h9⟩); have d2 := hO9.cell 2; have f2 := hO9.free 2)
                have hO10 : Has (w9.setCell ⟨w.heap.size + 1 + 1, 2, none⟩ (.slice (some ⟨g9, 0, none⟩) (T.length + 1) cp9)) (w.heap.size + 1 + 1) 24 #[.string (S id), .int .i64 cls, (.slice (some ⟨g9, 0, none⟩) (T.length + 1) cp9)] := by simpa using hO9.set 2 (.slice (some ⟨g9, 0, none⟩) (T.length + 1) cp9)
                have ho10 := Only.set w9 (w.heap.size + 1 + 1) 2 (.slice (some ⟨g9, 0, none⟩) (T.length + 1) cp9)
                have hD10 := ho10.below hD9 (by omega) (by omega)
                have hA10 := own_keep hown9 (fun q hq => ho10.block q (hown9.lt q hq).2 (fun e => by injection e with e; have := (hown9.lt q hq).1; omega))
                have hs10 := Nat.le_trans hs9 ho10.size
                have hTn : T.take kk ++ [⟨n, ⟨yk, yf, yi, yb, yt⟩⟩] ++ T.drop kk = fsort ((L.take (T.length + 1)).map Fld.clean) := by
                  rw [HST.out]
                  show _ = Stab.sort Fld.name _
                  rw [Stab.sort_snoc, show Stab.sort Fld.name ((L.take T.length).map Fld.clean) = T from HT.out.symm, Stab.ins, HPL.out]
                  simp
                have HTN := Lib.hid hTn; clear hTn
                go_roundg (L.length - (T.length + 1))
                case measure => omega
                case rel => exact ⟨T.length + 1, (.slice (some ⟨g9, 0, none⟩) (T.length + 1) cp9), T.take kk ++ [⟨n, ⟨yk, yf, yi, yb, yt⟩⟩] ++ T.drop kk, by omega, by go_num, Nat.le_refl _, by simp only [List.length_append, List.length_take, List.length_drop, List.length_cons, List.length_nil]; omega, HTN, hA10, hO10, hD10, hs10⟩
    · obtain rfl : k = L.length := by omega
      have hTf := HT.out
      rw [List.take_length] at hTf
      have hR6 := hRk
      have hfs : ∃ A' b' cp', v = .slice A' L.length cp' ∧ w.heap.size ≤ b' ∧ b' ≠ w.heap.size + 1 ∧ FSl wr b' A' (fsort (L.map Fld.clean)) := by
        rw [← hTf]
        rcases own_fields hown hTk.symm with ⟨rfl, rfl⟩ | ⟨g, cp, rfl, hgB, hgl, hH⟩
        · have h0 : L.length = 0 := hTk.symm
          rw [h0]
          exact ⟨none, w.heap.size, 0, rfl, Nat.le_refl _, by omega, fun h => absurd rfl h⟩
        · rw [hTk]
          exact ⟨_, g, cp, rfl, by omega, by omega, holds_fsl hH hgl⟩
      obtain ⟨A', b', cp', rfl, hbb, hbn, hfs⟩ := hfs
      have hR0 := hRk.cell 0; have hR1 := hRk.cell 1; have hR2 := hRk.cell 2; have f0 := hRk.free 0; have f1 := hRk.free 1; have f2 := hRk.free 2
      have o0 := hOk.cell 0; have o1 := hOk.cell 1; have o2 := hOk.cell 2
      have hfin : Has (((wr.setCell ⟨w.heap.size + 1, 0, none⟩ (.string (S id))).setCell ⟨w.heap.size + 1, 1, none⟩ (.int .i64 cls)).setCell ⟨w.heap.size + 1, 2, none⟩ (.slice A' L.length cp')) (w.heap.size + 1) 24 #[.string (S id), .int .i64 cls, .slice A' L.length cp'] := by
        have := ((hRk.set 0 (.string (S id))).set 1 (.int .i64 cls)).set 2 (.slice A' L.length cp')
        simpa using this
      have hoo := ((Only.set wr (w.heap.size + 1) 0 (.string (S id))).trans (Only.set _ (w.heap.size + 1) 1 (.int .i64 cls))).trans (Only.set _ (w.heap.size + 1) 2 (.slice A' L.length cp'))
      have hob := hoo.below hbw (by omega) (by omega)
      have hff := hfs.only hoo hbn
      have HFIN := Lib.hid (And.intro hfin (And.intro hob hff)); clear hfin hob hff hoo hbw hRk hR6 hOk hown hTf hfs hbk
      go_wp2_with fail
      exact ret_pap (p := 2) rfl (w.heap.size + 1) _ rfl rfl HFIN.out.1 rfl ⟨A', b', cp', rfl, hbb, HFIN.out.2.2, HFIN.out.2.1⟩
end Go.Proofs.Ytfppobnfajkmmaa
