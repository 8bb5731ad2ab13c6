/-
  The contract of the statements' own check.
-/
import Derived.Test.YtfppobnfajkmmaaPapB
import Derived.Deep.QuietTactic
import Derived.BigQuiet
namespace Go.Proofs.Ytfppobnfajkmmaa
open Go.RowKit Go.Lib
set_option linter.unusedVariables false

theorem nodup_pairs {L : List Fld} (h : ∀ i k (hi : i < L.length) (hk : k < i), (L[i].name == (L[k]'(by omega)).name) = false) : (L.map Fld.name).Nodup := by
  unfold List.Nodup
  rw [List.pairwise_iff_getElem]
  intro i j hi hj hij he
  simp only [List.length_map] at hi hj
  simp only [List.getElem_map] at he
  have := h j i hj hij
  rw [he] at this
  simp at this
theorem not_nodup {L : List Fld} {i k : Nat} (hi : i < L.length) (hk : k < i) (h : (L[i].name == (L[k]'(by omega)).name) = true) : ¬ (L.map Fld.name).Nodup := by
  intro hn
  have := (List.pairwise_iff_getElem.1 hn) k i (by simp; omega) (by simpa using hi) hk
  simp only [List.getElem_map] at this
  exact this (by simpa using (beq_iff_eq.1 h).symm)

set_option maxHeartbeats 4000000 in
set_option maxRecDepth 100000 in
theorem lcheck_any (id : List UInt8) (cls : Int) (L : List Fld) (b cap : Nat) (A : Option Addr) (w : World) (hF : FSl w b A L) (hL : L.length ≤ 1000000) (hid : id.length ≤ 1000000)
    (hN : ∀ x ∈ L, x.name.length ≤ 1000000) (hok : ∀ x ∈ L, x.ok) :
    Calls Try.prog 11 #[.agg #[.string (S id), .int .i64 cls, .slice A L.length cap]] w fun r w' => r = .returned (.int .i64 (Pap.check id cls L)) ∧ Below w.heap.size w w' := by
  have hI := fun W => lword_any id hid 24 W
  have hE : Pap.check id cls L = if Pap.word 24 id = false then 13 else if cls < 0 ∨ 8 ≤ cls then 16 else if L.length = 0 ∨ 12 < L.length then 5 else if Pap.fieldsE L ≠ 0 then Pap.fieldsE L else if (L.map Fld.name).Nodup then 0 else 10 := rfl
  generalize Pap.check id cls L = res at hE ⊢
  have HE := Lib.hid hE; clear hE
  have HF := Lib.hid hF; clear hF
  have HN := Lib.hid hN; clear hN
  have HOK := Lib.hid hok; clear hok
  have HL := Lib.hid hL; clear hL hid
  have hu := up1 (w := w) (.cells #[.string (S id), .int .i64 cls, .slice A L.length cap] 24)
  have HU := Lib.hid hu; clear hu
  cases hw : Pap.word 24 id
  · rw [hw] at hI
    have hres : res = 13 := by rw [HE.out, if_pos hw]
    have HI := Lib.hid hI; clear hI hw
    subst hres
    go_enter Try.func11, Try.ntmps11
    go_wp2_with fail
    refine (HI.out _).mono ?_
    rintro r w1 ⟨rfl, rfl⟩
    go_wp2_with fail
    go_ret
    exact ⟨rfl, HU.out⟩
  rw [hw] at hI
  have hE2 := HE.out
  rw [if_neg (by rw [hw]; decide)] at hE2
  have HI := Lib.hid hI; clear hI hw
  by_cases hc : cls < 0 ∨ 8 ≤ cls
  · rw [if_pos hc] at hE2
    subst hE2
    clear HE
    by_cases h0 : cls < 0
    · clear hc
      go_enter Try.func11, Try.ntmps11
      go_wp2_with fail
      refine (HI.out _).mono ?_
      rintro r w1 ⟨rfl, rfl⟩
      go_wp2_with fail
      go_ret
      exact ⟨rfl, HU.out⟩
    · have h8 : 7 < cls := by omega
      clear hc
      go_enter Try.func11, Try.ntmps11
      go_wp2_with fail
      refine (HI.out _).mono ?_
      rintro r w1 ⟨rfl, rfl⟩
      go_wp2_with fail
      go_ret
      exact ⟨rfl, HU.out⟩
  rw [if_neg hc] at hE2
  have hc1 : ¬ cls < 0 := by omega
  have hc2 : ¬ 7 < cls := by omega
  clear hc
  by_cases hn : L.length = 0 ∨ 12 < L.length
  · rw [if_pos hn] at hE2
    subst hE2
    clear HE
    by_cases h0 : L.length = 0
    · have h0' : (L.length : Int) < 1 := by omega
      clear hn h0
      go_enter Try.func11, Try.ntmps11
      go_wp2_with fail
      refine (HI.out _).mono ?_
      rintro r w1 ⟨rfl, rfl⟩
      go_wp2_with fail
      go_ret
      exact ⟨rfl, HU.out⟩
    · have h0' : ¬ (L.length : Int) < 1 := by omega
      have h12 : (12 : Int) < (L.length : Int) := by omega
      clear hn h0
      go_enter Try.func11, Try.ntmps11
      go_wp2_with fail
      refine (HI.out _).mono ?_
      rintro r w1 ⟨rfl, rfl⟩
      go_wp2_with fail
      go_ret
      exact ⟨rfl, HU.out⟩
  rw [if_neg hn] at hE2
  have h0' : ¬ (L.length : Int) < 1 := by omega
  have h12 : ¬ (12 : Int) < (L.length : Int) := by omega
  have HN12 := Lib.hid hn; clear hn
  clear HE
  have HE := Lib.hid hE2; clear hE2
  go_enter Try.func11, Try.ntmps11
  go_wp2_with fail
  refine (HI.out _).mono ?_
  rintro r w1 ⟨rfl, rfl⟩
  have hH0 := Has.made w 24 #[.string (S id), .int .i64 cls, .slice A L.length cap]
  have hcells : ∀ W, Below (w.heap.size + 1) (w.alloc (.cells #[.string (S id), .int .i64 cls, .slice A L.length cap] 24)) W → W.cell? ⟨w.heap.size, 0, none⟩ = some (.string (S id)) ∧ W.cell? ⟨w.heap.size, 1, none⟩ = some (.int .i64 cls) ∧ W.cell? ⟨w.heap.size, 2, none⟩ = some (.slice A L.length cap) := fun W hW =>
    have h := hH0.below hW (by omega)
    ⟨h.cell 0, h.cell 1, h.cell 2⟩
  have HC := Lib.hid hcells; clear hcells hH0
  have hb0 : Below (w.heap.size + 1) (w.alloc (.cells #[.string (S id), .int .i64 cls, .slice A L.length cap] 24)) (w.alloc (.cells #[.string (S id), .int .i64 cls, .slice A L.length cap] 24)) := Below.refl _ _
  have hsz0 : (w.alloc (.cells #[.string (S id), .int .i64 cls, .slice A L.length cap] 24)).heap.size = w.heap.size + 1 := by simp
  have HF0 : Hid (∀ W, Below (w.heap.size + 1) (w.alloc (.cells #[.string (S id), .int .i64 cls, .slice A L.length cap] 24)) W → FSl W b A L ∧ Below w.heap.size w W) := fun W hW =>
    ⟨(HF.out.below HU.out (Nat.le_refl _)).below hW (by rw [hsz0]; exact Nat.le_refl _), HU.out.trans (hW.mono (by omega))⟩
  clear HU HF
  generalize (w.alloc (.cells #[.string (S id), .int .i64 cls, .slice A L.length cap] 24)) = W0 at HC hb0 hsz0 HF0 ⊢
  obtain ⟨c0, c1, c2⟩ := HC.out W0 hb0
  go_wp2_with fail
  clear c0 c1 c2
  go_loopg [3] L.length (fun g1 v3 wr => ∃ k : Nat, k ≤ L.length ∧ v3 = .int .i64 (k : Int) ∧ L.length - k ≤ g1 ∧ Pap.fieldsE (L.drop k) = Pap.fieldsE L ∧ Below (w.heap.size + 1) W0 wr)
  case atStart => exact ⟨0, Nat.zero_le _, rfl, by omega, rfl, hb0⟩
  case round =>
    obtain ⟨k, hk, rfl, hg, hall, hbk⟩ := hrel
    have HALL := Lib.hid hall; clear hall
    have hwsz : w.heap.size + 1 ≤ wr.heap.size := by have := hbk.size; omega
    by_cases hlt : k < L.length
    · have hki : (k : Int) < (L.length : Int) := by omega
      obtain ⟨p0, p1, p2⟩ := HC.out wr hbk
      obtain ⟨off, hA, hbl, hfat⟩ := (HF0.out wr hbk).1 (by intro hc; rw [hc] at hlt; cases hlt)
      subst hA
      have hfk := hfat k hlt
      clear hfat
      have hst := Pap.fieldsE_drop L k hlt
      have hNm := HN.out L[k] (List.getElem_mem hlt)
      have hOk := HOK.out L[k] (List.getElem_mem hlt)
      rw [HALL.out] at hst
      generalize L[k] = x at hfk hst hNm hOk
      obtain ⟨n, x⟩ := x
      obtain ⟨c0, c1, c2, c3, c4, c5⟩ := hfk
      dsimp only at c0 c1 c2 c3 c4 c5 hst hNm
      have hX := fun W => lword_any n hNm 16 W
      have hC := fun W => clean_any x hOk W
      have hR := fun W => right_any x.clean (Val.clean_ok hOk) W
      obtain ⟨vk, vf, vi, vb, vt⟩ := x
      rw [Val.v_eq] at hC
      dsimp only at c1 c2 c3 c4 c5
      generalize Val.clean ⟨vk, vf, vi, vb, vt⟩ = y at hC hR hst
      have HCL := Lib.hid hC; clear hC
      have HST := Lib.hid hst; clear hst hNm hOk
      cases hw : Pap.word 16 n
      · rw [hw] at hX
        have HX := Lib.hid hX; clear hX hR
        have HW := Lib.hid hw; clear hw
        go_wp2_with fail
        refine (HX.out _).mono ?_
        rintro r w1 ⟨rfl, rfl⟩
        go_wp2_with fail
        go_ret
        refine ⟨ret_int ?_, (HF0.out _ hbk).2⟩
        have h14 : Pap.fieldsE L = 14 := by rw [HST.out, if_pos HW.out]
        rw [HE.out, h14, if_pos (by decide)]
      · rw [hw] at hX
        have HX := Lib.hid hX; clear hX
        have HW := Lib.hid hw; clear hw
        cases hr : y.right
        all_goals
          rw [hr] at hR
          have HR := Lib.hid hR; clear hR
          have HRR := Lib.hid hr; clear hr
          go_wp2_with fail
          refine (HX.out _).mono ?_
          rintro r w1 ⟨rfl, rfl⟩
          go_wp2_with fail
          refine (HCL.out _).mono ?_
          rintro r w2 ⟨rfl, hb2⟩
          have hbx := hbk.trans (hb2.mono hwsz)
          go_wp2_with fail
          refine (HR.out _).mono ?_
          rintro r w3 ⟨rfl, hb3⟩
          have hby := hbx.trans (hb3.mono (by have := hbx.size; omega))
          clear hb2 hb3 c0 c1 c2 c3 c4 c5 p0 p1 p2
          go_wp2_with fail
        · go_ret
          refine ⟨ret_int ?_, (HF0.out _ hby).2⟩
          have h15 : Pap.fieldsE L = 15 := by rw [HST.out, if_neg (by rw [HW.out]; decide), if_pos HRR.out]
          rw [HE.out, h15, if_pos (by decide)]
        · go_roundg (L.length - (k + 1))
          case measure => omega
          case rel => exact ⟨k + 1, by omega, by go_num, Nat.le_refl _, by rw [HST.out, if_neg (by rw [HW.out]; decide), if_neg (by rw [HRR.out]; decide)], hby⟩
    · obtain rfl : k = L.length := by omega
      have hz : Pap.fieldsE L = 0 := by rw [← HALL.out, List.drop_length]; rfl
      have HE0 := HE.out
      rw [hz, if_neg (by decide)] at HE0
      have HE1 := Lib.hid HE0; clear HE0 hz HALL HE
      obtain ⟨c0, c1, c2⟩ := HC.out wr hbk
      go_wp2_with fail
      clear c0 c1 c2
      generalize wr = wo at hbk ⊢
      go_loopg [4] L.length (fun g1 v4 wr => ∃ i : Nat, i ≤ L.length ∧ v4 = .int .i64 (i : Int) ∧ L.length - i ≤ g1 ∧ Hid (∀ i' k (hi : i' < L.length) (hk : k < i'), i' < i → (L[i'].name == (L[k]'(by omega)).name) = false) ∧ Below (w.heap.size + 1) W0 wr)
      case atStart => exact ⟨0, Nat.zero_le _, rfl, by omega, (fun i' k hi hk h => absurd h (by omega)), hbk⟩
      case round =>
        obtain ⟨i, hi2, rfl, hg2, HALL, hbk2⟩ := hrel
        by_cases hlt : i < L.length
        · have hki : (i : Int) < (L.length : Int) := by omega
          obtain ⟨p0, p1, p2⟩ := HC.out wr hbk2
          go_wp2_with fail
          clear p0 p1 p2
          generalize wr = wq at hbk2 ⊢
          go_loopg [5] i (fun g2 v5 wr => ∃ k : Nat, k ≤ i ∧ v5 = .int .i64 (k : Int) ∧ i - k ≤ g2 ∧ Hid (∀ k' (hk : k' < i), k' < k → (L[i].name == (L[k']'(by omega)).name) = false) ∧ Below (w.heap.size + 1) W0 wr)
          case atStart => exact ⟨0, Nat.zero_le _, rfl, by omega, (fun k' hk h => absurd h (by omega)), hbk2⟩
          case round =>
            obtain ⟨k, hk3, rfl, hg3, HALL3, hbk3⟩ := hrel
            by_cases hlk : k < i
            · have hki3 : (k : Int) < (i : Int) := by omega
              have hki4 : (k : Int) < (L.length : Int) := by omega
              obtain ⟨p0, p1, p2⟩ := HC.out wr hbk3
              obtain ⟨off, hA, hbl, hfat⟩ := (HF0.out wr hbk3).1 (by intro hc; rw [hc] at hlt; cases hlt)
              obtain ⟨c0, -⟩ := hfat i hlt
              obtain ⟨d0, -⟩ := hfat k (by omega)
              clear hfat
              subst hA
              have hno : (L[i].name == (L[k]'(by omega)).name) = true → ¬ (L.map Fld.name).Nodup := fun h => not_nodup hlt hlk h
              have hal3 : (L[i].name == (L[k]'(by omega)).name) = false → Hid (∀ k' (hk : k' < i), k' < k + 1 → (L[i].name == (L[k']'(by omega)).name) = false) := fun he k' hk h => by
                by_cases e : k' = k
                · subst e; exact he
                · exact HALL3.out k' hk (by omega)
              have HNO := Lib.hid hno; clear hno
              have HAL3 := Lib.hid hal3; clear hal3
              obtain ⟨n1, hn1⟩ : ∃ x, x = L[i].name := ⟨_, rfl⟩
              obtain ⟨n2, hn2⟩ : ∃ x, x = (L[k]'(by omega)).name := ⟨_, rfl⟩
              rw [← hn1] at c0
              rw [← hn2] at d0
              have HNN := Lib.hid (And.intro hn1 hn2); clear hn1 hn2
              cases he : n1 == n2
              · have HQ := Lib.hid (HAL3.out (by rw [← HNN.out.1, ← HNN.out.2]; exact he))
                go_wp2_with fail
                go_quiet (fail)
                clear c0 d0 p0 p1 p2
                go_wp2_with fail
                go_roundg (i - (k + 1))
                case measure => omega
                case rel => exact ⟨k + 1, by omega, by go_num, Nat.le_refl _, HQ.out, below_drewN hbk3 _⟩
              · have HQ := Lib.hid (HNO.out (by rw [← HNN.out.1, ← HNN.out.2]; exact he))
                go_wp2_with fail
                go_quiet (fail)
                clear c0 d0 p0 p1 p2
                go_wp2_with fail
                go_ret
                refine ⟨ret_int ?_, (HF0.out _ (below_drewN hbk3 _)).2⟩
                rw [HE1.out, if_neg HQ.out]
            · obtain rfl : k = i := by omega
              go_wp2_with fail
              go_roundg (L.length - (k + 1))
              case measure => omega
              case rel => exact ⟨k + 1, by omega, by go_num, Nat.le_refl _, (fun i' k' hi hk h => by
                by_cases e : i' = k
                · subst e; exact HALL3.out k' hk hk
                · exact HALL.out i' k' hi hk (by omega)), hbk3⟩
        · obtain rfl : i = L.length := by omega
          obtain ⟨p0, p1, p2⟩ := HC.out wr hbk2
          go_wp2_with fail
          go_ret
          refine ⟨ret_int ?_, (HF0.out _ hbk2).2⟩
          rw [HE1.out, if_pos (nodup_pairs (fun i k hi hk => HALL.out i k hi hk hi))]
end Go.Proofs.Ytfppobnfajkmmaa
