/-
  The contracts of paper's Find and Check.
-/
import Derived.Test.YtfppobnfajkmmaaFind
import Derived.Test.YtfppobnfajkmmaaPapA
import Derived.Test.YtfppobnfajkmmaaValC
namespace Go.Proofs.Ytfppobnfajkmmaa
open Go.RowKit Go.Lib
set_option linter.unusedVariables false

set_option maxHeartbeats 1000000 in
theorem find_any (id : List UInt8) (cls : Int) (L : List Fld) (name : List UInt8) (b cap : Nat) (A : Option Addr) (w : World) (hF : FSl w b A L) (hL : L.length ≤ 1000000) :
    Calls Try.prog 16 #[.agg #[.string (S id), .int .i64 cls, .slice A L.length cap], .string (S name)] w fun r w' => r = .returned (.int .i64 (Pap.find name L)) ∧ Below w.heap.size w w' := by
  have hX := fun (W : World) (B : Nat) h1 h2 h3 => indexFunc_any L name b B cap A W h1 h2 h3 hL
  generalize Pap.find name L = res at hX ⊢
  have HX := Lib.hid hX; clear hX
  have HF := Lib.hid hF; clear hF
  go_enter Try.func16, Try.ntmps16
  go_wp2_with fail
  refine (HX.out _ _ (HF.out.below (up2 _ _) (Nat.le_refl _)) ((has_new w _ _ _).cell 0) (by simp)).mono ?_
  rintro r w1 ⟨rfl, hb1⟩
  go_wp2_with fail
  go_ret
  exact ⟨rfl, (up2 _ _).trans (hb1.mono (by simp; omega))⟩

theorem Val.clean_ok {x : Val} (h : x.ok) : x.clean.ok := by
  obtain ⟨k, f, i, b, t⟩ := x
  obtain ⟨hb, hi, hk⟩ := h
  unfold Val.clean
  simp only []
  split
  · exact ⟨by simp, by simp, by simp⟩
  · split
    · exact ⟨by simp, hi, by simp⟩
    · split
      · refine ⟨?_, by simp, by simp⟩
        show Val.cbits b < _
        unfold Val.cbits
        simp only [] at hb
        split <;> omega
      · split
        · exact ⟨by simp, by simp, by simp⟩
        · exact ⟨by simp, by simp, hk⟩

namespace Pap
/-- The first fault of the fields. -/
def fieldsE : List Fld → Int
  | [] => 0
  | f :: l => if word 16 f.name = false then 14 else if f.val.clean.right = false then 15 else fieldsE l
def check (id : List UInt8) (cls : Int) (L : List Fld) : Int :=
  if word 24 id = false then 13 else if cls < 0 ∨ 8 ≤ cls then 16 else if L.length = 0 ∨ 12 < L.length then 5 else if fieldsE L ≠ 0 then fieldsE L else if (L.map Fld.name).Nodup then 0 else 10

theorem fieldsE_drop (L : List Fld) (k : Nat) (h : k < L.length) : fieldsE (L.drop k) = if word 16 L[k].name = false then 14 else if L[k].val.clean.right = false then 15 else fieldsE (L.drop (k + 1)) := by
  rw [List.drop_eq_getElem_cons h]
  rfl
theorem find_self {L : List Fld} (hn : (L.map Fld.name).Nodup) (k : Nat) (hk : k < L.length) : find L[k].name L = (k : Int) := by
  refine find_at hk (by simp) (fun t ht => ?_)
  rw [beq_eq_false_iff_ne]
  intro he
  have := (List.pairwise_iff_getElem.1 hn) t k (by simp; omega) (by simpa using hk) ht
  simp only [List.getElem_map] at this
  exact this he
theorem nodup_of {L : List Fld} (h : ∀ k (hk : k < L.length), find L[k].name L = (k : Int)) : (L.map Fld.name).Nodup := by
  unfold List.Nodup
  rw [List.pairwise_iff_getElem]
  intro i j hi hj hij he
  simp only [List.length_map] at hi hj
  simp only [List.getElem_map] at he
  have h1 := h i hi
  have h2 := h j hj
  rw [he] at h1
  omega
end Pap

set_option maxHeartbeats 4000000 in
set_option maxRecDepth 100000 in
theorem check_any (id : List UInt8) (cls : Int) (L : List Fld) (b cap : Nat) (A : Option Addr) (w : World) (hF : FSl w b A L) (hL : L.length ≤ 1000000) (hid : id.length ≤ 1000000)
    (hN : ∀ x ∈ L, x.name.length ≤ 1000000) (hok : ∀ x ∈ L, x.ok) :
    Calls Try.prog 10 #[.agg #[.string (S id), .int .i64 cls, .slice A L.length cap]] w fun r w' => r = .returned (.int .i64 (Pap.check id cls L)) ∧ Below w.heap.size w w' := by
  have hI := fun W => isID_any id hid W
  have hE : Pap.check id cls L = if Pap.word 24 id = false then 13 else if cls < 0 ∨ 8 ≤ cls then 16 else if L.length = 0 ∨ 12 < L.length then 5 else if Pap.fieldsE L ≠ 0 then Pap.fieldsE L else if (L.map Fld.name).Nodup then 0 else 10 := rfl
  generalize Pap.check id cls L = res at hE ⊢
  have HE := Lib.hid hE; clear hE
  have HF := Lib.hid hF; clear hF
  have HN := Lib.hid hN; clear hN
  have HOK := Lib.hid hok; clear hok
  have HL := Lib.hid hL; clear hL hid
  have hu := up1 (w := w) (.cells #[.string (S id), .int .i64 cls, .slice A L.length cap] 24)
  have HU := Lib.hid hu; clear hu
  cases hw : Pap.word 24 id
  · rw [hw] at hI
    have hres : res = 13 := by rw [HE.out, if_pos hw]
    have HI := Lib.hid hI; clear hI hw
    subst hres
    go_enter Try.func10, Try.ntmps10
    go_wp2_with fail
    refine (HI.out _).mono ?_
    rintro r w1 ⟨rfl, rfl⟩
    go_wp2_with fail
    go_ret
    exact ⟨rfl, HU.out⟩
  rw [hw] at hI
  have hE2 := HE.out
  rw [if_neg (by rw [hw]; decide)] at hE2
  have HI := Lib.hid hI; clear hI hw
  by_cases hc : cls < 0 ∨ 8 ≤ cls
  · rw [if_pos hc] at hE2
    subst hE2
    clear HE
    by_cases h0 : cls < 0
    · clear hc
      go_enter Try.func10, Try.ntmps10
      go_wp2_with fail
      refine (HI.out _).mono ?_
      rintro r w1 ⟨rfl, rfl⟩
      go_wp2_with fail
      go_ret
      exact ⟨rfl, HU.out⟩
    · have h8 : 8 ≤ cls := by omega
      clear hc
      go_enter Try.func10, Try.ntmps10
      go_wp2_with fail
      refine (HI.out _).mono ?_
      rintro r w1 ⟨rfl, rfl⟩
      go_wp2_with fail
      go_ret
      exact ⟨rfl, HU.out⟩
  rw [if_neg hc] at hE2
  have hc1 : ¬ cls < 0 := by omega
  have hc2 : ¬ 8 ≤ cls := by omega
  clear hc
  by_cases hn : L.length = 0 ∨ 12 < L.length
  · rw [if_pos hn] at hE2
    subst hE2
    clear HE
    by_cases h0 : L.length = 0
    · have h0' : ((L.length : Int) == 0) = true := by simpa using h0
      clear hn h0
      go_enter Try.func10, Try.ntmps10
      go_wp2_with fail
      refine (HI.out _).mono ?_
      rintro r w1 ⟨rfl, rfl⟩
      go_wp2_with fail
      go_ret
      exact ⟨rfl, HU.out⟩
    · have h0' : ((L.length : Int) == 0) = false := by simpa using h0
      have h12 : (12 : Int) < (L.length : Int) := by omega
      clear hn h0
      go_enter Try.func10, Try.ntmps10
      go_wp2_with fail
      refine (HI.out _).mono ?_
      rintro r w1 ⟨rfl, rfl⟩
      go_wp2_with fail
      go_ret
      exact ⟨rfl, HU.out⟩
  rw [if_neg hn] at hE2
  have h0' : ((L.length : Int) == 0) = false := by simpa using (show ¬ L.length = 0 by omega)
  have h12 : ¬ (12 : Int) < (L.length : Int) := by omega
  have HN12 := Lib.hid hn; clear hn
  clear HE
  have HE := Lib.hid hE2; clear hE2
  go_enter Try.func10, Try.ntmps10
  go_wp2_with fail
  refine (HI.out _).mono ?_
  rintro r w1 ⟨rfl, rfl⟩
  have hH0 := Has.made w 24 #[.string (S id), .int .i64 cls, .slice A L.length cap]
  have hcells : ∀ W, Below (w.heap.size + 1) (w.alloc (.cells #[.string (S id), .int .i64 cls, .slice A L.length cap] 24)) W → W.cell? ⟨w.heap.size, 0, none⟩ = some (.string (S id)) ∧ W.cell? ⟨w.heap.size, 1, none⟩ = some (.int .i64 cls) ∧ W.cell? ⟨w.heap.size, 2, none⟩ = some (.slice A L.length cap) := fun W hW =>
    have h := hH0.below hW (by omega)
    ⟨h.cell 0, h.cell 1, h.cell 2⟩
  have HC := Lib.hid hcells; clear hcells hH0
  have hb0 : Below (w.heap.size + 1) (w.alloc (.cells #[.string (S id), .int .i64 cls, .slice A L.length cap] 24)) (w.alloc (.cells #[.string (S id), .int .i64 cls, .slice A L.length cap] 24)) := Below.refl _ _
  have hsz0 : (w.alloc (.cells #[.string (S id), .int .i64 cls, .slice A L.length cap] 24)).heap.size = w.heap.size + 1 := by simp
  have HF0 : Hid (∀ W, Below (w.heap.size + 1) (w.alloc (.cells #[.string (S id), .int .i64 cls, .slice A L.length cap] 24)) W → FSl W b A L ∧ Below w.heap.size w W) := fun W hW =>
    ⟨(HF.out.below HU.out (Nat.le_refl _)).below hW (by rw [hsz0]; exact Nat.le_refl _), HU.out.trans (hW.mono (by omega))⟩
  clear HU HF
  generalize (w.alloc (.cells #[.string (S id), .int .i64 cls, .slice A L.length cap] 24)) = W0 at HC hb0 hsz0 HF0 ⊢
  obtain ⟨c0, c1, c2⟩ := HC.out W0 hb0
  go_wp2_with fail
  clear c0 c1 c2
  go_loopg [35] L.length (fun g1 v35 wr => ∃ k : Nat, k ≤ L.length ∧ v35 = .int .i64 (k : Int) ∧ L.length - k ≤ g1 ∧ Pap.fieldsE (L.drop k) = Pap.fieldsE L ∧ Below (w.heap.size + 1) W0 wr)
  case atStart => exact ⟨0, Nat.zero_le _, rfl, by omega, rfl, hb0⟩
  case round =>
    obtain ⟨k, hk, rfl, hg, hall, hbk⟩ := hrel
    have HALL := Lib.hid hall; clear hall
    have hwsz : w.heap.size + 1 ≤ wr.heap.size := by have := hbk.size; omega
    by_cases hlt : k < L.length
    · have hki : (k : Int) < (L.length : Int) := by omega
      obtain ⟨off, hA, hbl, hfat⟩ := (HF0.out wr hbk).1 (by intro hc; rw [hc] at hlt; cases hlt)
      subst hA
      have hfk := hfat k hlt
      clear hfat
      have hst := Pap.fieldsE_drop L k hlt
      have hNm := HN.out L[k] (List.getElem_mem hlt)
      have hOk := HOK.out L[k] (List.getElem_mem hlt)
      rw [HALL.out] at hst
      generalize L[k] = x at hfk hst hNm hOk
      obtain ⟨n, x⟩ := x
      obtain ⟨c0, c1, c2, c3, c4, c5⟩ := hfk
      dsimp only at c0 c1 c2 c3 c4 c5 hst hNm
      have hX := fun W => isName_any n hNm W
      have hC := fun W => clean_any x hOk W
      have hR := fun W => right_any x.clean (Val.clean_ok hOk) W
      obtain ⟨vk, vf, vi, vb, vt⟩ := x
      rw [Val.v_eq] at hC
      dsimp only at c1 c2 c3 c4 c5
      generalize Val.clean ⟨vk, vf, vi, vb, vt⟩ = y at hC hR hst
      have HCL := Lib.hid hC; clear hC
      have HST := Lib.hid hst; clear hst hNm hOk
      have hba := fun o : Obj => hbk.trans (((Below.refl (w.heap.size + 1) wr).alloc hwsz o))
      have HBA := Lib.hid hba; clear hba
      cases hw : Pap.word 16 n
      · rw [hw] at hX
        have HX := Lib.hid hX; clear hX hR
        have HW := Lib.hid hw; clear hw
        go_wp2_with fail
        refine (HX.out _).mono ?_
        rintro r w1 ⟨rfl, rfl⟩
        go_wp2_with fail
        go_ret
        refine ⟨ret_int ?_, (HF0.out _ (HBA.out _)).2⟩
        have h14 : Pap.fieldsE L = 14 := by rw [HST.out, if_pos HW.out]
        rw [HE.out, h14, if_pos (by decide)]
      · rw [hw] at hX
        have HX := Lib.hid hX; clear hX
        have HW := Lib.hid hw; clear hw
        cases hr : y.right
        · rw [hr] at hR
          have HR := Lib.hid hR; clear hR
          have HRR := Lib.hid hr; clear hr
          go_wp2_with fail
          refine (HX.out _).mono ?_
          rintro r w1 ⟨rfl, rfl⟩
          go_wp2_with fail
          refine (HCL.out _).mono ?_
          rintro r w2 ⟨rfl, hb2⟩
          have hbx := (HBA.out _).trans (hb2.mono (by simp; omega))
          go_wp2_with fail
          refine (HR.out _).mono ?_
          rintro r w3 ⟨rfl, hb3⟩
          have hby := hbx.trans (hb3.mono (by have := hbx.size; omega))
          clear hb2 hb3
          go_wp2_with fail
          go_ret
          refine ⟨ret_int ?_, (HF0.out _ hby).2⟩
          have h15 : Pap.fieldsE L = 15 := by rw [HST.out, if_neg (by rw [HW.out]; decide), if_pos HRR.out]
          rw [HE.out, h15, if_pos (by decide)]
        · rw [hr] at hR
          have HR := Lib.hid hR; clear hR
          have HRR := Lib.hid hr; clear hr
          go_wp2_with fail
          refine (HX.out _).mono ?_
          rintro r w1 ⟨rfl, rfl⟩
          go_wp2_with fail
          refine (HCL.out _).mono ?_
          rintro r w2 ⟨rfl, hb2⟩
          have hbx := (HBA.out _).trans (hb2.mono (by simp; omega))
          go_wp2_with fail
          refine (HR.out _).mono ?_
          rintro r w3 ⟨rfl, hb3⟩
          have hby := hbx.trans (hb3.mono (by have := hbx.size; omega))
          clear hb2 hb3
          go_wp2_with fail
          go_roundg (L.length - (k + 1))
          case measure => omega
          case rel => exact ⟨k + 1, by omega, by go_num, Nat.le_refl _, by rw [HST.out, if_neg (by rw [HW.out]; decide), if_neg (by rw [HRR.out]; decide)], hby⟩
    · obtain rfl : k = L.length := by omega
      have hz : Pap.fieldsE L = 0 := by rw [← HALL.out, List.drop_length]; rfl
      have HE0 := HE.out
      rw [hz, if_neg (by decide)] at HE0
      have HE1 := Lib.hid HE0; clear HE0 hz HALL HE
      obtain ⟨c0, c1, c2⟩ := HC.out wr hbk
      go_wp2_with fail
      clear c0 c1 c2
      go_loopg [52] L.length (fun g1 v52 wr => ∃ k : Nat, k ≤ L.length ∧ v52 = .int .i64 (k : Int) ∧ L.length - k ≤ g1 ∧ (∀ t (ht : t < k) (hl : t < L.length), Pap.find L[t].name L = (t : Int)) ∧ Below (w.heap.size + 1) W0 wr)
      case atStart => exact ⟨0, Nat.zero_le _, rfl, by omega, fun t h => absurd h (by omega), hbk⟩
      case round =>
        obtain ⟨k, hk2, rfl, hg2, hall, hbk2⟩ := hrel
        have HALL := Lib.hid hall; clear hall
        have hwsz2 : w.heap.size + 1 ≤ wr.heap.size := by have := hbk2.size; omega
        have hglt : w.heap.size < wr.heap.size := by omega
        by_cases hlt : k < L.length
        · have hki : (k : Int) < (L.length : Int) := by omega
          obtain ⟨off, hA, hbl, hfat⟩ := (HF0.out wr hbk2).1 (by intro hc; rw [hc] at hlt; cases hlt)
          have hfk := hfat k hlt
          clear hfat
          have hba := fun o : Obj => hbk2.trans (((Below.refl (w.heap.size + 1) wr).alloc hwsz2 o))
          have HBA := Lib.hid hba; clear hba
          have hX := fun W hW => find_any id cls L L[k].name b cap A W (HF0.out W hW).1 HL.out
          have hnd : (L.map Fld.name).Nodup → Pap.find L[k].name L = (k : Int) := fun h => Pap.find_self h k hlt
          have hal2 : Pap.find L[k].name L = (k : Int) → ∀ t (ht : t < k + 1) (hl : t < L.length), Pap.find L[t].name L = (t : Int) := fun he t ht hl => by
            by_cases e : t = k
            · subst e; exact he
            · exact HALL.out t (by omega) hl
          have HND := Lib.hid hnd; clear hnd
          have HAL2 := Lib.hid hal2; clear hal2
          generalize Pap.find L[k].name L = fk at hX HND HAL2
          generalize L[k] = x at hfk hX
          subst hA
          obtain ⟨n, x⟩ := x
          obtain ⟨c0, c1, c2, c3, c4, c5⟩ := hfk
          obtain ⟨p0, p1, p2⟩ := HC.out wr hbk2
          dsimp only at c0 c1 c2 c3 c4 c5 hX
          have HX := Lib.hid hX; clear hX
          by_cases hf : fk = (k : Int)
          · have hfb : (fk != (k : Int)) = false := by simpa using hf
            have HFK := Lib.hid hf; clear hf
            go_wp2_with fail
            refine (HX.out _ (HBA.out _)).mono ?_
            rintro r w2 ⟨rfl, hb2⟩
            have hbx := (HBA.out _).trans (hb2.mono (by simp; omega))
            clear hb2 c0 c1 c2 c3 c4 c5 p0 p1 p2
            go_wp2_with fail
            go_roundg (L.length - (k + 1))
            case measure => omega
            case rel => exact ⟨k + 1, by omega, by go_num, Nat.le_refl _, HAL2.out HFK.out, hbx⟩
          · have hfb : (fk != (k : Int)) = true := by simpa using hf
            have HFK := Lib.hid hf; clear hf
            go_wp2_with fail
            refine (HX.out _ (HBA.out _)).mono ?_
            rintro r w2 ⟨rfl, hb2⟩
            have hbx := (HBA.out _).trans (hb2.mono (by simp; omega))
            clear hb2 c0 c1 c2 c3 c4 c5 p0 p1 p2
            go_wp2_with fail
            go_ret
            refine ⟨ret_int ?_, (HF0.out _ hbx).2⟩
            rw [HE1.out, if_neg (fun h => HFK.out (HND.out h))]
        · obtain rfl : k = L.length := by omega
          go_wp2_with fail
          go_ret
          refine ⟨ret_int ?_, (HF0.out _ hbk2).2⟩
          rw [HE1.out, if_pos (Pap.nodup_of (fun t ht => HALL.out t ht ht))]
end Go.Proofs.Ytfppobnfajkmmaa
