/-
  The contract of the statements' own bytes.
-/
import Derived.Test.YtfppobnfajkmmaaPapPure
import Derived.Test.YtfppobnfajkmmaaFind
import Derived.Test.YtfppobnfajkmmaaLawNum
import Derived.Deep.QuietTactic
import Derived.BigQuiet
import Derived.Deep.RegionHeld3
namespace Go.Proofs.Ytfppobnfajkmmaa
open Go.RowKit Go.Lib
set_option linter.unusedVariables false

namespace Pap
/-- The head and so many fields. -/
def sofar (id : List UInt8) (cls : Int) (n : Nat) (T : List Fld) : List UInt8 := (M.encL id.length ++ id) ++ M.encL cls ++ M.encL n ++ encF T
theorem sofar_nil (id : List UInt8) (cls : Int) (n : Nat) : sofar id cls n [] = (M.encL id.length ++ id) ++ M.encL cls ++ M.encL n := by
  unfold sofar
  have : encF [] = [] := rfl
  rw [this, List.append_nil]
theorem sofar_snoc (id : List UInt8) (cls : Int) (n : Nat) (T : List Fld) (f : Fld) : sofar id cls n (T ++ [f]) = sofar id cls n T ++ (M.encL f.name.length ++ f.name) ++ (M.encL f.val.enc.length ++ f.val.enc) := by
  unfold sofar
  have : encF (T ++ [f]) = encF T ++ ((M.encL f.name.length ++ f.name) ++ (M.encL f.val.enc.length ++ f.val.enc)) := by simp [encF]
  rw [this]
  simp only [List.append_assoc]
theorem sofar_all (id : List UInt8) (cls : Int) (T : List Fld) : sofar id cls T.length T = enc id cls T := by
  unfold sofar
  rw [enc_eq]
end Pap
abbrev PLies (g : Nat) (id : List UInt8) (cls : Int) (A : Option Addr) (n cap : Nat) (W : World) : Prop :=
  W.cell? ⟨g, 0, none⟩ = some (.string (S id)) ∧ W.cell? ⟨g, 1, none⟩ = some (.int .i64 cls) ∧ W.cell? ⟨g, 2, none⟩ = some (.slice A n cap)
abbrev ELies (g b o : Nat) (A : Option Addr) (m cap : Nat) (n : List UInt8) (k : Int) (f : Bool) (i : Int) (bb : Nat) (t : List UInt8) (W : World) : Prop :=
  W.cell? ⟨g, 2, none⟩ = some (.slice A m cap) ∧ W.cell? ⟨b, o, none⟩ = some (.string (S n)) ∧ W.cell? ⟨b, o + 1, none⟩ = some (.int .i64 k) ∧ W.cell? ⟨b, o + 2, none⟩ = some (.bool f) ∧
  W.cell? ⟨b, o + 3, none⟩ = some (.int .i64 i) ∧ W.cell? ⟨b, o + 4, none⟩ = some (.int .u64 (bb : Int)) ∧ W.cell? ⟨b, o + 5, none⟩ = some (.string (S t))

set_option maxHeartbeats 4000000 in
set_option maxRecDepth 100000 in
theorem lpbytes_any (id : List UInt8) (cls : Int) (T : List Fld) (hid : id.length ≤ 1000) (hT : T.length ≤ 1000) (hg : ∀ f ∈ T, Pap.good f) (b cap : Nat) (A : Option Addr) (w : World) (hF : FSl w b A T) :
    Calls Try.prog 15 #[.agg #[.string (S id), .int .i64 cls, .slice A T.length cap]] w fun r w' => r = .returned (.string (S (Pap.enc id cls T))) ∧ Below w.heap.size w w' := by
  have hN := fun n W => num_any n W
  have hX := fun (l : List UInt8) (hl : l.length ≤ 1000) W => text_any l W (by omega)
  have h8 := M.encL_len
  have hs0 := Pap.sofar_nil id cls T.length
  have hsn := Pap.sofar_snoc id cls T.length
  have hsa := Pap.sofar_all id cls T
  generalize Pap.enc id cls T = en at hsa ⊢
  generalize Pap.sofar id cls T.length = sf at hs0 hsn hsa
  generalize M.encL = F at hN hX h8 hs0 hsn
  have HN := Lib.hid hN; clear hN
  have HX := Lib.hid hX; clear hX
  have HS := Lib.hid (And.intro hs0 (And.intro hsn hsa)); clear hs0 hsn hsa
  have HG := Lib.hid hg; clear hg
  have h8a := h8 id.length
  have h8b := h8 cls
  have h8c := h8 (T.length : Int)
  have H8 := Lib.hid h8; clear h8
  have hH0 := Has.made w 24 #[.string (S id), .int .i64 cls, .slice A T.length cap]
  have hb0 := up1 (w := w) (.cells #[.string (S id), .int .i64 cls, .slice A T.length cap] 24)
  have hF0 := hF.below hb0 (Nat.le_refl _)
  have hsz0 : (w.alloc (.cells #[.string (S id), .int .i64 cls, .slice A T.length cap] 24)).heap.size = w.heap.size + 1 := by simp
  clear hF
  go_enter Try.func15, Try.ntmps15
  go_upto_region 1 with (fail)
  generalize (w.alloc (.cells #[.string (S id), .int .i64 cls, .slice A T.length cap] 24)) = W0 at hH0 hb0 hF0 hsz0 ⊢
  have HB0 : Hid (∀ W, Below (w.heap.size + 1) W0 W → Has W w.heap.size 24 #[.string (S id), .int .i64 cls, .slice A T.length cap] ∧ Below w.heap.size w W ∧ FSl W b A T ∧ w.heap.size + 1 ≤ W.heap.size) := fun W hW =>
    ⟨hH0.below hW (by omega), hb0.trans (hW.mono (by omega)), hF0.below hW (by omega), by have := hW.size; omega⟩
  have hbk : Below (w.heap.size + 1) W0 W0.drew := (Below.refl _ _).drew
  have hx : PLies w.heap.size id cls A T.length cap W0.drew := ⟨(HB0.out _ hbk).1.cell 0, (HB0.out _ hbk).1.cell 1, (HB0.out _ hbk).1.cell 2⟩
  have HBK := Lib.hid hbk; clear hbk hH0 hb0 hF0 hsz0
  have hl1 : ¬ 9223372036854775807 < (F id.length).length + id.length + (F cls).length := by omega
  have hl2 : ¬ 9223372036854775807 < (F id.length).length + (id.length + (F cls).length) + (F T.length).length := by omega
  have hid1 : id.length ≤ 1000 := hid
  go_region_held3 (PLies w.heap.size id cls A T.length cap)
    (first | exact hx | go_keep)
    (first
      | (go_at_call 35; refine (HX.out _ hid1 _).mono ?_; rintro r w1 ⟨rfl, hb1⟩; replace HBK := Lib.hid (HBK.out.trans (hb1.mono (HB0.out _ HBK.out).2.2.2)); clear hx; have hx : PLies w.heap.size id cls A T.length cap w1 := ⟨(HB0.out _ HBK.out).1.cell 0, (HB0.out _ HBK.out).1.cell 1, (HB0.out _ HBK.out).1.cell 2⟩; clear hb1)
      | (go_at_call 36; refine (HN.out _ _).mono ?_; rintro r w1 ⟨rfl, hb1⟩; replace HBK := Lib.hid (HBK.out.trans (hb1.mono (HB0.out _ HBK.out).2.2.2)); clear hx; have hx : PLies w.heap.size id cls A T.length cap w1 := ⟨(HB0.out _ HBK.out).1.cell 0, (HB0.out _ HBK.out).1.cell 1, (HB0.out _ HBK.out).1.cell 2⟩; clear hb1))
  clear hx hl1 hl2
  have h0 : F id.length ++ (id ++ (F cls ++ F T.length)) = sf [] := by rw [HS.out.1]; simp
  rw [h0]
  have hsl : (sf []).length ≤ 2000 := by rw [← h0]; simp only [List.length_append]; omega
  have ht0 : sf [] = sf (T.take 0) := by rw [List.take_zero]
  rw [ht0] at hsl ⊢
  obtain ⟨acc, hacc⟩ : ∃ a, a = sf (T.take 0) := ⟨_, rfl⟩
  rw [← hacc] at hsl ⊢
  have HAC := Lib.hid hacc
  clear hacc h0 ht0 h8a h8b h8c
  go_wp2_with fail
  go_loopg [3, 4] T.length (fun g1 v3 v4 wr => ∃ (k : Nat) (acc : List UInt8), k ≤ T.length ∧ v4 = .int .i64 (k : Int) ∧ v3 = .string (S acc) ∧ T.length - k ≤ g1 ∧ Hid (acc = sf (T.take k)) ∧ acc.length ≤ 2000 + 248 * k ∧ Below (w.heap.size + 1) W0 wr)
  case atStart => exact ⟨0, acc, Nat.zero_le _, rfl, rfl, by omega, HAC.out, by omega, HBK.out⟩
  case round =>
    obtain ⟨k, acc, hk, rfl, rfl, hg, HACC, hal, hbk⟩ := hrel
    obtain ⟨hp, hbw, hfs, hsz⟩ := HB0.out _ hbk
    by_cases hlt : k < T.length
    · have hki : (k : Int) < (T.length : Int) := by omega
      obtain ⟨off, hA, hbl, hfat⟩ := hfs (by intro hc; rw [hc] at hlt; cases hlt)
      subst hA
      have hfk := hfat k hlt
      have hgd := HG.out T[k] (List.getElem_mem hlt)
      have hst : sf (T.take (k + 1)) = sf (T.take k) ++ (F T[k].name.length ++ T[k].name) ++ (F T[k].val.enc.length ++ T[k].val.enc) := by rw [List.take_succ_eq_append_getElem hlt, HS.out.2.1]
      have hkeep : ∀ W, Below (w.heap.size + 1) W0 W → FAt W b (off + k * 6) T[k] := fun W hW => by
        obtain ⟨off', hA', _, hf'⟩ := (HB0.out W hW).2.2.1 (by intro hc; rw [hc] at hlt; cases hlt)
        have e : off' = off := by injection hA' with h; injection h with _ h _; exact h.symm
        subst e
        exact hf' k hlt
      clear hfat
      generalize T[k] = x at hfk hgd hst hkeep
      obtain ⟨n, x⟩ := x
      obtain ⟨hg1, hg2, hg3⟩ := hgd
      have hn16 := (Pap.word_len hg1).2
      have hen := enc_len hg2
      have hBV := fun W => bytes_any x hg3 W
      dsimp only at hn16 hen hBV hg2 hst
      rw [if_pos hg2] at hBV
      generalize Val.enc x = xe at hBV hst hen
      clear hg1 hg2 hg3
      obtain ⟨vk, vf, vi, vb, vt⟩ := x
      rw [Val.v_eq] at hBV
      have HBV := Lib.hid hBV; clear hBV
      have HST := Lib.hid hst; clear hst
      have HKP : Hid (∀ W, Below (w.heap.size + 1) W0 W → ELies w.heap.size b (off + k * 6) (some ⟨b, off, none⟩) T.length cap n vk vf vi vb vt W) := fun W hW =>
        have h := hkeep W hW
        ⟨(HB0.out W hW).1.cell 2, h.1, h.2.1, h.2.2.1, h.2.2.2.1, h.2.2.2.2.1, h.2.2.2.2.2⟩
      have h8a := H8.out n.length
      have h8b := H8.out xe.length
      have hc2 := hp.cell 2
      clear hkeep hfk hfs hp hbw
      go_wp2_with fail
      clear hc2
      have hbk2 := hbk.drew
      have hx := HKP.out _ hbk2
      have HBK2 := Lib.hid hbk2; clear hbk2
      have hn1 : n.length ≤ 1000 := by omega
      have he1 : xe.length ≤ 1000 := by omega
      have hl1 : ¬ 9223372036854775807 < acc.length + ((F n.length).length + n.length) := by omega
      have hl2 : ¬ 9223372036854775807 < acc.length + ((F n.length).length + n.length) + ((F xe.length).length + xe.length) := by omega
      have hki0 : (0 : Int) ≤ (k : Int) := by omega
      go_region_held3 (ELies w.heap.size b (off + k * 6) (some ⟨b, off, none⟩) T.length cap n vk vf vi vb vt)
        (first | exact hx | go_keep)
        (first
          | (go_at_call 35; (first | refine (HX.out n hn1 _).mono ?_ | refine (HX.out xe he1 _).mono ?_); rintro r w1 ⟨rfl, hb1⟩; replace HBK2 := Lib.hid (HBK2.out.trans (hb1.mono (HB0.out _ HBK2.out).2.2.2)); clear hx; have hx := HKP.out _ HBK2.out; clear hb1)
          | (go_at_call 28; refine (HBV.out _).mono ?_; rintro r w1 ⟨rfl, hb1⟩; replace HBK2 := Lib.hid (HBK2.out.trans (hb1.mono (HB0.out _ HBK2.out).2.2.2)); clear hx; have hx := HKP.out _ HBK2.out; clear hb1))
      clear hx hl1 hl2
      have hnew : acc ++ (F n.length ++ (n ++ (F xe.length ++ xe))) = sf (T.take (k + 1)) := by rw [HST.out, ← HACC.out]; simp
      have hln : (acc ++ (F n.length ++ (n ++ (F xe.length ++ xe)))).length ≤ 2000 + 248 * (k + 1) := by simp only [List.length_append]; omega
      generalize acc ++ (F n.length ++ (n ++ (F xe.length ++ xe))) = acc2 at hnew hln ⊢
      have HNEW := Lib.hid hnew; clear hnew
      go_wp2_with fail
      go_roundg (T.length - (k + 1))
      case measure => omega
      case rel => exact ⟨k + 1, acc2, by omega, by go_num, rfl, Nat.le_refl _, HNEW.out, hln, HBK2.out⟩
    · obtain rfl : k = T.length := by omega
      have hfin : acc = en := by rw [HACC.out, List.take_length, HS.out.2.2]
      have HQ := Lib.hid hfin; clear hfin
      have hc2 := hp.cell 2
      go_wp2_with fail
      go_ret
      refine ⟨?_, hbw⟩
      rw [HQ.out]
      rfl
end Go.Proofs.Ytfppobnfajkmmaa
