/-
  The roots of sheets: the contracts of the program's Root and of the eighth layer's statements' own leaves.
-/
import Derived.Test.YtgjknfphmmlcdaaDoorShtLeaf
import Derived.Laws.MakeOwn
namespace Go.Proofs.YtgjknfphmmlcdaaDoor
open Go.RowKit
set_option linter.unusedVariables false

namespace Sht
open Mk
def leaves (l : List Mill.En) (L : List Slp) : List T := L.map fun x => leaf l x.n x.p
def leavesT (L : List Slp) : List T := L.map fun x => leafT x.n x.p
theorem leaves_len (l : List Mill.En) (L : List Slp) : (leaves l L).length = L.length := by unfold leaves; rw [List.length_map]
theorem leavesT_len (L : List Slp) : (leavesT L).length = L.length := by unfold leavesT; rw [List.length_map]
theorem leaves_step (l : List Mill.En) (L : List Slp) (k : Nat) (hk : k < L.length) : leaves l (L.take (k + 1)) = leaves l (L.take k) ++ [leaf l (L[k]).n (L[k]).p] := by
  unfold leaves; rw [List.take_succ_eq_append_getElem hk, List.map_append]; rfl
theorem leavesT_step (L : List Slp) (k : Nat) (hk : k < L.length) : leavesT (L.take (k + 1)) = leavesT (L.take k) ++ [leafT (L[k]).n (L[k]).p] := by
  unfold leavesT; rw [List.take_succ_eq_append_getElem hk, List.map_append]; rfl
theorem leaves_sums (l : List Mill.En) (hr : Mill.right l = true) (L : List Slp) : Sums (leaves l L) := fun s hs => by
  unfold leaves at hs
  obtain ⟨x, _, rfl⟩ := List.mem_map.1 hs
  exact Mill.hash_len l hr _
theorem leaves_take (l : List Mill.En) (L : List Slp) (k : Nat) : leaves l (L.take k) = (leaves l L).take k := by unfold leaves; rw [List.map_take]
theorem leaves_drop (l : List Mill.En) (L : List Slp) (k : Nat) : leaves l (L.drop k) = (leaves l L).drop k := by unfold leaves; rw [List.map_drop]
/-- What is summed for a sheet's root. -/
def rootT (l : List Mill.En) (L : List Slp) : List T := leavesT L ++ rootAsks l (leaves l L)
theorem rootT_len (l : List Mill.En) (L : List Slp) : (rootT l L).length ≤ 2 * L.length + 1 := by
  unfold rootT
  rw [List.length_append, leavesT_len]
  have := (rootAsks_len l _ (leaves l L) rfl).1
  rw [leaves_len] at this
  omega
/-- Slips whose texts are not long. -/
def Short (L : List Slp) : Prop := ∀ x ∈ L, x.n.length ≤ 1000000 ∧ x.p.length ≤ 1000000
theorem Short.take {L : List Slp} (h : Short L) (k : Nat) : Short (L.take k) := fun x hx => h x (List.mem_of_mem_take hx)
theorem Short.drop {L : List Slp} (h : Short L) (k : Nat) : Short (L.drop k) := fun x hx => h x (List.mem_of_mem_drop hx)
end Sht
theorem only_grown {w w' : World} {b : Nat} (h : Only w w' b) : w.grownBy w' (some b) := ⟨h.os, h.tape, h.output, h.size, fun i hi hn => h.block i hi hn⟩
theorem made_texts (n : Nat) : madeCells (Value.string ⟨#[]⟩).cells n = (tvs (List.replicate n [])).toArray := by
  apply Array.ext
  · simp [tvs, madeCells]
  · intro i h1 h2
    simp [tvs, madeCells, Value.cells, Nat.mod_one, S]
theorem tvs_put (R : List (List UInt8)) (m k : Nat) (hk : R.length = k) (y : List UInt8) : (tvs (R ++ List.replicate (m + 1) [])).toArray.setIfInBounds k (.string (S y)) = (tvs ((R ++ [y]) ++ List.replicate m [])).toArray := by
  subst hk
  unfold tvs
  rw [List.setIfInBounds_toArray]
  congr 1
  rw [List.map_append, List.set_append_right _ _ (by simp)]
  simp [List.replicate_succ]
theorem tvs_at (R : List (List UInt8)) (m k : Nat) (hk : R.length = k) : (tvs (R ++ List.replicate (m + 1) [])).toArray[k]? = some (.string (S [])) := by
  subst hk
  unfold tvs
  simp
theorem tvs_row {w : World} {b : Nat} {R : List (List UInt8)} (h : Has w b 9 (tvs R).toArray) : TRow w b 0 R := fun i hi => by
  rw [Nat.zero_add, h.cell i]
  unfold tvs
  simp [hi]
theorem Slp.agg_eq (x : Slp) : Value.agg x.cs.toArray = .agg #[.string (S x.n), .string (S x.p), .string (S x.c), .bool x.e] := rfl

section
variable (g nb : Nat) (tv : Option Nat) (l : List Mill.En)

set_option maxRecDepth 100000 in
set_option maxHeartbeats 4000000 in
theorem shRoot_any (hr : Mill.right l = true) (A : Option Addr) (L : List Slp) (cap : Nat) (st : Mill.St) (w : World) (hn : L.length ≤ 1000) (hcap : L.length ≤ cap) (hcm : cap ≤ 9223372036854775807) (hrow : RowP w [g, nb] A L) (hs : Sht.Short L)
    (hsum : st.sums ≤ 1000000000000000) (hm : MkW w g nb tv l st) :
    Calls Tryd.prog 14 #[.pointer (some ⟨g, 0, none⟩), .slice A L.length cap] w (MkPost w g nb tv l st (Sht.rootT l L) (.string (S (Mk.root l (Sht.leaves l L))))) := by
  obtain ⟨i0, hi, hz0, hz1, hz2⟩ := info_parts mkinfo
  have hmk : ∀ W : World, (Instr.makeSlice 31 (.int .i64 (L.length : Int)) (.int .i64 (L.length : Int))).run Tryd.prog W = .ok (.slice (some ⟨W.heap.size, 0, none⟩) L.length L.length) (W.alloc (.cells (tvs (List.replicate L.length [])).toArray 9)) := by
    intro W
    have h := run_make (P := Tryd.prog) W 31 9 i0 (.string ⟨#[]⟩) Tryd.underlying31 hi hz0 .i64 .i64 (L.length : Int) (L.length : Int) (by omega) (by omega) (by rw [hz2]; omega) (by omega)
    rw [hz1, Nat.mul_one, Int.toNat_natCast, made_texts] at h
    exact h
  clear hi hz0 hz1 hz2
  have hgl := hm.m.lt
  have hRT := fun b W st' hlt hn' (hT : TRow W b 0 (Sht.leaves l L)) (hs' : st'.sums ≤ 1000000000001000) hM => mRoot_any g nb tv l hr (some ⟨b, 0, none⟩) (Sht.leaves l L) (Sht.leaves l L).length st' W (by rw [Sht.leaves_len]; omega) (Nat.le_refl _) (by rw [Sht.leaves_len]; omega) (RowS.of hlt hn' hT) (fun s hx => by rw [Sht.leaves_sums l hr L s hx]; omega) (by rw [Sht.leaves_len]; omega) hM
  have hF : Sht.rootT l L = Sht.leavesT L ++ Mk.rootAsks l (Sht.leaves l L) := rfl
  unfold MkPost at hRT ⊢
  rw [hF]
  have hll := Sht.leaves_len l L
  have hlt := Sht.leavesT_len L
  generalize Mk.root l (Sht.leaves l L) = y at *
  generalize Mk.rootAsks l (Sht.leaves l L) = ts2 at *
  have HRT := Lib.hid hRT; clear hRT
  have HM := Lib.hid hm; clear hm
  have HROW := Lib.hid hrow; clear hrow
  obtain ⟨n, hN⟩ : ∃ n, L.length = n := ⟨_, rfl⟩
  rw [hN] at hmk hcap hn hll hlt ⊢
  have HN := Lib.hid hN; clear hN
  rw [hll] at HRT
  clear hF
  go_enter Tryd.func14, Tryd.ntmps14
  go_wp2_with fail
  clear hmk
  go_loopw [13] (fun v13 wr => ∃ (k : Nat), k ≤ n ∧ v13 = .int .i64 (k : Int) ∧ Has wr w.heap.size 9 (tvs (Sht.leaves l (L.take k) ++ List.replicate (n - k) [])).toArray ∧ MkW wr g nb tv l (Mill.steps l (Sht.leavesT (L.take k)) st) ∧ Mv w wr [g, nb]) (fun v13 _ => n - (intOf v13).toNat)
  case atStart =>
    refine ⟨0, Nat.zero_le _, rfl, ?_, HM.out.below (belowB w _), Mv.of_below (belowB w _) _⟩
    exact Has.made w 9 (tvs (List.replicate n [])).toArray
  case round =>
    obtain ⟨k, hk, rfl, hH, hmk, hvk⟩ := hrel
    have hbn : w.heap.size ∉ [g, nb] := by simp only [List.mem_cons, List.not_mem_nil, or_false]; omega
    by_cases hltk : k < n
    · have hkl : k < L.length := by rw [HN.out]; exact hltk
      obtain ⟨b, off, rfl, hbl, hbs, hat⟩ := RowP.get (RowC.mv HROW.out hvk (fun x hx => hx)) k hkl
      have hshort := hs _ (List.getElem_mem hkl)
      have hst := Sht.leaves_step l L k hkl
      have hstT := Sht.leavesT_step L k hkl
      have hlk : (Sht.leaves l (L.take k)).length = k := by rw [Sht.leaves_len, List.length_take]; omega
      have hltk' : (Sht.leavesT (L.take k)).length = k := by rw [Sht.leavesT_len, List.length_take]; omega
      generalize L[k]'hkl = x at hat hshort hst hstT
      obtain ⟨xn, xp, xc, xe⟩ := x
      obtain ⟨c0, c1, c2, c3⟩ := hat
      dsimp only at c0 c1 c2 c3 hshort hst hstT
      have hLf := fun W (hM : MkW W g nb tv l (Mill.steps l (Sht.leavesT (L.take k)) st)) => shLeaf_any g nb tv l hr _ W xn xp hM hshort.1 hshort.2 (by rw [Mill.steps_sums]; omega)
      unfold MkPost at hLf
      generalize Sht.leaf l xn xp = z at *
      generalize hq : [Sht.leafT xn xp] = q at *
      obtain ⟨m, hm⟩ : ∃ m, n - k = m + 1 := ⟨n - k - 1, by omega⟩
      have hm' : n - (k + 1) = m := by omega
      rw [hm] at hH
      have hputs := tvs_put (Sht.leaves l (L.take k)) m k hlk z
      have hput1 := tvs_at (Sht.leaves l (L.take k)) m k hlk
      generalize Sht.leavesT (L.take k) = Q at *
      generalize (tvs (Sht.leaves l (L.take k) ++ List.replicate (m + 1) [])).toArray = cs at *
      rw [← hst, ← hm'] at hputs
      have HLf := Lib.hid hLf; clear hLf
      have HST := Lib.hid (And.intro hstT hputs); clear hst hstT hputs hq hm'
      have hsz := hH.lt
      have hb1 := belowB wr (.cells #[.string (S xn), .string (S xp), .string (S xc), .bool xe] 27)
      have hM1 := hmk.below hb1
      have hH1 := hH.of_alloc (.cells #[.string (S xn), .string (S xp), .string (S xc), .bool xe] 27)
      have hv1 := hvk.trans (Mv.of_below hb1 _)
      have HP := Lib.hid (And.intro hM1 (And.intro hH1 hv1)); clear hM1 hH1 hv1 hH hmk hvk hb1
      go_wp2_with fail
      refine (HLf.out _ HP.out.1).mono ?_
      rintro e w3 ⟨rfl, hm3, hv3⟩
      have hH3 := hv3.has HP.out.2.1 hbn
      have hv03 := HP.out.2.2.trans hv3
      have d0 : w3.cell? ⟨w.heap.size, k, none⟩ = some (.string (S [])) := (hH3.cell k).trans hput1
      have d1 := hH3.free k
      have ho := Only.set w3 w.heap.size k (.string (S z))
      have hm5 := MkW.own HM.out hm3 (only_grown ho) (fun q hq => by injection hq with hq; omega)
      have hv5 := hv03.own (only_grown ho) (fun q hq => by injection hq with hq; omega)
      have hH5 := hH3.set k (.string (S z))
      rw [HST.out.2] at hH5
      have HF := Lib.hid (And.intro hH5 (And.intro hm5 hv5)); clear hH5 hm5 hv5 ho hH3 hm3 hv3 hv03
      go_wp2_with fail
      go_roundw
      case rel => exact ⟨k + 1, by omega, by go_num, HF.out.1, by rw [HST.out.1, Mill.steps_app]; exact HF.out.2.1, HF.out.2.2⟩
      case measure => simp [intOf]; omega
    · have hkn : k = n := by omega
      subst hkn
      have e1 : L.take k = L := List.take_of_length_le (by rw [HN.out]; exact Nat.le_refl _)
      rw [e1] at hH hmk
      rw [Nat.sub_self, List.replicate_zero, List.append_nil] at hH
      have hT := tvs_row hH
      have hsz := hH.lt
      have hq := HRT.out w.heap.size wr _ hsz hbn hT (by rw [Mill.steps_sums]; omega) hmk
      rw [← Mill.steps_app] at hq
      have HQ := Lib.hid hq; clear hq hT hH hmk
      have HV := Lib.hid hvk; clear hvk
      go_wp2_with fail
      refine (HQ.out).mono ?_
      rintro e w3 ⟨rfl, hm3, hv3⟩
      go_wp2_with fail
      go_ret
      exact ⟨rfl, hm3, HV.out.trans hv3⟩
set_option maxRecDepth 100000 in
set_option maxHeartbeats 4000000 in
theorem slLeaves_any (hr : Mill.right l = true) (A : Option Addr) (L : List Slp) (cap : Nat) (st : Mill.St) (w : World) (hn : L.length ≤ 1000) (hcap : L.length ≤ cap) (hcm : cap ≤ 9223372036854775807) (hrow : RowP w [g, nb] A L) (hs : Sht.Short L)
    (hsum : st.sums ≤ 1000000000000000) (hm : MkW w g nb tv l st) :
    Calls Tryd.prog 13 #[.pointer (some ⟨g, 0, none⟩), .slice A L.length cap] w (RowPost w g nb tv l st (Sht.leaves l L) L.length) := by
  obtain ⟨i0, hi0, hz0, hz1, hz2⟩ := info_parts mkinfo
  have HIN := Lib.hid (And.intro hi0 (And.intro hz0 (And.intro hz1 hz2))); clear hi0 hz0 hz1 hz2
  have HM := Lib.hid hm
  have hgn := hm.m.lt
  clear hm
  obtain ⟨n, hN⟩ : ∃ n, L.length = n := ⟨_, rfl⟩
  rw [hN] at hcap hn ⊢
  have HN := Lib.hid hN; clear hN
  have HROW := Lib.hid hrow; clear hrow
  go_enter Tryd.func13, Tryd.ntmps13
  go_wp2_with fail
  go_loopw [5, 6] (fun v5 v6 wr => ∃ (k : Nat) (ts : List (List UInt8)), k ≤ n ∧ v6 = .int .i64 (k : Int) ∧ wr.ownsRow w.heap.size 9 1 v5 k (tvs (Sht.leaves l (L.take k))) ∧ ts.length = k ∧ MkW wr g nb tv l (Mill.steps l ts st) ∧ Mv w wr [g, nb]) (fun _ v6 _ => n - (intOf v6).toNat)
  case atStart => exact ⟨0, [], Nat.zero_le _, rfl, World.ownsRow_nil _ _ _ _, rfl, HM.out, Mv.refl _ _⟩
  case round =>
    obtain ⟨k, ts, hk, rfl, hown, hts, hmk, hvk⟩ := hrel
    by_cases hlt : k < n
    · have hkl : k < L.length := by rw [HN.out]; exact hlt
      obtain ⟨b, off, rfl, hbl, hbs, hat⟩ := RowP.get (RowC.mv HROW.out hvk (fun x hx => hx)) k hkl
      have hshort := hs _ (List.getElem_mem hkl)
      have hst := Sht.leaves_step l L k hkl
      have hlk : (Sht.leaves l (L.take k)).length = k := by rw [Sht.leaves_len, List.length_take]; omega
      generalize L[k]'hkl = x at hat hshort hst
      obtain ⟨xn, xp, xc, xe⟩ := x
      obtain ⟨c0, c1, c2, c3⟩ := hat
      dsimp only at c0 c1 c2 c3 hshort hst
      have hLf := slLeaf_any g nb tv l hr (Mill.steps l ts st) wr xn xp xc xe hmk hshort.1 hshort.2 (by rw [Mill.steps_sums]; omega)
      unfold MkPost at hLf
      generalize Sht.leaf l xn xp = y at *
      obtain ⟨tx, htx⟩ : ∃ t, [Sht.leafT xn xp] = t := ⟨_, rfl⟩
      rw [htx] at hLf
      have htl : tx.length = 1 := by rw [← htx]; rfl
      have HL := Lib.hid hLf; clear hLf
      have HST := Lib.hid hst; clear hst
      generalize Sht.leaves l (L.take k) = R at *
      clear htx hbs
      have HOWN0 := Lib.hid hown; clear hown
      have HS2 := Lib.hid (And.intro hts (And.intro hmk hvk)); clear hts hmk hvk
      go_wp2_with fail
      refine (HL.out).mono ?_
      rintro e w3 ⟨rfl, hm3, hv3⟩
      have hown3 := own_mv HOWN0.out hv3 (by intro z hz; simp only [List.mem_cons, List.not_mem_nil, or_false] at hz; omega)
      have hv03 := HS2.out.2.2.trans hv3
      have hs3 := hv03.size
      have HOWN := Lib.hid (hown3.alloc (.cells #[.string (S y)] 9))
      have HMADE := Lib.hid (made_one w3 y)
      go_wp2_with (at_builtin; refine wpList_append_own _ rfl (.tmp 13) (.tmp 20) 31 rfl w.heap.size 9 i0 (.string ⟨#[]⟩) 1 16 Tryd.underlying31 HIN.out.1 HIN.out.2.1 HIN.out.2.2.1 HIN.out.2.2.2 rfl (by decide) u5 k (tvs R) rfl HOWN.out ⟨w3.heap.size, 0, none⟩ 1 1 [.string (S y)] rfl rfl HMADE.out (by simp [Value.oneCell']) (by simp only [maxLen]; omega) (by omega) (by simp; omega) ?_; intro v8 w5 hown5 hg5 hnil5)
      have hg5' := grown_alloc _ hg5
      have hrw5 : ∀ q, u5.ownBlock = some q → w.heap.size ≤ q := fun q hq => (hown3.lt q hq).1
      have hv5 := hv03.own hg5' hrw5
      have hm5 := MkW.own HM.out hm3 hg5' hrw5
      have hown6 : w5.ownsRow w.heap.size 9 1 v8 (k + 1) (tvs (Sht.leaves l (L.take (k + 1)))) := by rw [HST.out, ← tvs_snoc]; exact hown5
      clear hown5 hg5 hnil5 hg5' hown3
      go_wp2_with fail
      go_roundw
      case rel => exact ⟨k + 1, ts ++ tx, by omega, by go_num, hown6, by rw [List.length_append, HS2.out.1, htl], by rw [Mill.steps_app]; exact hm5, hv5⟩
      case measure => simp [intOf]; omega
    · have hkn : k = n := by omega
      subst hkn
      have e1 : L.take k = L := List.take_of_length_le (by rw [HN.out]; exact Nat.le_refl _)
      rw [e1] at hown
      have hll : (Sht.leaves l L).length = k := by rw [Sht.leaves_len, HN.out]
      have HF : Hid (RowPost w g nb tv l st (Sht.leaves l L) k (.returned u5) wr) := ⟨u5, ts, rfl, by rw [hll]; exact hown, by omega, hmk, hvk⟩
      clear hown hmk hvk hll
      go_wp2_with fail
      go_ret
      exact HF.out
end
end Go.Proofs.YtgjknfphmmlcdaaDoor
