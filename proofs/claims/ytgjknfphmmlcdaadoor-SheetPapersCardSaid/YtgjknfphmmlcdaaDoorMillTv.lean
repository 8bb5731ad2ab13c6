/-
  The contracts of mill's record and Sum once more, where the table's block is named: two mills stay apart.
-/
import Derived.Test.YtgjknfphmmlcdaaDoorMillRec
namespace Go.Proofs.YtgjknfphmmlcdaaDoor
open Go.RowKit
set_option linter.unusedVariables false

/-- Block g is a mill with the table l, in block tv, that has noted st in block nb. -/
def MillTv (w : World) (g nb : Nat) (tv : Option Nat) (l : List Mill.En) (st : Mill.St) : Prop :=
  Has w g 70 (millCells tv nb l st) ∧ Asks w tv l ∧ Noted w nb st.notes ∧ g ≠ nb ∧ (∀ b, tv = some b → b ≠ g ∧ b ≠ nb) ∧ l.length < maxLen
theorem MillTv.at {w : World} {g nb : Nat} {tv : Option Nat} {l : List Mill.En} {st : Mill.St} (h : MillTv w g nb tv l st) : MillAt w g nb l st := ⟨tv, h⟩
theorem MillTv.mv {w w' : World} {g nb : Nat} {tv : Option Nat} {l : List Mill.En} {st : Mill.St} {s : List Nat} (h : MillTv w g nb tv l st) (hm : Mv w w' s) (h1 : g ∉ s) (h2 : nb ∉ s) (h3 : ∀ b, tv = some b → b ∉ s) : MillTv w' g nb tv l st := by
  obtain ⟨hc, ha, hn, hgn, hb, hl⟩ := h
  refine ⟨hm.has hc h1, ha.keep (fun b hb' => ?_), hn.keep (hm.block _ hn.lt h2), hgn, hb, hl⟩
  subst hb'
  exact hm.block b ha.lt (h3 b rfl)
theorem MillTv.below {w w' : World} {g nb : Nat} {tv : Option Nat} {l : List Mill.En} {st : Mill.St} (h : MillTv w g nb tv l st) (hb : Below w.heap.size w w') : MillTv w' g nb tv l st :=
  h.mv (Mv.of_below hb []) (by simp) (by simp) (by simp)
theorem MillTv.lt {w : World} {g nb : Nat} {tv : Option Nat} {l : List Mill.En} {st : Mill.St} (h : MillTv w g nb tv l st) : g < w.heap.size ∧ nb < w.heap.size := h.at.lt
theorem newMill_tv (w : World) : Calls Tryd.prog 8 #[] w fun e w' => e = .returned (.pointer (some ⟨w.heap.size + 1, 0, none⟩)) ∧ MillTv w' (w.heap.size + 1) w.heap.size none [] Mill.fresh ∧ Below w.heap.size w w' ∧ w'.heap.size = w.heap.size + 2 := by
  refine (newMill_any w).mono ?_
  rintro e w' ⟨h1, ⟨tv, _, _, hn, hgn, _, hl⟩, h3, h4, h5⟩
  exact ⟨h1, ⟨h5, rfl, hn, hgn, (fun b hb => by cases hb), hl⟩, h3, h4⟩

def RecPostT (w : World) (g nb : Nat) (tv : Option Nat) (l : List Mill.En) (st : Mill.St) (e : Ending) (w' : World) : Prop := e = .returned (.tuple #[]) ∧ MillTv w' g nb tv l st ∧ Mv w w' [g, nb]
/-- The mill's own block has turned, the notes not. -/
theorem mill_turnT {w w' : World} {g nb : Nat} {l : List Mill.En} {st st' : Mill.St} {tv : Option Nat} (ha : Asks w tv l) (hn : Noted w nb st.notes) (hgn : g ≠ nb) (hb : ∀ b, tv = some b → b ≠ g ∧ b ≠ nb) (hl : l.length < maxLen)
    (hm : Mv w w' [g]) (hc : Has w' g 70 (millCells tv nb l st')) (hs : st'.notes = st.notes) : MillTv w' g nb tv l st' := by
  refine ⟨hc, ha.keep (fun b h => ?_), ?_, hgn, hb, hl⟩
  · subst h
    exact hm.block b ha.lt (by simpa using (hb b rfl).1)
  · rw [hs]
    exact hn.keep (hm.block nb hn.lt (by simpa using hgn.symm))

set_option maxRecDepth 100000 in
set_option maxHeartbeats 4000000 in
theorem record_someT (x s t : List UInt8) (g nb : Nat) (tv : Option Nat) (l : List Mill.En) (st : Mill.St) (w : World) (h : MillTv w g nb tv l st) (hx : x.length ≤ 5000000000000000) (ht : st.notes.lookup x = some t) :
    Calls Tryd.prog 46 #[.pointer (some ⟨g, 0, none⟩), .string (S x), .agg #[.string (S s)]] w (RecPostT w g nb tv l (Mill.note x s st)) := by
  obtain ⟨hc, ha, hn, hgn, hb, hl⟩ := h
  have hglt := hc.lt
  have hnlt := hn.lt
  have c2 : w.cell? ⟨g, 2, none⟩ = some (.map (some nb)) := hc.cell 2
  have c3 : w.cell? ⟨g, 3, none⟩ = some (.string (S st.a)) := hc.cell 3
  have c4 : w.cell? ⟨g, 4, none⟩ = some (.string (S st.b)) := hc.cell 4
  have c5 : w.cell? ⟨g, 5, none⟩ = some (.bool st.met) := hc.cell 5
  have f3 : w.frozen? ⟨g, 3, none⟩ = false := hc.free 3
  have f4 : w.frozen? ⟨g, 4, none⟩ = false := hc.free 4
  have f5 : w.frozen? ⟨g, 5, none⟩ = false := hc.free 5
  have hk : (Instr.lookup 64 (.map (some nb)) (.string (S x)) true).run Tryd.prog (w.alloc (.cells #[.string (S s)] 67)) = _ := hn.look1 x (Nat.le_trans hx (by decide)) _ (Below.heap_alloc _ _ _ hnlt)
  rw [ht] at hk
  simp only [Option.getD_some, Option.isSome_some] at hk
  have hz := zeroNote
  have HT : Hid (∀ (w' : World) (st' : Mill.St), Mv w w' [g] → Has w' g 70 (millCells tv nb l st') → st'.notes = st.notes → MillTv w' g nb tv l st') := fun w' st' h1 h2 h3 => mill_turnT ha hn hgn hb hl h1 h2 h3
  by_cases hm : t ≠ s ∧ st.met = false
  · have hR : Mill.note x s st = { st with a := t, b := s, met := true } := by simp [Mill.note, ht, hm]
    rw [hR]
    obtain ⟨hts, hmet⟩ := hm
    have hne : (S t == S s) = false := S_ne hts
    rw [hmet] at c5
    have HC : Hid (∀ u v z : World, Has ((((w.setCell ⟨g, 3, none⟩ (.string (S t))).setCell ⟨g, 4, none⟩ (.string (S s))).setCell ⟨g, 5, none⟩ (.bool true))) g 70 (millCells tv nb l { st with a := t, b := s, met := true })) := fun _ _ _ => ((hc.set 3 _).set 4 _).set 5 _
    clear hR ht hc ha hn hl
    go_enter Tryd.func46, Tryd.ntmps46
    go_wp2_with fail
    go_returns
    have hmv := (((Mv.of_only (Only.set w g 3 (.string (S t))) (s := [g]) (by simp)).trans (Mv.of_only (Only.set _ g 4 (.string (S s))) (by simp))).trans (Mv.of_only (Only.set _ g 5 (.bool true)) (by simp)))
    have hmv2 := (hmv.alloc (.cells #[.string (S s)] 67)).alloc (.cells #[.string (S t)] 67)
    exact ⟨rfl, HT.out _ _ hmv2 (((HC.out w w w).of_alloc _).of_alloc _) rfl, hmv2.wide (by simp)⟩
  · have hR : Mill.note x s st = st := by simp only [Mill.note, ht]; rw [if_neg hm]
    rw [hR]
    clear hR ht
    by_cases hts : t = s
    · subst hts
      have hne : (S t == S t) = true := S_eq rfl
      have HC := Lib.hid hc; clear hc ha hn hl hm
      go_enter Tryd.func46, Tryd.ntmps46
      go_wp2_with fail
      go_returns
      have hmv2 := ((Mv.refl w [g]).alloc (.cells #[.string (S t)] 67)).alloc (.cells #[.string (S t)] 67)
      exact ⟨rfl, HT.out _ _ hmv2 ((HC.out.of_alloc _).of_alloc _) rfl, hmv2.wide (by simp)⟩
    · have hmet : st.met = true := by cases hh : st.met <;> simp_all
      rw [hmet] at c5
      have HC := Lib.hid hc; clear hc ha hn hl hm
      go_enter Tryd.func46, Tryd.ntmps46
      go_wp2_with fail
      go_returns
      have hmv2 := ((Mv.refl w [g]).alloc (.cells #[.string (S s)] 67)).alloc (.cells #[.string (S t)] 67)
      exact ⟨rfl, HT.out _ _ hmv2 ((HC.out.of_alloc _).of_alloc _) rfl, hmv2.wide (by simp)⟩

set_option maxRecDepth 100000 in
set_option maxHeartbeats 4000000 in
theorem record_noneT (x s : List UInt8) (g nb : Nat) (tv : Option Nat) (l : List Mill.En) (st : Mill.St) (w : World) (h : MillTv w g nb tv l st) (hx : x.length ≤ 5000000000000000) (ht : st.notes.lookup x = none) :
    Calls Tryd.prog 46 #[.pointer (some ⟨g, 0, none⟩), .string (S x), .agg #[.string (S s)]] w (RecPostT w g nb tv l (Mill.note x s st)) := by
  obtain ⟨hc, ha, hn, hgn, hb, hl⟩ := h
  have hglt := hc.lt
  have hnlt := hn.lt
  have hxm : x.length ≤ maxLen := Nat.le_trans hx (by decide)
  have c2 : w.cell? ⟨g, 2, none⟩ = some (.map (some nb)) := hc.cell 2
  have c6 : w.cell? ⟨g, 6, none⟩ = some (.bool st.full) := hc.cell 6
  have f6 : w.frozen? ⟨g, 6, none⟩ = false := hc.free 6
  have hk : (Instr.lookup 64 (.map (some nb)) (.string (S x)) true).run Tryd.prog (w.alloc (.cells #[.string (S s)] 67)) = _ := hn.look1 x hxm _ (Below.heap_alloc _ _ _ hnlt)
  rw [ht] at hk
  simp only [Option.getD_none, Option.isSome_none] at hk
  have hz := zeroNote
  have HT : Hid (∀ (w' : World) (st' : Mill.St), Mv w w' [g] → Has w' g 70 (millCells tv nb l st') → st'.notes = st.notes → MillTv w' g nb tv l st') := fun w' st' h1 h2 h3 => mill_turnT ha hn hgn hb hl h1 h2 h3
  by_cases hm : st.notes.length < 20000
  · have hR : Mill.note x s st = { st with notes := st.notes ++ [(x, s)] } := by simp [Mill.note, ht, hm]
    rw [hR]
    have hnW : Noted (((w.alloc (.cells #[.string (S s)] 67)).alloc (.cells #[.string (S [])] 67)).drew) nb st.notes := hn.keep (w' := ((w.alloc (.cells #[.string (S s)] 67)).alloc (.cells #[.string (S [])] 67)).drew) ((Below.heap_alloc _ _ _ (by simp; omega)).trans (Below.heap_alloc _ _ _ hnlt))
    obtain ⟨w', hrun, hn', ho⟩ := hnW.put x s (Nat.lt_trans hm (by decide)) hxm ht
    have HF : Hid (MillTv w' g nb tv l { st with notes := st.notes ++ [(x, s)] } ∧ Mv w w' [g, nb]) := by
      have hm0 : Mv w (((w.alloc (.cells #[.string (S s)] 67)).alloc (.cells #[.string (S [])] 67)).drew) [nb] := (((Mv.refl w [nb]).alloc _).alloc _).drew
      have hm1 := hm0.trans (Mv.of_only ho (by simp))
      refine ⟨⟨hm1.has hc (by simpa using hgn), ha.keep (fun b h => ?_), hn', hgn, hb, hl⟩, hm1.wide (by simp)⟩
      subst h
      exact hm1.block b ha.lt (by simpa using (hb b rfl).2)
    obtain ⟨D, hown, hsz, _⟩ := hn
    have hm' : ((st.notes.length : Nat) : Int) < 20000 := by omega
    have hown2 := (hown.alloc (.cells #[.string (S s)] 67)).alloc (.cells #[.string (S [])] 67)
    clear hR ht hc ha hl ho hn' hnW hown
    obtain ⟨n, hn⟩ : ∃ n, st.notes.length = n := ⟨_, rfl⟩
    rw [hn] at hsz hm' hown2
    clear hm hn
    go_enter Tryd.func46, Tryd.ntmps46
    go_wp2_with (at_len; refine wpList_len_own _ rfl _ 64 rfl 9 67 Tryd.underlying64 _ nb _ D rfl hown2 ?_; rw [hsz])
    go_region
    go_wp2_with fail
    go_returns
    exact ⟨rfl, HF.out⟩
  · have hR : Mill.note x s st = { st with full := true } := by simp [Mill.note, ht, hm]
    rw [hR]
    have HC : Hid (∀ u v : World, Has (w.setCell ⟨g, 6, none⟩ (.bool true)) g 70 (millCells tv nb l { st with full := true })) := fun _ _ => hc.set 6 _
    obtain ⟨D, hown, hsz, _⟩ := hn
    have hm' : ¬ ((st.notes.length : Nat) : Int) < 20000 := by omega
    have hown2 := (hown.alloc (.cells #[.string (S s)] 67)).alloc (.cells #[.string (S [])] 67)
    clear hR ht hc ha hl hown
    have hmv := Mv.of_only (Only.set w g 6 (.bool true)) (s := [g]) (by simp)
    have HM := Lib.hid hmv; clear hmv
    generalize hn : st.notes.length = n at hsz hm' hown2 hm
    clear hm
    go_enter Tryd.func46, Tryd.ntmps46
    go_wp2_with (at_len; refine wpList_len_own _ rfl _ 64 rfl 9 67 Tryd.underlying64 _ nb _ D rfl hown2 ?_; rw [hsz])
    go_returns
    have hmv2 := (HM.out.alloc (.cells #[.string (S s)] 67)).alloc (.cells #[.string (S [])] 67)
    exact ⟨rfl, HT.out _ _ hmv2 (((HC.out w w).of_alloc _).of_alloc _) rfl, hmv2.wide (by simp)⟩

theorem record_anyT (x s : List UInt8) (g nb : Nat) (tv : Option Nat) (l : List Mill.En) (st : Mill.St) (w : World) (h : MillTv w g nb tv l st) (hx : x.length ≤ 5000000000000000) :
    Calls Tryd.prog 46 #[.pointer (some ⟨g, 0, none⟩), .string (S x), .agg #[.string (S s)]] w (RecPostT w g nb tv l (Mill.note x s st)) := by
  cases ht : st.notes.lookup x with
  | some t => exact record_someT x s t g nb tv l st w h hx ht
  | none => exact record_noneT x s g nb tv l st w h hx ht

def SumPostT (w : World) (g nb : Nat) (tv : Option Nat) (l : List Mill.En) (st : Mill.St) (o : List UInt8) (e : Ending) (w' : World) : Prop := e = .returned (.string (S o)) ∧ MillTv w' g nb tv l st ∧ Mv w w' [g, nb]

set_option maxRecDepth 100000 in
set_option maxHeartbeats 2000000 in
theorem millSum_anyT (s : List UInt8) (g nb : Nat) (tv : Option Nat) (l : List Mill.En) (st : Mill.St) (w : World) (h : MillTv w g nb tv l st) (hs : s.length ≤ 5000000000000000) (hsum : st.sums ≤ 4000000000000000000) (hr : Mill.right l = true) (hT : Tabs w) (hg : 2 ≤ g) :
    Calls Tryd.prog 36 #[.pointer (some ⟨g, 0, none⟩), .string (S s)] w (SumPostT w g nb tv l (Mill.step l s st) (Mill.hash l s)) := by
  obtain ⟨hc, ha, hn, hgn, hb, hl⟩ := h
  have c7 : w.cell? ⟨g, 7, none⟩ = some (.int .i64 (st.sums : Int)) := hc.cell 7
  have c8 : w.cell? ⟨g, 8, none⟩ = some (.bool true) := hc.cell 8
  have f7 : w.frozen? ⟨g, 7, none⟩ = false := hc.free 7
  have HW := Lib.hid (works_is g true w c8)
  have hmv := Mv.of_only (Only.set w g 7 (.int .i64 ((st.sums + 1 : Nat) : Int))) (s := [g]) (by simp)
  have hM : MillTv (w.setCell ⟨g, 7, none⟩ (.int .i64 ((st.sums + 1 : Nat) : Int))) g nb tv l { st with sums := st.sums + 1 } := mill_turnT ha hn hgn hb hl hmv (hc.set 7 _) rfl
  have hT1 : Tabs (w.setCell ⟨g, 7, none⟩ (.int .i64 ((st.sums + 1 : Nat) : Int))) := hmv.tabs hT (by simpa using hg)
  have hlen := Mill.hash_len l hr s
  have hstep : Mill.step l s st = Mill.note (Mill.hash l s) s { st with sums := st.sums + 1 } := rfl
  rw [hstep]
  generalize { st with sums := st.sums + 1 } = st1 at hM ⊢
  have hH := hash_any s g nb l st1 _ hM.at hs hT1
  generalize Mill.hash l s = x at hlen hH ⊢
  have HR : Hid (∀ W, MillTv W g nb tv l st1 → Calls Tryd.prog 46 #[.pointer (some ⟨g, 0, none⟩), .string (S x), .agg #[.string (S s)]] W (RecPostT W g nb tv l (Mill.note x s st1))) := fun W hW => record_anyT x s g nb tv l st1 W hW (by omega)
  generalize Mill.note x s st1 = st2 at HR ⊢
  have HH := Lib.hid hH; clear hH
  have HM := Lib.hid (And.intro hM hmv); clear hM hmv
  have n1 : ((st.sums : Nat) : Int) + 1 ≤ 4611686018427387904 := by omega
  have n0 : (0 : Int) ≤ ((st.sums : Nat) : Int) := by omega
  rw [Int.natCast_add, Int.natCast_one] at HM HH
  have hz := zeroNote
  clear hc ha hn hb hl hstep hlen hr hT hT1 c8 hgn
  go_enter Tryd.func36, Tryd.ntmps36
  go_wp2_with fail
  refine HW.out.mono ?_
  rintro r1 w1 ⟨rfl, rfl⟩
  go_wp2_with fail
  refine HH.out.mono ?_
  rintro r2 w2 ⟨rfl, hb2⟩
  go_wp2_with fail
  refine (HR.out w2 (HM.out.1.below hb2)).mono ?_
  rintro r3 w3 ⟨rfl, hM3, hmv3⟩
  go_wp2_with fail
  go_ret
  exact ⟨rfl, hM3, ((HM.out.2.wide (by simp)).trans (Mv.of_below hb2 _)).trans hmv3⟩

end Go.Proofs.YtgjknfphmmlcdaaDoor
