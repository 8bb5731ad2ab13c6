/-
  The contract of mill's enter.
-/
import Derived.Test.YtphhaiccpllnpaaDoorMillTag
namespace Go.Proofs.YtphhaiccpllnpaaDoor
open Go.RowKit
set_option linter.unusedVariables false

/-- A mill whose table lies in block tb. -/
structure MillTab (w : World) (g nb tb : Nat) (l : List Mill.En) (st : Mill.St) : Prop where
  has : Has w g 67 (millCells (some tb) nb l st)
  asks : Asks w (some tb) l
  noted : Noted w nb st.notes
  gn : g ≠ nb
  tg : tb ≠ g
  tn : tb ≠ nb
  len : l.length < maxLen
theorem MillTab.at {w : World} {g nb tb : Nat} {l : List Mill.En} {st : Mill.St} (h : MillTab w g nb tb l st) : MillAt w g nb l st :=
  ⟨some tb, h.has, h.asks, h.noted, h.gn, fun b hb => by injection hb with hb; subst hb; exact ⟨h.tg, h.tn⟩, h.len⟩
theorem MillTab.below {w w' : World} {g nb tb : Nat} {l : List Mill.En} {st : Mill.St} (h : MillTab w g nb tb l st) (hb : Below w.heap.size w w') : MillTab w' g nb tb l st :=
  ⟨h.has.below hb h.has.lt, h.asks.keep (fun b e => by injection e with e; subst e; exact hb.block _ h.asks.lt), h.noted.keep (hb.block _ h.noted.lt), h.gn, h.tg, h.tn, h.len⟩

def enVal (e : Mill.En) : Value := .agg #[.bool e.tag, .string (S e.key), .string (S e.text), .string (S e.out)]
def EnterPost (w : World) (g nb tb : Nat) (l : List Mill.En) (st : Mill.St) (e : Ending) (w' : World) : Prop := e = .returned (.tuple #[]) ∧ MillTab w' g nb tb l st ∧ Mv w w' [g, tb]
theorem keyed_snoc (l : List Mill.En) (e : Mill.En) : Mill.keyed (l ++ [e]) = (Mill.keyed l || e.tag) := by simp [Mill.keyed]

set_option maxRecDepth 100000 in
set_option maxHeartbeats 4000000 in
theorem enter_01 (e : Mill.En) (g nb tb : Nat) (l : List Mill.En) (st : Mill.St) (w : World) (h : MillTab w g nb tb l st) (hk : e.key.length ≤ 5000000000000000) (ht : e.text.length ≤ 5000000000000000) (hT : Tabs w) (hg : 4 ≤ g) (hl : (l ++ [e]).length < maxLen) (htag : e.tag = false) (hask : Mill.ask l e.inp ≠ none) :
    Calls Tryd.prog 52 #[.pointer (some ⟨g, 0, none⟩), .agg #[.bool false, .string (S e.key), .string (S e.text), .string (S e.out)]] w (EnterPost w g nb tb (l ++ [e]) st) := by
  have htm : e.text.length ≤ maxLen := Nat.le_trans ht (by decide)
  have hinp : inVal e.inp = .agg #[.bool false, .string (S []), .string (S e.text)] := by
    unfold inVal Mill.En.inp; rw [htag]; rfl
  have hkey : Mill.keyed (l ++ [e]) = Mill.keyed l := by rw [keyed_snoc, htag]; simp
  have hfin : Hid (∀ W, Has W g 67 (millCells (some tb) nb (l ++ [e]) st) → Asks W (some tb) (l ++ [e]) → Noted W nb st.notes → MillTab W g nb tb (l ++ [e]) st) := fun W h1 h2 h3 => ⟨h1, h2, h3, h.gn, h.tg, h.tn, hl⟩
  have HASK : Hid (∀ W, Asks W (some tb) l → (Instr.lookup 62 (.map (some tb)) (.agg #[.bool false, .string (S []), .string (S e.text)]) true).run Tryd.prog W = .ok (.tuple #[.agg #[.string (S ((Mill.ask l e.inp).getD []))], .bool true]) W) := fun W hW => by
    have := hW.look e.inp (by unfold Mill.En.inp; rw [htag]; simp) htm
    rw [hinp] at this
    rw [this]
    cases hm : Mill.ask l e.inp with
    | none => exact absurd hm hask
    | some o => rfl
  have HPUT : Hid (∀ W, Asks W (some tb) l → Asks W (some tb) (l ++ [e])) := fun W hW => hW.skip e (by cases hm : Mill.ask l e.inp with | none => exact absurd hm hask | some o => rfl)
  obtain ⟨hc, ha, hn, hgn, htg, htn, _⟩ := h
  have hglt := hc.lt
  have htlt := ha.lt
  have hnlt := hn.lt
  have hcs : (millCells (some tb) nb l st) = millCells (some tb) nb (l ++ [e]) st := by unfold millCells; rw [hkey]
  have hz1 := zeroIn
  have hz2 := zeroOut
  have HT := Lib.hid hT; clear hT
  have HC := Lib.hid (And.intro hc (And.intro ha hn))
  have HCS := Lib.hid hcs
  clear hc ha hn hcs hkey hinp hask hl htm hk ht
  generalize e.key = ek at *
  generalize e.text = et at *
  generalize e.out = eo at *
  go_enter Tryd.func52, Tryd.ntmps52
  go_upto_region 2 with (fail)
  generalize hW : World.alloc (World.alloc w _) _ = W
  have hb0 : Below w.heap.size w W := by rw [← hW]; exact ((Below.refl _ _).alloc (Nat.le_refl _) _).alloc (by simp) _
  have hh0 : Has W w.heap.size 85 #[.bool false, .string (S ek), .string (S et), .string (S eo)] := by rw [← hW]; exact (Has.made _ _ _).of_alloc _
  have hh1 : Has W (w.heap.size + 1) 97 #[.bool false, .string (S []), .string (S et)] := by
    have := Has.made (w.alloc (.cells #[.bool false, .string (S ek), .string (S et), .string (S eo)] 85)) 97 #[.bool false, .string (S []), .string (S et)]
    rw [← hW]; simpa using this
  have d0 : W.cell? ⟨w.heap.size, 0, none⟩ = some (.bool false) := hh0.cell 0
  have hlt1 := hh1.lt
  clear hW
  go_upto_region 5 with (fail)
  have hw5 : Has W g 67 (millCells (some tb) nb (l ++ [e]) st) := by rw [← HCS.out]; exact HC.out.1.below hb0 hglt
  have ha5 : Asks W (some tb) l := HC.out.2.1.keep (fun b hb => by injection hb with hb; subst hb; exact hb0.block _ htlt)
  have hn5 : Noted W nb st.notes := HC.out.2.2.keep (hb0.block _ hnlt)
  have hm5 : Mv w W [g] := Mv.of_below hb0 _
  have k0 : W.cell? ⟨g, 0, none⟩ = some (.map (some tb)) := hw5.cell 0
  have e0 : W.cell? ⟨w.heap.size + 1, 0, none⟩ = some (.bool false) := hh1.cell 0
  have e1 : W.cell? ⟨w.heap.size + 1, 1, none⟩ = some (.string (S [])) := hh1.cell 1
  have e2 : W.cell? ⟨w.heap.size + 1, 2, none⟩ = some (.string (S et)) := hh1.cell 2
  have d3 : W.cell? ⟨w.heap.size, 3, none⟩ = some (.string (S eo)) := hh0.cell 3
  have tblt := ha5.lt
  have hgW := hw5.lt
  have hk1 := HASK.out W.drew (ha5.keep (fun _ _ => rfl))
  have hk2 := HASK.out ((W.alloc (.cells #[.string (S [])] 99)).drew) (ha5.keep (fun b hb => by injection hb with hb; subst hb; exact Below.heap_alloc _ _ _ tblt))
  generalize (Mill.ask l e.inp).getD [] = ov at hk1 hk2
  go_region
  all_goals
    go_wp2_with fail
    go_returns
    have hmv := ((Mv.refl W [g]).alloc (.cells #[.string (S ov)] 99)).drew
    refine ⟨rfl, hfin.out _ ?_ (HPUT.out _ ?_) ?_, (hm5.trans hmv).wide (by simp)⟩
    · exact hw5.of_alloc _
    · exact ha5.keep (fun b hb => by injection hb with hb; subst hb; exact Below.heap_alloc _ _ _ tblt)
    · exact hn5.keep (Below.heap_alloc _ _ _ hn5.lt)

set_option maxRecDepth 100000 in
set_option maxHeartbeats 4000000 in
theorem enter_00 (e : Mill.En) (g nb tb : Nat) (l : List Mill.En) (st : Mill.St) (w : World) (h : MillTab w g nb tb l st) (hk : e.key.length ≤ 5000000000000000) (ht : e.text.length ≤ 5000000000000000) (hT : Tabs w) (hg : 4 ≤ g) (hl : (l ++ [e]).length < maxLen) (htag : e.tag = false) (hask : Mill.ask l e.inp = none) :
    Calls Tryd.prog 52 #[.pointer (some ⟨g, 0, none⟩), .agg #[.bool false, .string (S e.key), .string (S e.text), .string (S e.out)]] w (EnterPost w g nb tb (l ++ [e]) st) := by
  have htm : e.text.length ≤ maxLen := Nat.le_trans ht (by decide)
  have hinp : inVal e.inp = .agg #[.bool false, .string (S []), .string (S e.text)] := by
    unfold inVal Mill.En.inp; rw [htag]; rfl
  have hkey : Mill.keyed (l ++ [e]) = Mill.keyed l := by rw [keyed_snoc, htag]; simp
  have hfin : Hid (∀ W, Has W g 67 (millCells (some tb) nb (l ++ [e]) st) → Asks W (some tb) (l ++ [e]) → Noted W nb st.notes → MillTab W g nb tb (l ++ [e]) st) := fun W h1 h2 h3 => ⟨h1, h2, h3, h.gn, h.tg, h.tn, hl⟩
  have HASK : Hid (∀ W, Asks W (some tb) l → (Instr.lookup 62 (.map (some tb)) (.agg #[.bool false, .string (S []), .string (S e.text)]) true).run Tryd.prog W = .ok (.tuple #[.agg #[.string (S ((Mill.ask l e.inp).getD []))], .bool false]) W) := fun W hW => by
    have := hW.look e.inp (by unfold Mill.En.inp; rw [htag]; simp) htm
    rw [hinp] at this
    rw [this]
    rw [hask]; rfl
  have HPUT : Hid (∀ W, Asks W (some tb) l → ∃ w', (Instr.mapUpdate 62 (.map (some tb)) (.agg #[.bool false, .string (S []), .string (S e.text)]) (.agg #[.string (S e.out)])).run Tryd.prog W = .ok () w' ∧ Asks w' (some tb) (l ++ [e]) ∧ Only W w' tb) := fun W hW => by
    obtain ⟨w', h1, h2, h3⟩ := hW.put e h.len htm hask
    rw [hinp] at h1
    exact ⟨w', h1, h2, h3⟩
  obtain ⟨hc, ha, hn, hgn, htg, htn, _⟩ := h
  have hglt := hc.lt
  have htlt := ha.lt
  have hnlt := hn.lt
  have hcs : (millCells (some tb) nb l st) = millCells (some tb) nb (l ++ [e]) st := by unfold millCells; rw [hkey]
  have hz1 := zeroIn
  have hz2 := zeroOut
  have HT := Lib.hid hT; clear hT
  have HC := Lib.hid (And.intro hc (And.intro ha hn))
  have HCS := Lib.hid hcs
  clear hc ha hn hcs hkey hinp hask hl htm hk ht
  generalize e.key = ek at *
  generalize e.text = et at *
  generalize e.out = eo at *
  go_enter Tryd.func52, Tryd.ntmps52
  go_upto_region 2 with (fail)
  generalize hW : World.alloc (World.alloc w _) _ = W
  have hb0 : Below w.heap.size w W := by rw [← hW]; exact ((Below.refl _ _).alloc (Nat.le_refl _) _).alloc (by simp) _
  have hh0 : Has W w.heap.size 85 #[.bool false, .string (S ek), .string (S et), .string (S eo)] := by rw [← hW]; exact (Has.made _ _ _).of_alloc _
  have hh1 : Has W (w.heap.size + 1) 97 #[.bool false, .string (S []), .string (S et)] := by
    have := Has.made (w.alloc (.cells #[.bool false, .string (S ek), .string (S et), .string (S eo)] 85)) 97 #[.bool false, .string (S []), .string (S et)]
    rw [← hW]; simpa using this
  have d0 : W.cell? ⟨w.heap.size, 0, none⟩ = some (.bool false) := hh0.cell 0
  have hlt1 := hh1.lt
  clear hW
  go_upto_region 5 with (fail)
  have hw5 : Has W g 67 (millCells (some tb) nb (l ++ [e]) st) := by rw [← HCS.out]; exact HC.out.1.below hb0 hglt
  have ha5 : Asks W (some tb) l := HC.out.2.1.keep (fun b hb => by injection hb with hb; subst hb; exact hb0.block _ htlt)
  have hn5 : Noted W nb st.notes := HC.out.2.2.keep (hb0.block _ hnlt)
  have hm5 : Mv w W [g] := Mv.of_below hb0 _
  have k0 : W.cell? ⟨g, 0, none⟩ = some (.map (some tb)) := hw5.cell 0
  have e0 : W.cell? ⟨w.heap.size + 1, 0, none⟩ = some (.bool false) := hh1.cell 0
  have e1 : W.cell? ⟨w.heap.size + 1, 1, none⟩ = some (.string (S [])) := hh1.cell 1
  have e2 : W.cell? ⟨w.heap.size + 1, 2, none⟩ = some (.string (S et)) := hh1.cell 2
  have d3 : W.cell? ⟨w.heap.size, 3, none⟩ = some (.string (S eo)) := hh0.cell 3
  have tblt := ha5.lt
  have hgW := hw5.lt
  have hk1 := HASK.out W.drew (ha5.keep (fun _ _ => rfl))
  have hk2 := HASK.out ((W.alloc (.cells #[.string (S [])] 99)).drew) (ha5.keep (fun b hb => by injection hb with hb; subst hb; exact Below.heap_alloc _ _ _ tblt))
  go_region
  all_goals
    clear hk1 hk2
    go_upto_region 7 with (fail)
    generalize hW7 : World.drew (World.alloc W _) = W7
    have hm7 : Mv W W7 [tb] := by rw [← hW7]; exact ((Mv.refl W [tb]).alloc _).drew
    have hd7 : W7.drew.heap = W7.heap := rfl
    obtain ⟨w9, hrun, ha9, ho9⟩ := HPUT.out W7.drew (ha5.keep (fun b hb => by injection hb with hb; subst hb; rw [← hW7]; exact Below.heap_alloc _ _ _ tblt))
    have hh0' : Has W7 w.heap.size 85 #[.bool false, .string (S ek), .string (S et), .string (S eo)] := by rw [← hW7]; exact hh0.of_alloc _
    have hh1' : Has W7 (w.heap.size + 1) 97 #[.bool false, .string (S []), .string (S et)] := by rw [← hW7]; exact hh1.of_alloc _
    have hw7 : Has W7 g 67 (millCells (some tb) nb (l ++ [e]) st) := by rw [← hW7]; exact hw5.of_alloc _
    have hn7 : Noted W7 nb st.notes := hn5.keep (by rw [← hW7]; exact Below.heap_alloc _ _ _ hn5.lt)
    have k0 : W7.cell? ⟨g, 0, none⟩ = some (.map (some tb)) := hw7.cell 0
    have e0 : W7.cell? ⟨w.heap.size + 1, 0, none⟩ = some (.bool false) := hh1'.cell 0
    have e1 : W7.cell? ⟨w.heap.size + 1, 1, none⟩ = some (.string (S [])) := hh1'.cell 1
    have e2 : W7.cell? ⟨w.heap.size + 1, 2, none⟩ = some (.string (S et)) := hh1'.cell 2
    have d3 : W7.cell? ⟨w.heap.size, 3, none⟩ = some (.string (S eo)) := hh0'.cell 3
    have HF : Hid (MillTab w9 g nb tb (l ++ [e]) st ∧ Mv w w9 [g, tb]) := by
      have o9 := ho9.block
      refine ⟨hfin.out _ ?_ ha9 ?_, ?_⟩
      · exact (o9 g hw7.lt (fun e => htg (by injection e with e; exact e.symm))).trans hw7
      · exact hn7.keep (o9 nb hn7.lt (fun e => htn (by injection e with e; exact e.symm)))
      · exact ((hm5.wide (by simp)).trans (hm7.wide (by simp))).trans ((Mv.of_only ho9 (s := [tb]) (by simp)).from_drew.wide (by simp))
    clear hW7 hm7 hh0' hh1' hw7 hn7 hm5 hh0 hh1 hw5 ha5 hn5 ha9 ho9
    go_region
    all_goals
      go_wp2_with fail
      go_returns
      exact ⟨rfl, HF.out⟩

set_option maxRecDepth 100000 in
set_option maxHeartbeats 4000000 in
theorem enter_11 (e : Mill.En) (g nb tb : Nat) (l : List Mill.En) (st : Mill.St) (w : World) (h : MillTab w g nb tb l st) (hk : e.key.length ≤ 5000000000000000) (ht : e.text.length ≤ 5000000000000000) (hT : Tabs w) (hg : 4 ≤ g) (hl : (l ++ [e]).length < maxLen) (htag : e.tag = true) (hask : Mill.ask l e.inp ≠ none) :
    Calls Tryd.prog 52 #[.pointer (some ⟨g, 0, none⟩), .agg #[.bool true, .string (S e.key), .string (S e.text), .string (S e.out)]] w (EnterPost w g nb tb (l ++ [e]) st) := by
  have htm : e.text.length ≤ maxLen := Nat.le_trans ht (by decide)
  have hinp : inVal e.inp = .agg #[.bool true, .string (S (Sha.sum e.key)), .string (S e.text)] := by
    unfold inVal Mill.En.inp; rw [htag]; rfl
  have hkey : Mill.keyed (l ++ [e]) = true := by rw [keyed_snoc, htag]; simp
  have hfin : Hid (∀ W, Has W g 67 (millCells (some tb) nb (l ++ [e]) st) → Asks W (some tb) (l ++ [e]) → Noted W nb st.notes → MillTab W g nb tb (l ++ [e]) st) := fun W h1 h2 h3 => ⟨h1, h2, h3, h.gn, h.tg, h.tn, hl⟩
  have HASK : Hid (∀ W, Asks W (some tb) l → (Instr.lookup 62 (.map (some tb)) (.agg #[.bool true, .string (S (Sha.sum e.key)), .string (S e.text)]) true).run Tryd.prog W = .ok (.tuple #[.agg #[.string (S ((Mill.ask l e.inp).getD []))], .bool true]) W) := fun W hW => by
    have := hW.look e.inp (by unfold Mill.En.inp; rw [htag]; simp only [if_true]; rw [Sha.sum_len]; decide) htm
    rw [hinp] at this
    rw [this]
    cases hm : Mill.ask l e.inp with
    | none => exact absurd hm hask
    | some o => rfl
  have HPUT : Hid (∀ W, Asks W (some tb) l → Asks W (some tb) (l ++ [e])) := fun W hW => hW.skip e (by cases hm : Mill.ask l e.inp with | none => exact absurd hm hask | some o => rfl)
  obtain ⟨hc, ha, hn, hgn, htg, htn, _⟩ := h
  have hglt := hc.lt
  have htlt := ha.lt
  have hnlt := hn.lt
  have hcs : (millCells (some tb) nb l st).setIfInBounds 1 (.bool true) = millCells (some tb) nb (l ++ [e]) st := by unfold millCells; rw [hkey]; rfl
  have hz1 := zeroIn
  have hz2 := zeroOut
  have c1 : w.cell? ⟨g, 1, none⟩ = some (.bool (Mill.keyed l)) := hc.cell 1
  have hS := fun W (hTW : Tabs W) => sum_any e.key W hk hTW
  generalize Sha.sum e.key = kh at hS HASK hinp
  have HS := Lib.hid hS; clear hS
  have HT := Lib.hid hT; clear hT
  have HC := Lib.hid (And.intro hc (And.intro ha hn))
  have HCS := Lib.hid hcs
  clear hc ha hn hcs hkey hinp hask hl htm hk ht
  generalize e.key = ek at *
  generalize e.text = et at *
  generalize e.out = eo at *
  go_enter Tryd.func52, Tryd.ntmps52
  go_upto_region 2 with (fail)
  generalize hW : World.alloc (World.alloc w _) _ = W
  have hb0 : Below w.heap.size w W := by rw [← hW]; exact ((Below.refl _ _).alloc (Nat.le_refl _) _).alloc (by simp) _
  have hh0 : Has W w.heap.size 85 #[.bool true, .string (S ek), .string (S et), .string (S eo)] := by rw [← hW]; exact (Has.made _ _ _).of_alloc _
  have hh1 : Has W (w.heap.size + 1) 97 #[.bool false, .string (S []), .string (S et)] := by
    have := Has.made (w.alloc (.cells #[.bool true, .string (S ek), .string (S et), .string (S eo)] 85)) 97 #[.bool false, .string (S []), .string (S et)]
    rw [← hW]; simpa using this
  have d0 : W.cell? ⟨w.heap.size, 0, none⟩ = some (.bool true) := hh0.cell 0
  have hlt1 := hh1.lt
  clear hW
  go_upto_region 3 with (fail)
  have c1W := (hb0.cell (p := ⟨g, 1, none⟩) hglt).trans c1
  have hy1 : W.cell? ⟨w.heap.size, 1, none⟩ = some (.string (S ek)) := hh0.cell 1
  have hy2 : W.cell? ⟨w.heap.size, 2, none⟩ = some (.string (S et)) := hh0.cell 2
  have e0 : W.cell? ⟨w.heap.size + 1, 0, none⟩ = some (.bool false) := hh1.cell 0
  have e1 : W.cell? ⟨w.heap.size + 1, 1, none⟩ = some (.string (S [])) := hh1.cell 1
  have e2 : W.cell? ⟨w.heap.size + 1, 2, none⟩ = some (.string (S et)) := hh1.cell 2
  have g0 := hh1.free 0
  have g1 := hh1.free 1
  have g2 := hh1.free 2
  replace hh0 : Has W.drew w.heap.size 85 #[.bool true, .string (S ek), .string (S et), .string (S eo)] := hh0
  replace hh1 : Has W.drew (w.heap.size + 1) 97 #[.bool false, .string (S []), .string (S et)] := hh1
  replace hb0 : Below w.heap.size w W.drew := hb0.drew
  replace hlt1 : w.heap.size + 1 < W.drew.heap.size := hlt1
  clear d0 c1 c1W
  go_region_held3 (fun w' => w'.cell? ⟨w.heap.size, 1, none⟩ = some (.string (S ek)) ∧ w'.cell? ⟨w.heap.size, 2, none⟩ = some (.string (S et))) (first | exact ⟨hy1, hy2⟩ | go_keep) (first | (go_at_call 61; refine (HS.out _ (HT.out.below hb0 HT.out.2.2)).mono ?_; rintro r1 w1 ⟨rfl, hb1⟩; have hh0 := hh0.below hb1 (by omega); have hh1 := hh1.below hb1 (by omega); have hb0 := hb0.trans (hb1.mono hb0.size); have hlt1 := Nat.lt_of_lt_of_le hlt1 hb1.size; have hy1 : w1.cell? ⟨w.heap.size, 1, none⟩ = some (.string (S ek)) := hh0.cell 1; have hy2 : w1.cell? ⟨w.heap.size, 2, none⟩ = some (.string (S et)) := hh0.cell 2; have e0 : w1.cell? ⟨w.heap.size + 1, 0, none⟩ = some (.bool false) := hh1.cell 0; have e1 : w1.cell? ⟨w.heap.size + 1, 1, none⟩ = some (.string (S [])) := hh1.cell 1; have e2 : w1.cell? ⟨w.heap.size + 1, 2, none⟩ = some (.string (S et)) := hh1.cell 2; have g0 := hh1.free 0; have g1 := hh1.free 1; have g2 := hh1.free 2; clear hb1))
  have hwm := HC.out.1.below hb0 hglt
  have m1 : w1.cell? ⟨g, 1, none⟩ = some (.bool (Mill.keyed l)) := hwm.cell 1
  have mf := hwm.free 1
  have hgne : g ≠ w.heap.size + 1 := by omega
  go_upto_region 5 with (fail)
  generalize hW : World.setCell (World.setCell (World.setCell (World.setCell w1 _ _) _ _) _ _) _ _ = W
  have hw5 : Has W g 67 (millCells (some tb) nb (l ++ [e]) st) := by rw [← hW, ← HCS.out]; exact (((hwm.other (p := ⟨w.heap.size + 1, 0, none⟩) hgne _).other (p := ⟨w.heap.size + 1, 1, none⟩) hgne _).other (p := ⟨w.heap.size + 1, 2, none⟩) hgne _).set 1 _
  have hm5 : Mv w W [g] := by rw [← hW]; exact (Mv.of_below (((hb0.setCell (p := ⟨w.heap.size + 1, 0, none⟩) (by simp) _).setCell (p := ⟨w.heap.size + 1, 1, none⟩) (by simp) _).setCell (p := ⟨w.heap.size + 1, 2, none⟩) (by simp) _) _).trans (Mv.of_only (Only.set _ g 1 _) (by simp))
  replace hh1 : Has W (w.heap.size + 1) 97 #[.bool true, .string (S kh), .string (S et)] := by rw [← hW]; exact (((hh1.set 0 _).set 1 _).set 2 _).other (p := ⟨g, 1, none⟩) hgne.symm _
  replace hh0 : Has W w.heap.size 85 #[.bool true, .string (S ek), .string (S et), .string (S eo)] := by rw [← hW]; exact (((hh0.other (p := ⟨w.heap.size + 1, 0, none⟩) (by simp) _).other (p := ⟨w.heap.size + 1, 1, none⟩) (by simp) _).other (p := ⟨w.heap.size + 1, 2, none⟩) (by simp) _).other (p := ⟨g, 1, none⟩) (by simp; omega) _
  have ha5 : Asks W (some tb) l := HC.out.2.1.keep (fun b hb => by injection hb with hb; subst hb; exact hm5.block _ htlt (by simpa using htg))
  have hn5 : Noted W nb st.notes := HC.out.2.2.keep (hm5.block _ hnlt (by simpa using hgn.symm))
  have hlt1 := hh1.lt
  clear hW hwm m1 mf hy1 hy2 g0 g1 g2 e0 e1 e2 hb0
  have k0 : W.cell? ⟨g, 0, none⟩ = some (.map (some tb)) := hw5.cell 0
  have e0 : W.cell? ⟨w.heap.size + 1, 0, none⟩ = some (.bool true) := hh1.cell 0
  have e1 : W.cell? ⟨w.heap.size + 1, 1, none⟩ = some (.string (S kh)) := hh1.cell 1
  have e2 : W.cell? ⟨w.heap.size + 1, 2, none⟩ = some (.string (S et)) := hh1.cell 2
  have d3 : W.cell? ⟨w.heap.size, 3, none⟩ = some (.string (S eo)) := hh0.cell 3
  have tblt := ha5.lt
  have hgW := hw5.lt
  have hk1 := HASK.out W.drew (ha5.keep (fun _ _ => rfl))
  have hk2 := HASK.out ((W.alloc (.cells #[.string (S [])] 99)).drew) (ha5.keep (fun b hb => by injection hb with hb; subst hb; exact Below.heap_alloc _ _ _ tblt))
  generalize (Mill.ask l e.inp).getD [] = ov at hk1 hk2
  go_region
  all_goals
    go_wp2_with fail
    go_returns
    have hmv := ((Mv.refl W [g]).alloc (.cells #[.string (S ov)] 99)).drew
    refine ⟨rfl, hfin.out _ ?_ (HPUT.out _ ?_) ?_, (hm5.trans hmv).wide (by simp)⟩
    · exact hw5.of_alloc _
    · exact ha5.keep (fun b hb => by injection hb with hb; subst hb; exact Below.heap_alloc _ _ _ tblt)
    · exact hn5.keep (Below.heap_alloc _ _ _ hn5.lt)

set_option maxRecDepth 100000 in
set_option maxHeartbeats 4000000 in
theorem enter_10 (e : Mill.En) (g nb tb : Nat) (l : List Mill.En) (st : Mill.St) (w : World) (h : MillTab w g nb tb l st) (hk : e.key.length ≤ 5000000000000000) (ht : e.text.length ≤ 5000000000000000) (hT : Tabs w) (hg : 4 ≤ g) (hl : (l ++ [e]).length < maxLen) (htag : e.tag = true) (hask : Mill.ask l e.inp = none) :
    Calls Tryd.prog 52 #[.pointer (some ⟨g, 0, none⟩), .agg #[.bool true, .string (S e.key), .string (S e.text), .string (S e.out)]] w (EnterPost w g nb tb (l ++ [e]) st) := by
  have htm : e.text.length ≤ maxLen := Nat.le_trans ht (by decide)
  have hinp : inVal e.inp = .agg #[.bool true, .string (S (Sha.sum e.key)), .string (S e.text)] := by
    unfold inVal Mill.En.inp; rw [htag]; rfl
  have hkey : Mill.keyed (l ++ [e]) = true := by rw [keyed_snoc, htag]; simp
  have hfin : Hid (∀ W, Has W g 67 (millCells (some tb) nb (l ++ [e]) st) → Asks W (some tb) (l ++ [e]) → Noted W nb st.notes → MillTab W g nb tb (l ++ [e]) st) := fun W h1 h2 h3 => ⟨h1, h2, h3, h.gn, h.tg, h.tn, hl⟩
  have HASK : Hid (∀ W, Asks W (some tb) l → (Instr.lookup 62 (.map (some tb)) (.agg #[.bool true, .string (S (Sha.sum e.key)), .string (S e.text)]) true).run Tryd.prog W = .ok (.tuple #[.agg #[.string (S ((Mill.ask l e.inp).getD []))], .bool false]) W) := fun W hW => by
    have := hW.look e.inp (by unfold Mill.En.inp; rw [htag]; simp only [if_true]; rw [Sha.sum_len]; decide) htm
    rw [hinp] at this
    rw [this]
    rw [hask]; rfl
  have HPUT : Hid (∀ W, Asks W (some tb) l → ∃ w', (Instr.mapUpdate 62 (.map (some tb)) (.agg #[.bool true, .string (S (Sha.sum e.key)), .string (S e.text)]) (.agg #[.string (S e.out)])).run Tryd.prog W = .ok () w' ∧ Asks w' (some tb) (l ++ [e]) ∧ Only W w' tb) := fun W hW => by
    obtain ⟨w', h1, h2, h3⟩ := hW.put e h.len htm hask
    rw [hinp] at h1
    exact ⟨w', h1, h2, h3⟩
  obtain ⟨hc, ha, hn, hgn, htg, htn, _⟩ := h
  have hglt := hc.lt
  have htlt := ha.lt
  have hnlt := hn.lt
  have hcs : (millCells (some tb) nb l st).setIfInBounds 1 (.bool true) = millCells (some tb) nb (l ++ [e]) st := by unfold millCells; rw [hkey]; rfl
  have hz1 := zeroIn
  have hz2 := zeroOut
  have c1 : w.cell? ⟨g, 1, none⟩ = some (.bool (Mill.keyed l)) := hc.cell 1
  have hS := fun W (hTW : Tabs W) => sum_any e.key W hk hTW
  generalize Sha.sum e.key = kh at hS HASK HPUT hinp
  have HS := Lib.hid hS; clear hS
  have HT := Lib.hid hT; clear hT
  have HC := Lib.hid (And.intro hc (And.intro ha hn))
  have HCS := Lib.hid hcs
  clear hc ha hn hcs hkey hinp hask hl htm hk ht
  generalize e.key = ek at *
  generalize e.text = et at *
  generalize e.out = eo at *
  go_enter Tryd.func52, Tryd.ntmps52
  go_upto_region 2 with (fail)
  generalize hW : World.alloc (World.alloc w _) _ = W
  have hb0 : Below w.heap.size w W := by rw [← hW]; exact ((Below.refl _ _).alloc (Nat.le_refl _) _).alloc (by simp) _
  have hh0 : Has W w.heap.size 85 #[.bool true, .string (S ek), .string (S et), .string (S eo)] := by rw [← hW]; exact (Has.made _ _ _).of_alloc _
  have hh1 : Has W (w.heap.size + 1) 97 #[.bool false, .string (S []), .string (S et)] := by
    have := Has.made (w.alloc (.cells #[.bool true, .string (S ek), .string (S et), .string (S eo)] 85)) 97 #[.bool false, .string (S []), .string (S et)]
    rw [← hW]; simpa using this
  have d0 : W.cell? ⟨w.heap.size, 0, none⟩ = some (.bool true) := hh0.cell 0
  have hlt1 := hh1.lt
  clear hW
  go_upto_region 3 with (fail)
  have c1W := (hb0.cell (p := ⟨g, 1, none⟩) hglt).trans c1
  have hy1 : W.cell? ⟨w.heap.size, 1, none⟩ = some (.string (S ek)) := hh0.cell 1
  have hy2 : W.cell? ⟨w.heap.size, 2, none⟩ = some (.string (S et)) := hh0.cell 2
  have e0 : W.cell? ⟨w.heap.size + 1, 0, none⟩ = some (.bool false) := hh1.cell 0
  have e1 : W.cell? ⟨w.heap.size + 1, 1, none⟩ = some (.string (S [])) := hh1.cell 1
  have e2 : W.cell? ⟨w.heap.size + 1, 2, none⟩ = some (.string (S et)) := hh1.cell 2
  have g0 := hh1.free 0
  have g1 := hh1.free 1
  have g2 := hh1.free 2
  replace hh0 : Has W.drew w.heap.size 85 #[.bool true, .string (S ek), .string (S et), .string (S eo)] := hh0
  replace hh1 : Has W.drew (w.heap.size + 1) 97 #[.bool false, .string (S []), .string (S et)] := hh1
  replace hb0 : Below w.heap.size w W.drew := hb0.drew
  replace hlt1 : w.heap.size + 1 < W.drew.heap.size := hlt1
  clear d0 c1 c1W
  go_region_held3 (fun w' => w'.cell? ⟨w.heap.size, 1, none⟩ = some (.string (S ek)) ∧ w'.cell? ⟨w.heap.size, 2, none⟩ = some (.string (S et))) (first | exact ⟨hy1, hy2⟩ | go_keep) (first | (go_at_call 61; refine (HS.out _ (HT.out.below hb0 HT.out.2.2)).mono ?_; rintro r1 w1 ⟨rfl, hb1⟩; have hh0 := hh0.below hb1 (by omega); have hh1 := hh1.below hb1 (by omega); have hb0 := hb0.trans (hb1.mono hb0.size); have hlt1 := Nat.lt_of_lt_of_le hlt1 hb1.size; have hy1 : w1.cell? ⟨w.heap.size, 1, none⟩ = some (.string (S ek)) := hh0.cell 1; have hy2 : w1.cell? ⟨w.heap.size, 2, none⟩ = some (.string (S et)) := hh0.cell 2; have e0 : w1.cell? ⟨w.heap.size + 1, 0, none⟩ = some (.bool false) := hh1.cell 0; have e1 : w1.cell? ⟨w.heap.size + 1, 1, none⟩ = some (.string (S [])) := hh1.cell 1; have e2 : w1.cell? ⟨w.heap.size + 1, 2, none⟩ = some (.string (S et)) := hh1.cell 2; have g0 := hh1.free 0; have g1 := hh1.free 1; have g2 := hh1.free 2; clear hb1))
  have hwm := HC.out.1.below hb0 hglt
  have m1 : w1.cell? ⟨g, 1, none⟩ = some (.bool (Mill.keyed l)) := hwm.cell 1
  have mf := hwm.free 1
  have hgne : g ≠ w.heap.size + 1 := by omega
  go_upto_region 5 with (fail)
  generalize hW : World.setCell (World.setCell (World.setCell (World.setCell w1 _ _) _ _) _ _) _ _ = W
  have hw5 : Has W g 67 (millCells (some tb) nb (l ++ [e]) st) := by rw [← hW, ← HCS.out]; exact (((hwm.other (p := ⟨w.heap.size + 1, 0, none⟩) hgne _).other (p := ⟨w.heap.size + 1, 1, none⟩) hgne _).other (p := ⟨w.heap.size + 1, 2, none⟩) hgne _).set 1 _
  have hm5 : Mv w W [g] := by rw [← hW]; exact (Mv.of_below (((hb0.setCell (p := ⟨w.heap.size + 1, 0, none⟩) (by simp) _).setCell (p := ⟨w.heap.size + 1, 1, none⟩) (by simp) _).setCell (p := ⟨w.heap.size + 1, 2, none⟩) (by simp) _) _).trans (Mv.of_only (Only.set _ g 1 _) (by simp))
  replace hh1 : Has W (w.heap.size + 1) 97 #[.bool true, .string (S kh), .string (S et)] := by rw [← hW]; exact (((hh1.set 0 _).set 1 _).set 2 _).other (p := ⟨g, 1, none⟩) hgne.symm _
  replace hh0 : Has W w.heap.size 85 #[.bool true, .string (S ek), .string (S et), .string (S eo)] := by rw [← hW]; exact (((hh0.other (p := ⟨w.heap.size + 1, 0, none⟩) (by simp) _).other (p := ⟨w.heap.size + 1, 1, none⟩) (by simp) _).other (p := ⟨w.heap.size + 1, 2, none⟩) (by simp) _).other (p := ⟨g, 1, none⟩) (by simp; omega) _
  have ha5 : Asks W (some tb) l := HC.out.2.1.keep (fun b hb => by injection hb with hb; subst hb; exact hm5.block _ htlt (by simpa using htg))
  have hn5 : Noted W nb st.notes := HC.out.2.2.keep (hm5.block _ hnlt (by simpa using hgn.symm))
  have hlt1 := hh1.lt
  clear hW hwm m1 mf hy1 hy2 g0 g1 g2 e0 e1 e2 hb0
  have k0 : W.cell? ⟨g, 0, none⟩ = some (.map (some tb)) := hw5.cell 0
  have e0 : W.cell? ⟨w.heap.size + 1, 0, none⟩ = some (.bool true) := hh1.cell 0
  have e1 : W.cell? ⟨w.heap.size + 1, 1, none⟩ = some (.string (S kh)) := hh1.cell 1
  have e2 : W.cell? ⟨w.heap.size + 1, 2, none⟩ = some (.string (S et)) := hh1.cell 2
  have d3 : W.cell? ⟨w.heap.size, 3, none⟩ = some (.string (S eo)) := hh0.cell 3
  have tblt := ha5.lt
  have hgW := hw5.lt
  have hk1 := HASK.out W.drew (ha5.keep (fun _ _ => rfl))
  have hk2 := HASK.out ((W.alloc (.cells #[.string (S [])] 99)).drew) (ha5.keep (fun b hb => by injection hb with hb; subst hb; exact Below.heap_alloc _ _ _ tblt))
  go_region
  all_goals
    clear hk1 hk2
    go_upto_region 7 with (fail)
    generalize hW7 : World.drew (World.alloc W _) = W7
    have hm7 : Mv W W7 [tb] := by rw [← hW7]; exact ((Mv.refl W [tb]).alloc _).drew
    have hd7 : W7.drew.heap = W7.heap := rfl
    obtain ⟨w9, hrun, ha9, ho9⟩ := HPUT.out W7.drew (ha5.keep (fun b hb => by injection hb with hb; subst hb; rw [← hW7]; exact Below.heap_alloc _ _ _ tblt))
    have hh0' : Has W7 w.heap.size 85 #[.bool true, .string (S ek), .string (S et), .string (S eo)] := by rw [← hW7]; exact hh0.of_alloc _
    have hh1' : Has W7 (w.heap.size + 1) 97 #[.bool true, .string (S kh), .string (S et)] := by rw [← hW7]; exact hh1.of_alloc _
    have hw7 : Has W7 g 67 (millCells (some tb) nb (l ++ [e]) st) := by rw [← hW7]; exact hw5.of_alloc _
    have hn7 : Noted W7 nb st.notes := hn5.keep (by rw [← hW7]; exact Below.heap_alloc _ _ _ hn5.lt)
    have k0 : W7.cell? ⟨g, 0, none⟩ = some (.map (some tb)) := hw7.cell 0
    have e0 : W7.cell? ⟨w.heap.size + 1, 0, none⟩ = some (.bool true) := hh1'.cell 0
    have e1 : W7.cell? ⟨w.heap.size + 1, 1, none⟩ = some (.string (S kh)) := hh1'.cell 1
    have e2 : W7.cell? ⟨w.heap.size + 1, 2, none⟩ = some (.string (S et)) := hh1'.cell 2
    have d3 : W7.cell? ⟨w.heap.size, 3, none⟩ = some (.string (S eo)) := hh0'.cell 3
    have HF : Hid (MillTab w9 g nb tb (l ++ [e]) st ∧ Mv w w9 [g, tb]) := by
      have o9 := ho9.block
      refine ⟨hfin.out _ ?_ ha9 ?_, ?_⟩
      · exact (o9 g hw7.lt (fun e => htg (by injection e with e; exact e.symm))).trans hw7
      · exact hn7.keep (o9 nb hn7.lt (fun e => htn (by injection e with e; exact e.symm)))
      · exact ((hm5.wide (by simp)).trans (hm7.wide (by simp))).trans ((Mv.of_only ho9 (s := [tb]) (by simp)).from_drew.wide (by simp))
    clear hW7 hm7 hh0' hh1' hw7 hn7 hm5 hh0 hh1 hw5 ha5 hn5 ha9 ho9
    go_region
    all_goals
      go_wp2_with fail
      go_returns
      exact ⟨rfl, HF.out⟩

theorem enter_any (e : Mill.En) (g nb tb : Nat) (l : List Mill.En) (st : Mill.St) (w : World) (h : MillTab w g nb tb l st) (hk : e.key.length ≤ 5000000000000000) (ht : e.text.length ≤ 5000000000000000) (hT : Tabs w) (hg : 4 ≤ g) (hl : (l ++ [e]).length < maxLen) :
    Calls Tryd.prog 52 #[.pointer (some ⟨g, 0, none⟩), enVal e] w (EnterPost w g nb tb (l ++ [e]) st) := by
  unfold enVal
  cases htag : e.tag with
  | true =>
    cases hask : Mill.ask l e.inp with
    | some o => exact enter_11 e g nb tb l st w h hk ht hT hg hl htag (by rw [hask]; simp)
    | none => exact enter_10 e g nb tb l st w h hk ht hT hg hl htag hask
  | false =>
    cases hask : Mill.ask l e.inp with
    | some o => exact enter_01 e g nb tb l st w h hk ht hT hg hl htag (by rw [hask]; simp)
    | none => exact enter_00 e g nb tb l st w h hk ht hT hg hl htag hask
end Go.Proofs.YtphhaiccpllnpaaDoor
