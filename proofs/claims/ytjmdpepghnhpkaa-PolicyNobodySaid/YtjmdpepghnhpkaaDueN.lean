/-
  A queue that nobody made.
-/
import Derived.Test.YtjmdpepghnhpkaaDueAw
import Derived.Laws.CopyOwn
import Derived.Deep.LoopGhost
import Derived.Deep.QuietTactic
import Derived.Deep.DeepCutAuto
import Derived.Deep.CutBlock
namespace Go.Proofs.Ytjmdpepghnhpkaa
open Go.RowKit Go.Shelf
set_option linter.unusedVariables false

/-- A due, and that there is none. -/
def NoDue (w : World) (r : Ending) (w' : World) : Prop := (∃ a b : Int, r = .returned (.tuple #[.agg #[.int .i64 a, .int .i64 b], .bool false])) ∧ Below w.heap.size w w'
set_option maxRecDepth 100000 in
theorem dn_add (a b : Int) (w : World) : Calls Try.prog 10 #[.pointer none, .agg #[.int .i64 a, .int .i64 b]] w fun r w' => r = .returned (.tuple #[]) ∧ Below w.heap.size w w' := by
  have hb : Below w.heap.size w (w.alloc (.cells #[.int .i64 a, .int .i64 b] 34)) := (Below.refl _ w).alloc (Nat.le_refl _) _
  go_enter Try.func10, Try.ntmps10
  go_wp2_with fail
  go_returns
  exact ⟨rfl, hb⟩
set_option maxRecDepth 100000 in
theorem dn_len (w : World) : Calls Try.prog 15 #[.pointer none] w fun r w' => r = .returned (.int .i64 0) ∧ Below w.heap.size w w' := by
  have hb := Below.refl w.heap.size w
  go_enter Try.func15, Try.ntmps15
  go_wp2_with fail
  go_ret
  exact ⟨rfl, hb⟩
set_option maxRecDepth 100000 in
theorem dn_all (w : World) : Calls Try.prog 17 #[.pointer none] w fun r w' => (∃ A cap, r = .returned (.slice A 0 cap)) ∧ Below w.heap.size w w' := by
  have hb := Below.refl w.heap.size w
  go_enter Try.func17, Try.ntmps17
  go_wp2_with fail
  go_ret
  exact ⟨⟨none, 0, rfl⟩, hb⟩
set_option maxRecDepth 100000 in
theorem dn_find (now : Int) (fv : Value) (w : World) : Calls Try.prog 30 #[.pointer none, .int .i64 0, .int .i64 now, fv] w fun r w' => r = .returned (.int .i64 (-1)) ∧ Below w.heap.size w w' := by
  have HL := Lib.hid (dn_len w)
  go_enter Try.func30, Try.ntmps30
  go_wp2_with fail
  refine HL.out.mono ?_
  rintro r w1 ⟨rfl, hb1⟩
  have HB := Lib.hid hb1
  clear hb1
  go_wp2_with fail
  go_ret
  exact ⟨rfl, HB.out⟩
set_option maxRecDepth 100000 in
theorem dn_drop (n : Int) (w : World) : Calls Try.prog 20 #[.pointer none, .int .i64 n] w fun r w' => r = .returned (.bool false) ∧ Below w.heap.size w w' := by
  have hb : Below w.heap.size w (w.alloc (.cells #[.int .i64 n] 3)) := (Below.refl _ w).alloc (Nat.le_refl _) _
  have HF := Lib.hid dn_find
  go_enter Try.func20, Try.ntmps20
  go_upto_region 1 with fail
  generalize w.alloc (.cells #[.int .i64 n] 3) = W0 at hb ⊢
  have HB := Lib.hid hb
  clear hb
  go_wp2_with fail
  refine (HF.out _ _ W0).mono ?_
  rintro r w1 ⟨rfl, hb1⟩
  have HB1 := Lib.hid (HB.out.trans (hb1.mono HB.out.size))
  clear hb1
  go_wp2_with fail
  go_ret
  exact ⟨rfl, HB1.out⟩
theorem dueSize : (Try.prog.info? 34).map (·.size) = some 2 := by kernel_rfl
theorem ret_due2 {fn : Func} {p u : Tmp} {R : Ending → World → Prop} {a : Act} {w : World} (h : fn.results = #[.cell p 34, .tmp u]) (g : Nat) (cs : Array Value) (v : Value)
    (hp : a.tmps.getD p undef = .pointer (some ⟨g, 0, none⟩)) (hu : a.tmps.getD u undef = v) (hd : a.defers = []) (hh : Has w g 34 cs) (hcs : cs.size = 2) (hR : R (.returned (.tuple #[.agg cs, v])) w) : bodyPost Try.prog fn R .ret a w :=
  bodyPost_ret (v := .tuple #[.agg cs, v]) (by
    have h1 : (loadVar 34 ⟨g, 0, none⟩).run Try.prog w = .ok (.agg cs) w := run_loadVar_row w g 34 34 cs (0, 0) _ hh Try.underlying34 rfl (by rw [hcs]; exact dueSize)
    rw [results_cell_tmp h, hp, hu]
    simp [asAddr, h1, Result.andThen]) hd hR
set_option maxRecDepth 100000 in
theorem dn_first (w : World) : Calls Try.prog 13 #[.pointer none] w (NoDue w) := by
  have hb : Below w.heap.size w (w.alloc (.cells #[.int .i64 0, .int .i64 0] 34)) := (Below.refl _ w).alloc (Nat.le_refl _) _
  have HH := Lib.hid (Has.made w 34 #[.int .i64 0, .int .i64 0])
  have HL := Lib.hid (fun w => dn_len w)
  go_enter Try.func13, Try.ntmps13
  go_upto_region 1 with fail
  generalize w.alloc (.cells #[.int .i64 0, .int .i64 0] 34) = W0 at hb HH ⊢
  obtain ⟨b0, hq0⟩ : ∃ b0, w.heap.size = b0 := ⟨_, rfl⟩
  rw [hq0] at HH ⊢
  have HQ := Lib.hid hq0
  have HB := Lib.hid hb
  clear hb hq0
  go_wp2_with fail
  refine (HL.out W0).mono ?_
  rintro r w1 ⟨rfl, hb1⟩
  have HB1 := Lib.hid (HB.out.trans (hb1.mono HB.out.size))
  have HH1 := Lib.hid (HH.out.below hb1 HH.out.lt)
  clear hb1 HH HB
  have hc0 : w1.cell? ⟨b0, 0, none⟩ = some (.int .i64 0) := HH1.out.cell 0
  have hc1 : w1.cell? ⟨b0, 1, none⟩ = some (.int .i64 0) := HH1.out.cell 1
  have f0 := HH1.out.free 0
  have f1 := HH1.out.free 1
  go_wp2_with fail
  have hle : w.heap.size ≤ b0 := by have := HQ.out; omega
  exact ret_due2 (p := 2) (u := 3) rfl b0 #[.int .i64 0, .int .i64 0] (.bool false) rfl rfl rfl ((HH1.out.set 0 _).set 1 _) rfl ⟨⟨0, 0, rfl⟩, (HB1.out.setCell (p := ⟨b0, 0, none⟩) hle _).setCell (p := ⟨b0, 1, none⟩) hle _⟩
set_option maxRecDepth 100000 in
theorem dn_take (w : World) : Calls Try.prog 14 #[.pointer none] w (NoDue w) := by
  have hb : Below w.heap.size w (w.alloc (.cells #[.int .i64 0, .int .i64 0] 34)) := (Below.refl _ w).alloc (Nat.le_refl _) _
  have HH := Lib.hid (Has.made w 34 #[.int .i64 0, .int .i64 0])
  have HL := Lib.hid (fun w => dn_first w)
  go_enter Try.func14, Try.ntmps14
  go_upto_region 1 with fail
  generalize w.alloc (.cells #[.int .i64 0, .int .i64 0] 34) = W0 at hb HH ⊢
  obtain ⟨b0, hq0⟩ : ∃ b0, w.heap.size = b0 := ⟨_, rfl⟩
  rw [hq0] at HH ⊢
  have HQ := Lib.hid hq0
  have HB := Lib.hid hb
  clear hb hq0
  go_wp2_with fail
  refine (HL.out W0).mono ?_
  rintro r w1 ⟨⟨a, b, rfl⟩, hb1⟩
  have HB1 := Lib.hid (HB.out.trans (hb1.mono HB.out.size))
  have HH1 := Lib.hid (HH.out.below hb1 HH.out.lt)
  clear hb1 HH HB
  go_upto_region 2 with fail
  have hb2 : Below w1.heap.size w1 (w1.alloc (.cells #[.int .i64 a, .int .i64 b] 34)) := (Below.refl _ w1).alloc (Nat.le_refl _) _
  have hh2 := Has.made w1 34 #[.int .i64 a, .int .i64 b]
  generalize w1.alloc (.cells #[.int .i64 a, .int .i64 b] 34) = W2 at hb2 hh2 ⊢
  have HB2 := Lib.hid (HB1.out.trans (hb2.mono HB1.out.size))
  have HH2 := Lib.hid (HH1.out.below hb2 HH1.out.lt)
  obtain ⟨b1, hq1⟩ : ∃ b1, w1.heap.size = b1 := ⟨_, rfl⟩
  rw [hq1] at hh2 ⊢
  have hc0 : W2.cell? ⟨b1, 0, none⟩ = some (.int .i64 a) := hh2.cell 0
  have hc1 : W2.cell? ⟨b1, 1, none⟩ = some (.int .i64 b) := hh2.cell 1
  clear hb2 hh2 hq1 HB1 HH1
  have d0 : W2.cell? ⟨b0, 0, none⟩ = some (.int .i64 0) := HH2.out.cell 0
  have d1 : W2.cell? ⟨b0, 1, none⟩ = some (.int .i64 0) := HH2.out.cell 1
  have f0 := HH2.out.free 0
  have f1 := HH2.out.free 1
  go_wp2_with fail
  have hle : w.heap.size ≤ b0 := by have := HQ.out; omega
  exact ret_due2 (p := 2) (u := 3) rfl b0 #[.int .i64 a, .int .i64 b] (.bool false) rfl rfl rfl ((HH2.out.set 0 _).set 1 _) rfl ⟨⟨a, b, rfl⟩, (HB2.out.setCell (p := ⟨b0, 0, none⟩) hle _).setCell (p := ⟨b0, 1, none⟩) hle _⟩
set_option maxRecDepth 100000 in
theorem dn_ready (now : Int) (w : World) : Calls Try.prog 18 #[.pointer none, .int .i64 now, .slice none 0 0] w (NoDue w) := by
  have hb : Below w.heap.size w (w.alloc (.cells #[.int .i64 0, .int .i64 0] 34)) := (Below.refl _ w).alloc (Nat.le_refl _) _
  have HH := Lib.hid (Has.made w 34 #[.int .i64 0, .int .i64 0])
  have HV := Lib.hid (valuesI_any none 0 0)
  have HF := Lib.hid dn_find
  go_enter Try.func18, Try.ntmps18
  go_upto_region 1 with fail
  generalize w.alloc (.cells #[.int .i64 0, .int .i64 0] 34) = W0 at hb HH ⊢
  obtain ⟨b0, hq0⟩ : ∃ b0, w.heap.size = b0 := ⟨_, rfl⟩
  rw [hq0] at HH ⊢
  have HQ := Lib.hid hq0
  have HB := Lib.hid hb
  clear hb hq0
  go_wp2_with fail
  refine (HV.out W0).mono ?_
  rintro r w1 ⟨rfl, e1⟩
  rw [e1]
  clear e1 w1
  have hbx : Below W0.heap.size W0 (W0.alloc (.cells #[.slice none 0 0] 47)) := (Below.refl _ _).alloc (Nat.le_refl _) _
  have hx := Has.made W0 47 #[.slice none 0 0]
  have HH1 := Lib.hid (HH.out.below hbx HH.out.lt)
  have HB1 := Lib.hid (HB.out.trans (hbx.mono HB.out.size))
  clear hbx HH HB
  generalize W0.alloc (.cells #[.slice none 0 0] 47) = W1 at hx HH1 HB1 ⊢
  generalize W0.heap.size = bx at hx ⊢
  have HSO := Lib.hid (sortedI_any (L := []) (by decide) (feedsI Fence.wide 2 trivial rfl (by omega) (L := []) (A := none) (cap := 0) (hx.cell 0) hx.lt (fun k hk => by cases hk) (by decide) (Nat.le_refl _)))
  clear hx
  go_wp2_with fail
  refine HSO.out.mono ?_
  rintro r w2 ⟨v, rfl, hown, hb2⟩
  obtain ⟨A5, n5, c5, rfl⟩ : ∃ A n c, v = .slice A n c := by
    rcases hown.2 with ⟨rfl, _⟩ | ⟨g, cap, cur, rfl, _⟩
    · exact ⟨_, _, _, rfl⟩
    · exact ⟨_, _, _, rfl⟩
  have hb3 : Below w2.heap.size w2 (w2.alloc (.cells #[.slice A5 n5 c5] 47)) := (Below.refl _ _).alloc (Nat.le_refl _) _
  have HH3 := Lib.hid ((HH1.out.below hb2 HH1.out.lt).below hb3 (HH1.out.below hb2 HH1.out.lt).lt)
  have HB2 := Lib.hid (HB1.out.trans (hb2.mono HB1.out.size))
  have HB3 := Lib.hid (HB2.out.trans (hb3.mono HB2.out.size))
  clear hown hb2 hb3 HSO HH1 HB1
  go_upto_region 2 with fail
  generalize w2.alloc (.cells #[.slice A5 n5 c5] 47) = W3 at HH3 HB3 ⊢
  generalize w2.heap.size = c
  go_wp2_with fail
  refine (HF.out _ _ W3).mono ?_
  rintro r w4 ⟨rfl, hb4⟩
  have HB4 := Lib.hid (HB3.out.trans (hb4.mono HB3.out.size))
  have HH4 := Lib.hid (HH3.out.below hb4 HH3.out.lt)
  clear hb4 HB3 HH3
  have hc0 : w4.cell? ⟨b0, 0, none⟩ = some (.int .i64 0) := HH4.out.cell 0
  have hc1 : w4.cell? ⟨b0, 1, none⟩ = some (.int .i64 0) := HH4.out.cell 1
  have f0 := HH4.out.free 0
  have f1 := HH4.out.free 1
  go_wp2_with fail
  have hle : w.heap.size ≤ b0 := by have := HQ.out; omega
  exact ret_due2 (p := 6) (u := 7) rfl b0 #[.int .i64 0, .int .i64 0] (.bool false) rfl rfl rfl ((HH4.out.set 0 _).set 1 _) rfl ⟨⟨0, 0, rfl⟩, (HB4.out.setCell (p := ⟨b0, 0, none⟩) hle _).setCell (p := ⟨b0, 1, none⟩) hle _⟩
end Go.Proofs.Ytjmdpepghnhpkaa
