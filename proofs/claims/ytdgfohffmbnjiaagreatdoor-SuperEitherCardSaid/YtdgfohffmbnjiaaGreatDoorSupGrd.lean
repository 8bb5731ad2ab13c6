/-
  SupGrd: the texts GrdW, DskN, SupAw in one.
-/
import Derived.Test.YtdgfohffmbnjiaaGreatDoorGrdN
import Derived.Test.YtdgfohffmbnjiaaGreatDoorDskAt
import Derived.Laws.MakeOwn
import Derived.Test.YtdgfohffmbnjiaaGreatDoorSupLaw
namespace Go.Proofs.YtdgfohffmbnjiaaGreatDoor
open Go.RowKit
set_option linter.unusedVariables false

/-- Behind w0 a guard was made, with its disk: nothing that was there has turned. -/
structure GW (w0 W : World) (gg g bd mb boot wr : Nat) (d : Dsk.St) : Prop where
  at_ : GuardAt W gg g bd mb boot wr d
  bel : Below w0.heap.size w0 W
  lo : ∀ k ∈ [gg, g, bd, mb], w0.heap.size ≤ k
theorem GW.below {w0 W W' : World} {gg g bd mb boot wr : Nat} {d : Dsk.St} (h : GW w0 W gg g bd mb boot wr d) (hb : Below W.heap.size W W') : GW w0 W' gg g bd mb boot wr d :=
  ⟨h.at_.below hb, h.bel.trans (hb.mono h.bel.size), h.lo⟩
theorem GW.mv {w0 W W' : World} {gg g bd mb boot wr wr' : Nat} {d d' : Dsk.St} (h : GW w0 W gg g bd mb boot wr d) (hg : GuardAt W' gg g bd mb boot wr' d') (hm : Mv W W' [gg, g, bd, mb]) : GW w0 W' gg g bd mb boot wr' d' :=
  ⟨hg, hm.below h.bel h.bel.size h.lo, h.lo⟩
theorem GW.mvd {w0 W W' : World} {gg g bd mb boot wr : Nat} {d d' : Dsk.St} (h : GW w0 W gg g bd mb boot wr d) (hg : GuardAt W' gg g bd mb boot wr d') (hm : Mv W W' [g, bd, mb]) : GW w0 W' gg g bd mb boot wr d' :=
  h.mv hg (hm.wide (by simp))
theorem GW.dsk {w0 W W' : World} {gg g bd mb boot wr : Nat} {d d' : Dsk.St} (h : GW w0 W gg g bd mb boot wr d) (hd : DiskAt W' g bd mb d') (hm : Mv W W' [g, bd, mb]) : GW w0 W' gg g bd mb boot wr d' :=
  h.mvd (h.at_.turn hd hm) hm
theorem GW.drew {w0 W : World} {gg g bd mb boot wr : Nat} {d : Dsk.St} (h : GW w0 W gg g bd mb boot wr d) : GW w0 W.drew gg g bd mb boot wr d := h.below (Below.refl _ W).drew
end Go.Proofs.YtdgfohffmbnjiaaGreatDoor

namespace Go.Proofs.YtdgfohffmbnjiaaGreatDoor
open Go.RowKit
set_option linter.unusedVariables false

theorem secInfo : ∃ i0 : TypeInfo, Tryz.prog.info? 71 = some i0 ∧ i0.zero = some (.agg (secV (List.replicate 64 0) 0)) ∧ i0.size = 65 ∧ i0.bytes = 72 := by
  have h : (Tryz.prog.info? 71).map (fun i => (i.zero, i.size, i.bytes)) = some (some (.agg (secV (List.replicate 64 0) 0)), 65, 72) := by kernel_rfl
  cases hq : Tryz.prog.info? 71 with
  | none => rw [hq] at h; cases h
  | some i0 =>
    rw [hq] at h
    injection h with h
    simp only [Prod.mk.injEq] at h
    exact ⟨i0, rfl, h.1, h.2.1, h.2.2⟩
theorem made_at (z : Array Value) (n i j : Nat) (hz : z.size = 65) (hi : i < n) (hj : j < 65) : (madeCells z (n * 65))[i * 65 + j]? = z[j]? := by
  unfold madeCells
  rw [Array.getElem?_map, Array.getElem?_range, if_pos (by omega)]
  have he : (i * 65 + j) % z.size = j := by rw [hz]; omega
  simp only [Option.map_some, he]
  rw [getElem!_pos z j (by omega), Array.getElem?_eq_getElem (by omega)]
theorem rows_made {w : World} {bd n : Nat} (h : Has w bd 71 (madeCells (secV (List.replicate 64 0) 0) (n * 65))) : Rows w bd (Dsk.fresh n).secs := by
  have hl : (Dsk.fresh n).secs.length = n := List.length_replicate
  refine ⟨_, h, by rw [size_madeCells, hl], fun i s hs => ?_⟩
  have hi : i < n := by rw [← hl]; exact (List.getElem?_eq_some_iff.1 hs).1
  have hs' : s = ⟨List.replicate 64 0, 0, none⟩ := by
    have : (List.replicate n (⟨List.replicate 64 0, 0, none⟩ : Dsk.Sec))[i]? = some s := hs
    rw [List.getElem?_replicate, if_pos hi] at this
    injection this with this
    exact this.symm
  subst hs'
  dsimp only
  intro j v hv
  have hsz := secVals_len (s := List.replicate 64 (0 : UInt8)) (a := 0) List.length_replicate
  have hj : j < 65 := by have := (List.getElem?_eq_some_iff.1 hv).1; omega
  rw [h.cell, made_at _ n i j (secV_size List.length_replicate) hi hj, List.getElem?_toArray]
  exact hv
theorem run_make_disk (n : Nat) (hn : n ≤ 8192) (W : World) : (Instr.makeSlice 72 (.int .i64 (n : Int)) (.int .i64 (n : Int))).run Tryz.prog W = .ok (.slice (some ⟨W.heap.size, 0, none⟩) n n) (W.alloc (.cells (madeCells (secV (List.replicate 64 0) 0) (n * 65)) 71)) := by
  obtain ⟨i0, h1, h2, h3, h4⟩ := secInfo
  have h := run_make (P := Tryz.prog) W 72 71 i0 _ Tryz.underlying72 h1 h2 .i64 .i64 (n : Int) (n : Int) (by omega) (by omega) (by rw [h4]; omega) (by omega)
  rw [h3, Int.toNat_natCast] at h
  exact h

def NewDPost (w : World) (n : Nat) (e : Ending) (w' : World) : Prop :=
  ∃ g bd mb, e = .returned (.tuple #[.pointer (some ⟨g, 0, none⟩), .int .i64 0]) ∧ DiskAt w' g bd mb (Dsk.fresh n) ∧ Below w.heap.size w w' ∧ w.heap.size ≤ g ∧ w.heap.size ≤ bd ∧ w.heap.size ≤ mb
set_option maxRecDepth 100000 in
set_option maxHeartbeats 1000000 in
theorem newd_any (n : Nat) (h0 : 0 < n) (hn : n ≤ 8192) (w : World) : Calls Tryz.prog 23 #[.int .i64 (n : Int)] w (NewDPost w n) := by
  have hmk := fun W => run_make_disk n hn W
  have hrow := fun (W : World) (bd : Nat) (h : Has W bd 71 (madeCells (secV (List.replicate 64 0) 0) (n * 65))) => rows_made h
  generalize madeCells (secV (List.replicate 64 0) 0) (n * 65) = M at hmk hrow
  have HROW : Hid _ := hrow; clear hrow
  have hmm := @run_makeMap Tryz.prog
  have n0 : (1 : Int) ≤ (n : Int) := by omega
  have n1 : (n : Int) ≤ 8192 := by omega
  go_enter Tryz.func23, Tryz.ntmps23
  go_wp2_with fail
  go_ret2
  have e0 : (Dsk.fresh n).secs.length = n := List.length_replicate
  obtain ⟨W1, hW1⟩ : ∃ W1, w.alloc (.cells M 71) = W1 := ⟨_, rfl⟩
  have s1 : W1.heap.size = w.heap.size + 1 := by rw [← hW1]; exact asize _ _
  have hb1 : Has W1 w.heap.size 71 M := by rw [← hW1]; exact Has.made _ _ _
  have hm2 := Pend.made W1
  rw [s1] at hm2
  obtain ⟨W2, hW2⟩ : ∃ W2, W1.alloc (.map #[] 0) = W2 := ⟨_, rfl⟩
  have s2 : W2.heap.size = w.heap.size + 1 + 1 := by rw [← hW2, asize, s1]
  have hb2 : Has W2 w.heap.size 71 M := by rw [← hW2]; exact hb1.of_alloc _
  rw [hW2] at hm2
  obtain ⟨C, hC⟩ : ∃ C, dskCells w.heap.size (w.heap.size + 1) n true 0 0 0 0 0 false = C := ⟨_, rfl⟩
  have hfin : NewDPost w n (.returned (.tuple #[.pointer (some ⟨w.heap.size + 1 + 1, 0, none⟩), .int .i64 0])) (W2.alloc (.cells C 76)) := by
    have hg := Has.made W2 76 C
    rw [s2, ← hC] at hg
    rw [← hC]
    have hb3 := hb2.of_alloc (.cells (dskCells w.heap.size (w.heap.size + 1) n true 0 0 0 0 0 false) 76)
    have hm3 : Pend (W2.alloc (.cells (dskCells w.heap.size (w.heap.size + 1) n true 0 0 0 0 0 false) 76)) (w.heap.size + 1) 0 (fun _ => none) := hm2.keep (Below.heap_alloc W2 _ _ hm2.lt)
    refine ⟨w.heap.size + 1 + 1, w.heap.size, w.heap.size + 1, rfl, ⟨⟨0, 0, 0, ?_, fun n' f' e => by cases e⟩, HROW.out _ _ hb3, ?_, Dsk.fresh_good n, by omega, by omega, by omega, by rw [e0]; exact h0, by rw [e0]; exact hn⟩, ?_, by omega, Nat.le_refl _, by omega⟩
    · rw [e0]; exact hg
    · refine (hm3.mono (Nat.zero_le _)).same fun x => ?_
      exact Dsk.pendI_none (fun s hs => by rw [(List.mem_replicate.1 hs).2]) x
    · rw [← hW2, ← hW1]
      exact (((Below.refl _ w).alloc (Nat.le_refl _) _).alloc (by simp) _).alloc (by simp; omega) _
  rw [← hC, ← hW2, ← hW1] at hfin
  exact hfin
theorem newd_bad (i : Int) (h : i < 1 ∨ 8192 < i) (w : World) : Calls Tryz.prog 23 #[.int .i64 i] w fun e w' => e = .returned (.tuple #[.pointer none, .int .i64 1]) ∧ w = w' := by
  by_cases h1 : i < 1
  · go_enter Tryz.func23, Tryz.ntmps23
    go_wp2_with fail
    go_ret2
    exact ⟨rfl, rfl⟩
  · have h2 : 8192 < i := by omega
    go_enter Tryz.func23, Tryz.ntmps23
    go_wp2_with fail
    go_ret2
    exact ⟨rfl, rfl⟩
end Go.Proofs.YtdgfohffmbnjiaaGreatDoor

namespace Go.Proofs.YtdgfohffmbnjiaaGreatDoor
open Go.RowKit
set_option linter.unusedVariables false

def SMadePost (w : World) (e : Ending) (w' : World) : Prop :=
  ∃ gg g bd mb, e = .returned (.tuple #[.pointer (some ⟨g, 0, none⟩), .pointer (some ⟨gg, 0, none⟩)]) ∧ GW w w' gg g bd mb 1 0 (Dsk.fresh 4)
set_option maxRecDepth 100000 in
theorem smade_any (w : World) : Calls Tryz.prog 6 #[] w (SMadePost w) := by
  have HNEW : Hid (Calls Tryz.prog 23 #[.int .i64 4] w (NewDPost w 4)) := Lib.hid (newd_any 4 (by decide) (by decide) w)
  have HG : Hid (∀ (W : World) (g bd mb : Nat), DiskAt W g bd mb (Dsk.fresh 4) → Calls Tryz.prog 24 #[.pointer (some ⟨g, 0, none⟩), .int .i64 1] W (NewGPost W g bd mb 1 (Dsk.fresh 4))) :=
    Lib.hid (fun W g bd mb h => gnew_any h 1 (by decide) (by decide))
  unfold NewDPost at HNEW
  unfold NewGPost at HG
  unfold SMadePost
  generalize Dsk.fresh 4 = d0 at HNEW HG ⊢
  go_enter Tryz.func6, Tryz.ntmps6
  go_wp2_with fail
  refine HNEW.out.mono ?_
  rintro r w1 ⟨g, bd, mb, rfl, hd, hb, hg, hbd, hmb⟩
  have H := Lib.hid (And.intro hd (And.intro hb (And.intro hg (And.intro hbd hmb))))
  clear hd hb hg hbd hmb
  go_wp2_with fail
  refine (HG.out _ _ _ _ H.out.1).mono ?_
  rintro r w2 ⟨gg, rfl, hga, hb, hgg⟩
  have HF : Hid (GW w w2 gg g bd mb 1 0 d0) := Lib.hid ⟨hga, H.out.2.1.trans (hb.mono H.out.2.1.size), by
    intro k hk
    obtain ⟨_, h2, h3, h4, h5⟩ := H.out
    have := h2.size
    simp only [List.mem_cons, List.not_mem_nil, or_false] at hk
    rcases hk with rfl | rfl | rfl | rfl <;> omega⟩
  clear hga hb hgg
  go_wp2_with fail
  go_ret2
  exact ⟨gg, g, bd, mb, rfl, HF.out⟩

/-- A superblock's own block beside a guard's blocks l. -/
structure Own (W : World) (l : List Nat) (o : Nat) (s : Sup) : Prop where
  has : Has W o 23 s.cells
  no : o ∉ l
theorem Own.below {W W' : World} {l : List Nat} {o : Nat} {s : Sup} (h : Own W l o s) (hb : Below W.heap.size W W') : Own W' l o s := ⟨h.has.below hb h.has.lt, h.no⟩
theorem Own.mv {W W' : World} {l : List Nat} {o : Nat} {s : Sup} (h : Own W l o s) (hm : Mv W W' l) : Own W' l o s := ⟨hm.has h.has h.no, h.no⟩
theorem Own.mvd {W W' : World} {gg g bd mb : Nat} {o : Nat} {s : Sup} (h : Own W [gg, g, bd, mb] o s) (hm : Mv W W' [g, bd, mb]) : Own W' [gg, g, bd, mb] o s := h.mv (hm.wide (by simp))
theorem Own.lies {W : World} {l : List Nat} {o : Nat} {s : Sup} (h : Own W l o s) : SupLies o s W := ⟨h.has.cell 0, h.has.cell 1, h.has.cell 2, h.has.cell 3⟩
theorem GW.own {w0 W : World} {gg g bd mb boot wr : Nat} {d : Dsk.St} (h : GW w0 W gg g bd mb boot wr d) (s : Sup) : Own (W.alloc (.cells s.cells 23)) [gg, g, bd, mb] W.heap.size s :=
  ⟨Has.made W _ _, by
    obtain ⟨h1, h2, h3, h4⟩ := h.at_.lts
    simp only [List.mem_cons, List.not_mem_nil, or_false]
    omega⟩
theorem GW.alloc {w0 W : World} {gg g bd mb boot wr : Nat} {d : Dsk.St} (h : GW w0 W gg g bd mb boot wr d) (o : Obj) : GW w0 (W.alloc o) gg g bd mb boot wr d := h.below ((Below.refl _ W).alloc (Nat.le_refl _) o)
theorem Own.alloc {W : World} {l : List Nat} {o : Nat} {s : Sup} (h : Own W l o s) (x : Obj) : Own (W.alloc x) l o s := h.below ((Below.refl _ W).alloc (Nat.le_refl _) x)
namespace Sup
def awA : Sup := ⟨1, 1, 0, 1⟩
def awB : Sup := ⟨2, 1, 0, 1⟩
def aw1 : Dsk.St := saved 1 0 (Dsk.fresh 4) awA
def aw2 : Dsk.St := saved 1 1 aw1 awB
theorem aw1_eq : save 1 0 (Dsk.fresh 4) awA = (0, 1, aw1) := save_ok (by decide) rfl rfl (by decide) (by decide)
theorem aw1_len : aw1.secs.length = 4 := by
  show (List.map _ (List.modify _ _ _)).length = 4
  rw [List.length_map, List.length_modify]
  rfl
theorem aw2_eq : save 1 1 aw1 awB = (0, 2, aw2) := save_ok (by decide) rfl rfl (by rw [aw1_len]; decide) (by decide)
theorem aw2_load : load aw2 = (awB, 0) := by decide +kernel
end Sup
set_option maxRecDepth 100000 in
theorem sawake_any (w : World) : Calls Tryz.prog 11 #[] w fun r w' => r = .returned (.bool true) ∧ Below w.heap.size w w' := by
  have HM := Lib.hid (smade_any w)
  have HN : Hid (∀ W, Calls Tryz.prog 20 #[.agg #[.int .i64 1, .int .i64 1, .int .i64 0, .int .i64 1], .bool false] W fun e w' => e = .returned (.agg #[.int .i64 2, .int .i64 1, .int .i64 0, .int .i64 1]) ∧ Below W.heap.size W w') := Lib.hid (fun W => by
    have := snext_any ⟨1, 1, 0, 1⟩ false W
    rw [Sup.nextW_eq (by decide)] at this
    exact this)
  have HA : Hid (∀ (W : World) (gg g bd mb : Nat), GuardAt W gg g bd mb 1 0 (Dsk.fresh 4) → Calls Tryz.prog 9 #[.pointer (some ⟨gg, 0, none⟩), .agg #[.int .i64 1, .int .i64 1, .int .i64 0, .int .i64 1]] W fun e w' =>
      e = .returned (.int .i64 0) ∧ GuardAt w' gg g bd mb 1 1 Sup.aw1 ∧ Mv W w' [gg, g, bd, mb]) := Lib.hid (fun W gg g bd mb h => by
    have := ssave_any h (by decide) (by decide) (by decide) Sup.awA
    rw [Sup.aw1_eq] at this
    exact this)
  have HB : Hid (∀ (W : World) (gg g bd mb : Nat), GuardAt W gg g bd mb 1 1 Sup.aw1 → Calls Tryz.prog 9 #[.pointer (some ⟨gg, 0, none⟩), .agg #[.int .i64 2, .int .i64 1, .int .i64 0, .int .i64 1]] W fun e w' =>
      e = .returned (.int .i64 0) ∧ GuardAt w' gg g bd mb 1 2 Sup.aw2 ∧ Mv W w' [gg, g, bd, mb]) := Lib.hid (fun W gg g bd mb h => by
    have := ssave_any h (by decide) (by decide) (by decide) Sup.awB
    rw [Sup.aw2_eq] at this
    exact this)
  have HL : Hid (∀ (W : World) (g bd mb : Nat), DiskAt W g bd mb Sup.aw2 → Calls Tryz.prog 13 #[.pointer (some ⟨g, 0, none⟩)] W fun e w' =>
      e = .returned (.tuple #[.agg #[.int .i64 2, .int .i64 1, .int .i64 0, .int .i64 1], .int .i64 0]) ∧ Below W.heap.size W w') := Lib.hid (fun W g bd mb h => by
    have := sload_any h
    rw [Sup.aw2_load] at this
    exact this)
  unfold SMadePost at HM
  generalize Dsk.fresh 4 = d0 at HM HA
  generalize Sup.aw1 = d1 at HA HB
  generalize Sup.aw2 = d2 at HB HL
  go_enter Tryz.func11, Tryz.ntmps11
  go_wp2_with fail
  refine HM.out.mono ?_
  rintro r w1 ⟨gg, g, bd, mb, rfl, hg⟩
  have HO := Lib.hid (hg.own ⟨1, 1, 0, 1⟩)
  have H := Lib.hid (hg.alloc (.cells #[.int .i64 1, .int .i64 1, .int .i64 0, .int .i64 1] 23))
  clear hg HM
  go_wp2_with fail
  refine (HN.out _).mono ?_
  rintro r w2 ⟨rfl, hb⟩
  replace HO := Lib.hid (HO.out.below hb)
  replace H := Lib.hid (H.out.below hb)
  clear hb HN
  have HP := Lib.hid (H.out.own ⟨2, 1, 0, 1⟩)
  replace HO := Lib.hid (HO.out.alloc (.cells #[.int .i64 2, .int .i64 1, .int .i64 0, .int .i64 1] 23))
  replace H := Lib.hid (H.out.alloc (.cells #[.int .i64 2, .int .i64 1, .int .i64 0, .int .i64 1] 23))
  generalize w1.heap.size = oa at HO ⊢
  obtain ⟨a0, a1, a2, a3⟩ := HO.out.lies
  dsimp only at a0 a1 a2 a3
  go_wp2_with fail
  refine (HA.out _ _ _ _ _ H.out.at_).mono ?_
  rintro r w3 ⟨rfl, hg, hm⟩
  replace H := Lib.hid (H.out.mv hg hm)
  replace HO := Lib.hid (HO.out.mv hm)
  replace HP := Lib.hid (HP.out.mv hm)
  clear hg hm a0 a1 a2 a3 HA
  generalize w2.heap.size = ob at HP ⊢
  obtain ⟨b0, b1, b2, b3⟩ := HP.out.lies
  dsimp only at b0 b1 b2 b3
  go_wp2_with fail
  refine (HB.out _ _ _ _ _ H.out.at_).mono ?_
  rintro r w4 ⟨rfl, hg, hm⟩
  replace H := Lib.hid (H.out.mv hg hm)
  replace HP := Lib.hid (HP.out.mv hm)
  clear hg hm b0 b1 b2 b3 HB
  go_wp2_with fail
  refine (HL.out _ _ _ _ H.out.at_.disk).mono ?_
  rintro r w5 ⟨rfl, hb⟩
  replace H := Lib.hid ((H.out.below hb).alloc (.cells #[.int .i64 2, .int .i64 1, .int .i64 0, .int .i64 1] 23))
  replace HP := Lib.hid ((HP.out.below hb).alloc (.cells #[.int .i64 2, .int .i64 1, .int .i64 0, .int .i64 1] 23))
  clear hb HL
  obtain ⟨b0, b1, b2, b3⟩ := HP.out.lies
  dsimp only at b0 b1 b2 b3
  have hq := fun W => run_supEq ⟨2, 1, 0, 1⟩ ⟨2, 1, 0, 1⟩ W
  go_wp2_with fail
  go_ret
  exact ⟨rfl, H.out.bel⟩
end Go.Proofs.YtdgfohffmbnjiaaGreatDoor
