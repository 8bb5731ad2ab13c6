/-
  The contract of SuperEither. Made by wip/gen/mksupere.py.
-/
import Derived.Test.YtdgfohffmbnjiaaGreatDoorSuperSaves
import Derived.Test.YtdgfohffmbnjiaaGreatDoorDskArg
namespace Go.Proofs.YtdgfohffmbnjiaaGreatDoor
open Go.ChangeShapes Go.WideShapes Go.ChangeAt Go.RowKit
open Go.ChangeMaps (open_string shut_string)
set_option linter.unusedVariables false

namespace Sup
/-- What is saved next, of the start b. -/
def nx (s : Sup) (turn : Bool) (b : Int) : Sup := ⟨(nextW s turn).gen, b, (nextW s turn).side, (nextW s turn).seed⟩
theorem nx_gen {s : Sup} (h : right s = true) (turn : Bool) (b : Int) : (nx s turn b).gen = s.gen + 1 := by
  show (nextW s turn).gen = _
  rw [nextW_eq h]
  cases turn <;> rfl
def q2 (s : Sup) (k : Nat) (f : Dsk.Fall) : Dsk.St := { sd s with arm := some (k, f) }
def q3 (s n : Sup) (k : Nat) (f : Dsk.Fall) : Int × Nat × Dsk.St := save 1 1 (q2 s k f) n
def q4 (s n : Sup) (k : Nat) (f : Dsk.Fall) : Dsk.St := { (q3 s n k f).2.2 with up := true }
theorem d_fin {s n : Sup} (hs : right s = true) (hn : right n = true) (hg : n.gen = s.gen + 1) (f : Dsk.Fall) (k : Nat) (hk : k ≤ 1) :
    (q3 s n k f).1 = 8 ∧ Dsk.start (q3 s n k f).2.2 = (0, q4 s n k f) ∧ (load (q4 s n k f) = (s, 0) ∨ load (q4 s n k f) = (n, 0)) := by
  obtain ⟨h1, h2, _, _, h5⟩ := either hs hn hg f k hk _ rfl
  refine ⟨h1, ?_, h5⟩
  have h2' : (q3 s n k f).2.2.up = false := h2
  unfold Dsk.start
  rw [if_neg (by rw [h2']; decide)]
  rfl
end Sup
/-- A fall's own block beside a guard's blocks l. -/
structure OwnF (W : World) (l : List Nat) (o : Nat) (f : Dsk.Fall) : Prop where
  has : Has W o 49 #[.int .u64 (f.keep : Int), .int .i64 f.tear]
  no : o ∉ l
theorem OwnF.below {W W' : World} {l : List Nat} {o : Nat} {f : Dsk.Fall} (h : OwnF W l o f) (hb : Below W.heap.size W W') : OwnF W' l o f := ⟨h.has.below hb h.has.lt, h.no⟩
theorem OwnF.mv {W W' : World} {l : List Nat} {o : Nat} {f : Dsk.Fall} (h : OwnF W l o f) (hm : Mv W W' l) : OwnF W' l o f := ⟨hm.has h.has h.no, h.no⟩
/-- What SuperEither holds: its superblock, its fall, the guard. -/
structure EW (w W : World) (gg g bd mb wr : Nat) (d : Dsk.St) (s : Sup) (f : Dsk.Fall) : Prop where
  gw : GW w W gg g bd mb 1 wr d
  own : Own W [gg, g, bd, mb] w.heap.size s
  fal : OwnF W [gg, g, bd, mb] (w.heap.size + 1) f
theorem EW.below {w W W' : World} {gg g bd mb wr : Nat} {d : Dsk.St} {s : Sup} {f : Dsk.Fall} (h : EW w W gg g bd mb wr d s f) (hb : Below W.heap.size W W') : EW w W' gg g bd mb wr d s f := ⟨h.gw.below hb, h.own.below hb, h.fal.below hb⟩
theorem EW.mv {w W W' : World} {gg g bd mb wr wr' : Nat} {d d' : Dsk.St} {s : Sup} {f : Dsk.Fall} (h : EW w W gg g bd mb wr d s f) (hg : GuardAt W' gg g bd mb 1 wr' d') (hm : Mv W W' [gg, g, bd, mb]) : EW w W' gg g bd mb wr' d' s f := ⟨h.gw.mv hg hm, h.own.mv hm, h.fal.mv hm⟩
theorem EW.dsk {w W W' : World} {gg g bd mb wr : Nat} {d d' : Dsk.St} {s : Sup} {f : Dsk.Fall} (h : EW w W gg g bd mb wr d s f) (hd : DiskAt W' g bd mb d') (hm : Mv W W' [g, bd, mb]) : EW w W' gg g bd mb wr d' s f := ⟨h.gw.dsk hd hm, h.own.mvd hm, h.fal.mv (hm.wide (by simp))⟩
theorem EW.alloc {w W : World} {gg g bd mb wr : Nat} {d : Dsk.St} {s : Sup} {f : Dsk.Fall} (h : EW w W gg g bd mb wr d s f) (o : Obj) : EW w (W.alloc o) gg g bd mb wr d s f := h.below ((Below.refl _ W).alloc (Nat.le_refl _) o)
theorem EW.made {w W : World} {gg g bd mb wr : Nat} {d : Dsk.St} {s : Sup} {f : Dsk.Fall}
    (h : GW ((w.alloc (.cells s.cells 23)).alloc (.cells #[.int .u64 (f.keep : Int), .int .i64 f.tear] 49)) W gg g bd mb 1 wr d) : EW w W gg g bd mb wr d s f := by
  have a1 := (Has.made w 23 s.cells).of_alloc (.cells #[.int .u64 (f.keep : Int), .int .i64 f.tear] 49)
  have a2 := Has.made (w.alloc (.cells s.cells 23)) 49 #[.int .u64 (f.keep : Int), .int .i64 f.tear]
  rw [asize] at a2
  have b0 := supUp (w := w) (.cells s.cells 23) (.cells #[.int .u64 (f.keep : Int), .int .i64 f.tear] 49)
  have hl : ∀ k ∈ [gg, g, bd, mb], w.heap.size + 2 ≤ k := fun k hk => by have := h.lo k hk; simp only [asize] at this; omega
  exact ⟨⟨h.at_, b0.trans (h.bel.mono b0.size), fun k hk => by have := hl k hk; omega⟩, ⟨a1.below h.bel (by simp only [asize]; omega), fun hm => by have := hl _ hm; omega⟩, ⟨a2.below h.bel (by simp only [asize]; omega), fun hm => by have := hl _ hm; omega⟩⟩
theorem EW.cs {w W : World} {gg g bd mb wr : Nat} {d : Dsk.St} {s : Sup} {f : Dsk.Fall} (h : EW w W gg g bd mb wr d s f) :
    SupLies w.heap.size s W ∧ W.cell? ⟨w.heap.size + 1, 0, none⟩ = some (.int .u64 (f.keep : Int)) ∧ W.cell? ⟨w.heap.size + 1, 1, none⟩ = some (.int .i64 f.tear) := ⟨h.own.lies, h.fal.has.cell 0, h.fal.has.cell 1⟩

set_option maxRecDepth 100000 in
set_option maxHeartbeats 8000000 in
theorem seither_any (s : Sup) (turn : Bool) (boot acts : Int) (f : Dsk.Fall) (hf : Fok f) (w : World) :
    Calls Tryz.prog 5 #[s.v, .bool turn, .int .i64 boot, .int .i64 acts, .agg #[.int .u64 (f.keep : Int), .int .i64 f.tear]] w fun e w' => e = .returned (.bool true) ∧ Below w.heap.size w w' := by
  have HAW : Hid _ := fun W => sawake_any W
  have HM : Hid _ := fun W => smade_any W
  unfold SMadePost at HM
  have HRS : Hid (∀ W, Calls Tryz.prog 8 #[.agg #[.int .i64 s.gen, .int .i64 s.boot, .int .i64 s.side, .int .i64 s.seed]] W fun e w' => e = .returned (.bool (Sup.right s)) ∧ Below W.heap.size W w') := Lib.hid (fun W => lsright_any s W)
  have HN : Hid (∀ W, Calls Tryz.prog 20 #[.agg #[.int .i64 s.gen, .int .i64 s.boot, .int .i64 s.side, .int .i64 s.seed], .bool turn] W fun e w' => e = .returned (.agg #[.int .i64 (Sup.nx s turn boot).gen, .int .i64 (Sup.nextW s turn).boot, .int .i64 (Sup.nx s turn boot).side, .int .i64 (Sup.nx s turn boot).seed]) ∧ Below W.heap.size W w') := Lib.hid (fun W => snext_any s turn W)
  have HRN : Hid (∀ W, Calls Tryz.prog 8 #[.agg #[.int .i64 (Sup.nx s turn boot).gen, .int .i64 boot, .int .i64 (Sup.nx s turn boot).side, .int .i64 (Sup.nx s turn boot).seed]] W fun e w' => e = .returned (.bool (Sup.right (Sup.nx s turn boot))) ∧ Below W.heap.size W w') := Lib.hid (fun W => lsright_any (Sup.nx s turn boot) W)
  have HMD : Hid (∀ (W : World) (gg g bd mb : Nat) (d : Dsk.St), GW ((w.alloc (.cells #[.int .i64 s.gen, .int .i64 s.boot, .int .i64 s.side, .int .i64 s.seed] 23)).alloc (.cells #[.int .u64 (f.keep : Int), .int .i64 f.tear] 49)) W gg g bd mb 1 0 d → EW w W gg g bd mb 0 d s f) := Lib.hid (fun W gg g bd mb d h => EW.made h)
  have HC : Hid (∀ (W : World) (gg g bd mb wr : Nat) (d : Dsk.St), EW w W gg g bd mb wr d s f → (W.cell? ⟨w.heap.size, 0, none⟩ = some (.int .i64 s.gen) ∧ W.cell? ⟨w.heap.size, 1, none⟩ = some (.int .i64 s.boot) ∧ W.cell? ⟨w.heap.size, 2, none⟩ = some (.int .i64 s.side) ∧ W.cell? ⟨w.heap.size, 3, none⟩ = some (.int .i64 s.seed)) ∧ W.cell? ⟨w.heap.size + 1, 0, none⟩ = some (.int .u64 (f.keep : Int)) ∧ W.cell? ⟨w.heap.size + 1, 1, none⟩ = some (.int .i64 f.tear)) := Lib.hid (fun W gg g bd mb wr d h => h.cs)
  have HOW : Hid (∀ (W : World) (gg g bd mb wr : Nat) (d : Dsk.St), EW w W gg g bd mb wr d s f → Own (W.alloc (.cells #[.int .i64 (Sup.nx s turn boot).gen, .int .i64 boot, .int .i64 (Sup.nx s turn boot).side, .int .i64 (Sup.nx s turn boot).seed] 23)) [gg, g, bd, mb] W.heap.size (Sup.nx s turn boot)) := Lib.hid (fun W gg g bd mb wr d h => h.gw.own (Sup.nx s turn boot))
  have HNL : Hid (∀ (W : World) (l : List Nat) (o : Nat), Own W l o (Sup.nx s turn boot) → W.cell? ⟨o, 0, none⟩ = some (.int .i64 (Sup.nx s turn boot).gen) ∧ W.cell? ⟨o, 1, none⟩ = some (.int .i64 boot) ∧ W.cell? ⟨o, 2, none⟩ = some (.int .i64 (Sup.nx s turn boot).side) ∧ W.cell? ⟨o, 3, none⟩ = some (.int .i64 (Sup.nx s turn boot).seed)) := Lib.hid (fun W l o h => h.lies)
  cases hs : Sup.right s with
  | false =>
    rw [hs] at HRS
    clear hs hf
    generalize hnx : Sup.nx s turn boot = n at HN HRN HOW HNL
    clear hnx
    generalize (Sup.nextW s turn).boot = ob at HN
    obtain ⟨y1, y2, y3, y4⟩ := n
    obtain ⟨x1, x2, x3, x4⟩ := s
    rw [Sup.v_eq]
    dsimp only at HN HRN HRS HMD HC HOW HNL
    go_enter Tryz.func5, Tryz.ntmps5
    go_wp2_with fail
    refine (HM.out _).mono ?_
    rintro r w1 ⟨gg, g, bd, mb, rfl, hg⟩
    have H := Lib.hid (HMD.out _ _ _ _ _ _ hg)
    clear hg HM HMD
    obtain ⟨⟨c0, c1, c2, c3⟩, f0, f1⟩ := HC.out _ _ _ _ _ _ _ H.out
    go_wp2_with fail
    refine (HN.out _).mono ?_
    rintro r w2 ⟨rfl, hb⟩
    replace H := Lib.hid (H.out.below hb)
    clear hb c0 c1 c2 c3 f0 f1 HN
    have HX := Lib.hid (HOW.out _ _ _ _ _ _ _ H.out)
    replace H := Lib.hid (H.out.alloc (.cells #[.int .i64 y1, .int .i64 boot, .int .i64 y3, .int .i64 y4] 23))
    clear HOW
    obtain ⟨⟨c0, c1, c2, c3⟩, f0, f1⟩ := HC.out _ _ _ _ _ _ _ H.out
    go_upto_region 6 with fail
    generalize w2.alloc (.cells #[.int .i64 y1, .int .i64 boot, .int .i64 y3, .int .i64 y4] 23) = W0 at H HX c0 c1 c2 c3 f0 f1 ⊢
    generalize w2.heap.size = o at HX ⊢
    go_wp2_with fail
    refine (HRS.out _).mono ?_
    rintro r w3 ⟨rfl, hb⟩
    replace H := Lib.hid (H.out.below hb)
    replace HX := Lib.hid (HX.out.below hb)
    clear hb c0 c1 c2 c3 f0 f1 HRS
    go_wp2_with fail
    refine (HAW.out _).mono ?_
    rintro r w8 ⟨rfl, hb⟩
    replace H := Lib.hid (H.out.below hb)
    clear hb
    go_wp2_with fail
    go_ret
    exact ⟨rfl, H.out.gw.bel⟩
  | true =>
    rw [hs] at HRS
    cases hn : Sup.right (Sup.nx s turn boot) with
    | false =>
      rw [hn] at HRN
      clear hs hn hf
      generalize hnx : Sup.nx s turn boot = n at HN HRN HOW HNL
      clear hnx
      generalize (Sup.nextW s turn).boot = ob at HN
      obtain ⟨y1, y2, y3, y4⟩ := n
      obtain ⟨x1, x2, x3, x4⟩ := s
      rw [Sup.v_eq]
      dsimp only at HN HRN HRS HMD HC HOW HNL
      go_enter Tryz.func5, Tryz.ntmps5
      go_wp2_with fail
      refine (HM.out _).mono ?_
      rintro r w1 ⟨gg, g, bd, mb, rfl, hg⟩
      have H := Lib.hid (HMD.out _ _ _ _ _ _ hg)
      clear hg HM HMD
      obtain ⟨⟨c0, c1, c2, c3⟩, f0, f1⟩ := HC.out _ _ _ _ _ _ _ H.out
      go_wp2_with fail
      refine (HN.out _).mono ?_
      rintro r w2 ⟨rfl, hb⟩
      replace H := Lib.hid (H.out.below hb)
      clear hb c0 c1 c2 c3 f0 f1 HN
      have HX := Lib.hid (HOW.out _ _ _ _ _ _ _ H.out)
      replace H := Lib.hid (H.out.alloc (.cells #[.int .i64 y1, .int .i64 boot, .int .i64 y3, .int .i64 y4] 23))
      clear HOW
      obtain ⟨⟨c0, c1, c2, c3⟩, f0, f1⟩ := HC.out _ _ _ _ _ _ _ H.out
      go_upto_region 6 with fail
      generalize w2.alloc (.cells #[.int .i64 y1, .int .i64 boot, .int .i64 y3, .int .i64 y4] 23) = W0 at H HX c0 c1 c2 c3 f0 f1 ⊢
      generalize w2.heap.size = o at HX ⊢
      go_wp2_with fail
      refine (HRS.out _).mono ?_
      rintro r w3 ⟨rfl, hb⟩
      replace H := Lib.hid (H.out.below hb)
      replace HX := Lib.hid (HX.out.below hb)
      clear hb c0 c1 c2 c3 f0 f1 HRS
      obtain ⟨y0', y1', y2', y3'⟩ := HNL.out _ _ _ HX.out
      go_wp2_with fail
      refine (HRN.out _).mono ?_
      rintro r w4 ⟨rfl, hb⟩
      replace H := Lib.hid (H.out.below hb)
      replace HX := Lib.hid (HX.out.below hb)
      clear hb y0' y1' y2' y3' HRN
      go_wp2_with fail
      refine (HAW.out _).mono ?_
      rintro r w8 ⟨rfl, hb⟩
      replace H := Lib.hid (H.out.below hb)
      clear hb
      go_wp2_with fail
      go_ret
      exact ⟨rfl, H.out.gw.bel⟩
    | true =>
      rw [hn] at HRN
      by_cases ha0 : acts < 0
      · clear hs hn hf
        generalize hnx : Sup.nx s turn boot = n at HN HRN HOW HNL
        clear hnx
        generalize (Sup.nextW s turn).boot = ob at HN
        obtain ⟨y1, y2, y3, y4⟩ := n
        obtain ⟨x1, x2, x3, x4⟩ := s
        rw [Sup.v_eq]
        dsimp only at HN HRN HRS HMD HC HOW HNL
        go_enter Tryz.func5, Tryz.ntmps5
        go_wp2_with fail
        refine (HM.out _).mono ?_
        rintro r w1 ⟨gg, g, bd, mb, rfl, hg⟩
        have H := Lib.hid (HMD.out _ _ _ _ _ _ hg)
        clear hg HM HMD
        obtain ⟨⟨c0, c1, c2, c3⟩, f0, f1⟩ := HC.out _ _ _ _ _ _ _ H.out
        go_wp2_with fail
        refine (HN.out _).mono ?_
        rintro r w2 ⟨rfl, hb⟩
        replace H := Lib.hid (H.out.below hb)
        clear hb c0 c1 c2 c3 f0 f1 HN
        have HX := Lib.hid (HOW.out _ _ _ _ _ _ _ H.out)
        replace H := Lib.hid (H.out.alloc (.cells #[.int .i64 y1, .int .i64 boot, .int .i64 y3, .int .i64 y4] 23))
        clear HOW
        obtain ⟨⟨c0, c1, c2, c3⟩, f0, f1⟩ := HC.out _ _ _ _ _ _ _ H.out
        go_upto_region 6 with fail
        generalize w2.alloc (.cells #[.int .i64 y1, .int .i64 boot, .int .i64 y3, .int .i64 y4] 23) = W0 at H HX c0 c1 c2 c3 f0 f1 ⊢
        generalize w2.heap.size = o at HX ⊢
        go_wp2_with fail
        refine (HRS.out _).mono ?_
        rintro r w3 ⟨rfl, hb⟩
        replace H := Lib.hid (H.out.below hb)
        replace HX := Lib.hid (HX.out.below hb)
        clear hb c0 c1 c2 c3 f0 f1 HRS
        obtain ⟨y0', y1', y2', y3'⟩ := HNL.out _ _ _ HX.out
        go_wp2_with fail
        refine (HRN.out _).mono ?_
        rintro r w4 ⟨rfl, hb⟩
        replace H := Lib.hid (H.out.below hb)
        replace HX := Lib.hid (HX.out.below hb)
        clear hb y0' y1' y2' y3' HRN
        go_wp2_with fail
        refine (HAW.out _).mono ?_
        rintro r w8 ⟨rfl, hb⟩
        replace H := Lib.hid (H.out.below hb)
        clear hb
        go_wp2_with fail
        go_ret
        exact ⟨rfl, H.out.gw.bel⟩
      by_cases ha1 : 1 < acts
      · clear hs hn hf
        generalize hnx : Sup.nx s turn boot = n at HN HRN HOW HNL
        clear hnx
        generalize (Sup.nextW s turn).boot = ob at HN
        obtain ⟨y1, y2, y3, y4⟩ := n
        obtain ⟨x1, x2, x3, x4⟩ := s
        rw [Sup.v_eq]
        dsimp only at HN HRN HRS HMD HC HOW HNL
        go_enter Tryz.func5, Tryz.ntmps5
        go_wp2_with fail
        refine (HM.out _).mono ?_
        rintro r w1 ⟨gg, g, bd, mb, rfl, hg⟩
        have H := Lib.hid (HMD.out _ _ _ _ _ _ hg)
        clear hg HM HMD
        obtain ⟨⟨c0, c1, c2, c3⟩, f0, f1⟩ := HC.out _ _ _ _ _ _ _ H.out
        go_wp2_with fail
        refine (HN.out _).mono ?_
        rintro r w2 ⟨rfl, hb⟩
        replace H := Lib.hid (H.out.below hb)
        clear hb c0 c1 c2 c3 f0 f1 HN
        have HX := Lib.hid (HOW.out _ _ _ _ _ _ _ H.out)
        replace H := Lib.hid (H.out.alloc (.cells #[.int .i64 y1, .int .i64 boot, .int .i64 y3, .int .i64 y4] 23))
        clear HOW
        obtain ⟨⟨c0, c1, c2, c3⟩, f0, f1⟩ := HC.out _ _ _ _ _ _ _ H.out
        go_upto_region 6 with fail
        generalize w2.alloc (.cells #[.int .i64 y1, .int .i64 boot, .int .i64 y3, .int .i64 y4] 23) = W0 at H HX c0 c1 c2 c3 f0 f1 ⊢
        generalize w2.heap.size = o at HX ⊢
        go_wp2_with fail
        refine (HRS.out _).mono ?_
        rintro r w3 ⟨rfl, hb⟩
        replace H := Lib.hid (H.out.below hb)
        replace HX := Lib.hid (HX.out.below hb)
        clear hb c0 c1 c2 c3 f0 f1 HRS
        obtain ⟨y0', y1', y2', y3'⟩ := HNL.out _ _ _ HX.out
        go_wp2_with fail
        refine (HRN.out _).mono ?_
        rintro r w4 ⟨rfl, hb⟩
        replace H := Lib.hid (H.out.below hb)
        replace HX := Lib.hid (HX.out.below hb)
        clear hb y0' y1' y2' y3' HRN
        go_wp2_with fail
        refine (HAW.out _).mono ?_
        rintro r w8 ⟨rfl, hb⟩
        replace H := Lib.hid (H.out.below hb)
        clear hb
        go_wp2_with fail
        go_ret
        exact ⟨rfl, H.out.gw.bel⟩
      obtain ⟨k, rfl⟩ : ∃ k : Nat, acts = (k : Int) := ⟨acts.toNat, by omega⟩
      have hk : k ≤ 1 := by omega
      have hgn := Sup.nx_gen hs turn boot
      obtain ⟨h8, hst, hld⟩ := Sup.d_fin hs hn hgn f k hk
      have HS : Hid (∀ (W : World) (gg g bd mb : Nat), EW w W gg g bd mb 0 (Dsk.fresh 4) s f → Calls Tryz.prog 9 #[.pointer (some ⟨gg, 0, none⟩), .agg #[.int .i64 s.gen, .int .i64 s.boot, .int .i64 s.side, .int .i64 s.seed]] W fun e w' => e = .returned (.int .i64 0) ∧ EW w w' gg g bd mb 1 (Sup.sd s) s f ∧ Mv W w' [gg, g, bd, mb]) := Lib.hid (fun W gg g bd mb h => by
        have := ssave_any h.gw.at_ (by decide) (by decide) (by decide) s
        rw [Sup.sd_save hs] at this
        exact this.mono (fun e w' hp => ⟨hp.1, h.mv hp.2.1 hp.2.2, hp.2.2⟩))
      have HA : Hid (∀ (W : World) (gg g bd mb : Nat), EW w W gg g bd mb 1 (Sup.sd s) s f → Calls Tryz.prog 21 #[.pointer (some ⟨g, 0, none⟩), .int .i64 (k : Int), .agg #[.int .u64 (f.keep : Int), .int .i64 f.tear]] W fun e w' => e = .returned (.int .i64 0) ∧ EW w w' gg g bd mb 1 (Sup.q2 s k f) s f ∧ Mv W w' [gg, g, bd, mb]) := Lib.hid (fun W gg g bd mb h => by
        have := arm_any h.gw.at_.disk (k : Int) (by omega) f hf
        have e : Dsk.armed (Sup.sd s) (k : Int) f = (0, Sup.q2 s k f) := by
          unfold Dsk.armed
          rw [if_neg (show ¬ (Sup.sd s).up = false by show ¬ true = false; decide), if_neg (by omega)]
          rfl
        rw [e] at this
        exact this.mono (fun e w' hp => ⟨hp.1, h.dsk hp.2.1 hp.2.2, hp.2.2.wide (by simp)⟩))
      have HS2 : Hid (∀ (W : World) (gg g bd mb : Nat), EW w W gg g bd mb 1 (Sup.q2 s k f) s f → Calls Tryz.prog 9 #[.pointer (some ⟨gg, 0, none⟩), .agg #[.int .i64 (Sup.nx s turn boot).gen, .int .i64 boot, .int .i64 (Sup.nx s turn boot).side, .int .i64 (Sup.nx s turn boot).seed]] W fun e w' => e = .returned (.int .i64 8) ∧ EW w w' gg g bd mb (Sup.q3 s (Sup.nx s turn boot) k f).2.1 (Sup.q3 s (Sup.nx s turn boot) k f).2.2 s f ∧ Mv W w' [gg, g, bd, mb]) := Lib.hid (fun W gg g bd mb h => by
        have := ssave_any h.gw.at_ (by decide) (show (2 : Nat) < 999999999999 by decide) (show (0 : Nat) < 999999999999 by decide) (Sup.nx s turn boot)
        change Calls _ _ _ _ (SavePost W gg g bd mb 1 (Sup.q3 s (Sup.nx s turn boot) k f)) at this
        unfold SavePost at this
        rw [h8] at this
        exact this.mono (fun e w' hp => ⟨hp.1, h.mv hp.2.1 hp.2.2, hp.2.2⟩))
      have HST : Hid (∀ (W : World) (gg g bd mb : Nat), EW w W gg g bd mb (Sup.q3 s (Sup.nx s turn boot) k f).2.1 (Sup.q3 s (Sup.nx s turn boot) k f).2.2 s f → Calls Tryz.prog 22 #[.pointer (some ⟨g, 0, none⟩)] W fun e w' => e = .returned (.int .i64 0) ∧ EW w w' gg g bd mb (Sup.q3 s (Sup.nx s turn boot) k f).2.1 (Sup.q4 s (Sup.nx s turn boot) k f) s f ∧ Mv W w' [gg, g, bd, mb]) := Lib.hid (fun W gg g bd mb h => by
        have := start_any h.gw.at_.disk
        rw [hst] at this
        exact this.mono (fun e w' hp => ⟨hp.1, h.dsk hp.2.1 hp.2.2, hp.2.2.wide (by simp)⟩))
      have HLD : Hid (∀ (W : World) (g bd mb : Nat), DiskAt W g bd mb (Sup.q4 s (Sup.nx s turn boot) k f) → Calls Tryz.prog 13 #[.pointer (some ⟨g, 0, none⟩)] W fun e w' => e = .returned (.tuple #[(Sup.load (Sup.q4 s (Sup.nx s turn boot) k f)).1.v, .int .i64 (Sup.load (Sup.q4 s (Sup.nx s turn boot) k f)).2]) ∧ Below W.heap.size W w') := Lib.hid (fun W g bd mb h => sload_any h)
      have hk0 : ¬ (k : Int) < 0 := by omega
      have hk1 : ¬ (1 : Int) < (k : Int) := by omega
      have hne : Sup.nx s turn boot ≠ s := fun e => by rw [e] at hgn; omega
      have HQS : Hid (∀ W, (binOp .eql 23 s.v s.v).run Tryz.prog W = .ok (.bool true) W) := Lib.hid (fun W => by
        have := run_supEq s s W
        rw [decide_eq_true rfl] at this
        exact this)
      have HQN : Hid (∀ W, (binOp .eql 23 (Sup.nx s turn boot).v (Sup.nx s turn boot).v).run Tryz.prog W = .ok (.bool true) W) := Lib.hid (fun W => by
        have := run_supEq (Sup.nx s turn boot) (Sup.nx s turn boot) W
        rw [decide_eq_true rfl] at this
        exact this)
      have HQF : Hid (∀ W, (binOp .eql 23 (Sup.nx s turn boot).v s.v).run Tryz.prog W = .ok (.bool false) W) := Lib.hid (fun W => by
        have := run_supEq (Sup.nx s turn boot) s W
        rw [decide_eq_false hne] at this
        exact this)
      have HNV : Hid ((Sup.nx s turn boot).v = .agg #[.int .i64 (Sup.nx s turn boot).gen, .int .i64 boot, .int .i64 (Sup.nx s turn boot).side, .int .i64 (Sup.nx s turn boot).seed]) := Lib.hid rfl
      clear hs hn hf ha0 ha1 hk hgn h8 hst hne
      generalize Sup.load (Sup.q4 s (Sup.nx s turn boot) k f) = ld at HLD hld
      generalize Sup.q4 s (Sup.nx s turn boot) k f = e4 at HST HLD
      generalize (Sup.q3 s (Sup.nx s turn boot) k f).2.1 = wr3 at HS2 HST
      generalize (Sup.q3 s (Sup.nx s turn boot) k f).2.2 = e3 at HS2 HST
      generalize Sup.q2 s k f = e2 at HA HS2
      generalize Sup.sd s = e1 at HS HA
      rcases hld with rfl | rfl
      · clear HQF HQN HNV
        unfold Sup.v Sup.cells at HLD HQS
        generalize hnx : Sup.nx s turn boot = n at HN HRN HOW HNL HS2 HLD HQS
        clear hnx
        generalize (Sup.nextW s turn).boot = ob at HN
        obtain ⟨y1, y2, y3, y4⟩ := n
        obtain ⟨x1, x2, x3, x4⟩ := s
        rw [Sup.v_eq]
        dsimp only at HN HRN HRS HMD HC HOW HNL HS HS2 HLD HQS
        go_enter Tryz.func5, Tryz.ntmps5
        go_wp2_with fail
        refine (HM.out _).mono ?_
        rintro r w1 ⟨gg, g, bd, mb, rfl, hg⟩
        have H := Lib.hid (HMD.out _ _ _ _ _ _ hg)
        clear hg HM HMD
        obtain ⟨⟨c0, c1, c2, c3⟩, f0, f1⟩ := HC.out _ _ _ _ _ _ _ H.out
        go_wp2_with fail
        refine (HN.out _).mono ?_
        rintro r w2 ⟨rfl, hb⟩
        replace H := Lib.hid (H.out.below hb)
        clear hb c0 c1 c2 c3 f0 f1 HN
        have HX := Lib.hid (HOW.out _ _ _ _ _ _ _ H.out)
        replace H := Lib.hid (H.out.alloc (.cells #[.int .i64 y1, .int .i64 boot, .int .i64 y3, .int .i64 y4] 23))
        clear HOW
        obtain ⟨⟨c0, c1, c2, c3⟩, f0, f1⟩ := HC.out _ _ _ _ _ _ _ H.out
        go_upto_region 6 with fail
        generalize w2.alloc (.cells #[.int .i64 y1, .int .i64 boot, .int .i64 y3, .int .i64 y4] 23) = W0 at H HX c0 c1 c2 c3 f0 f1 ⊢
        generalize w2.heap.size = o at HX ⊢
        go_wp2_with fail
        refine (HRS.out _).mono ?_
        rintro r w3 ⟨rfl, hb⟩
        replace H := Lib.hid (H.out.below hb)
        replace HX := Lib.hid (HX.out.below hb)
        clear hb c0 c1 c2 c3 f0 f1 HRS
        obtain ⟨y0', y1', y2', y3'⟩ := HNL.out _ _ _ HX.out
        go_wp2_with fail
        refine (HRN.out _).mono ?_
        rintro r w4 ⟨rfl, hb⟩
        replace H := Lib.hid (H.out.below hb)
        replace HX := Lib.hid (HX.out.below hb)
        clear hb y0' y1' y2' y3' HRN
        obtain ⟨⟨c0, c1, c2, c3⟩, f0, f1⟩ := HC.out _ _ _ _ _ _ _ H.out
        obtain ⟨y0', y1', y2', y3'⟩ := HNL.out _ _ _ HX.out
        go_wp2_with fail
        refine (HS.out _ _ _ _ _ H.out).mono ?_
        rintro r v0 ⟨rfl, h, hm⟩
        replace H := Lib.hid h
        replace HX := Lib.hid (HX.out.mv hm)
        clear h hm c0 c1 c2 c3 f0 f1 y0' y1' y2' y3'
        obtain ⟨⟨c0, c1, c2, c3⟩, f0, f1⟩ := HC.out _ _ _ _ _ _ _ H.out
        obtain ⟨y0', y1', y2', y3'⟩ := HNL.out _ _ _ HX.out
        go_wp2_with fail
        refine (HA.out _ _ _ _ _ H.out).mono ?_
        rintro r v1 ⟨rfl, h, hm⟩
        replace H := Lib.hid h
        replace HX := Lib.hid (HX.out.mv hm)
        clear h hm c0 c1 c2 c3 f0 f1 y0' y1' y2' y3'
        obtain ⟨⟨c0, c1, c2, c3⟩, f0, f1⟩ := HC.out _ _ _ _ _ _ _ H.out
        obtain ⟨y0', y1', y2', y3'⟩ := HNL.out _ _ _ HX.out
        go_wp2_with fail
        refine (HS2.out _ _ _ _ _ H.out).mono ?_
        rintro r v2 ⟨rfl, h, hm⟩
        replace H := Lib.hid h
        replace HX := Lib.hid (HX.out.mv hm)
        clear h hm c0 c1 c2 c3 f0 f1 y0' y1' y2' y3'
        obtain ⟨⟨c0, c1, c2, c3⟩, f0, f1⟩ := HC.out _ _ _ _ _ _ _ H.out
        obtain ⟨y0', y1', y2', y3'⟩ := HNL.out _ _ _ HX.out
        go_wp2_with fail
        refine (HST.out _ _ _ _ _ H.out).mono ?_
        rintro r v3 ⟨rfl, h, hm⟩
        replace H := Lib.hid h
        replace HX := Lib.hid (HX.out.mv hm)
        clear h hm c0 c1 c2 c3 f0 f1 y0' y1' y2' y3'
        obtain ⟨⟨c0, c1, c2, c3⟩, f0, f1⟩ := HC.out _ _ _ _ _ _ _ H.out
        obtain ⟨y0', y1', y2', y3'⟩ := HNL.out _ _ _ HX.out
        go_wp2_with fail
        refine (HLD.out _ _ _ _ H.out.gw.at_.disk).mono ?_
        rintro r v5 ⟨rfl, hb⟩
        have HZ := Lib.hid ((H.out.below hb).gw.own ⟨x1, x2, x3, x4⟩)
        replace H := Lib.hid ((H.out.below hb).alloc (.cells #[.int .i64 x1, .int .i64 x2, .int .i64 x3, .int .i64 x4] 23))
        replace HX := Lib.hid ((HX.out.below hb).alloc (.cells #[.int .i64 x1, .int .i64 x2, .int .i64 x3, .int .i64 x4] 23))
        clear hb c0 c1 c2 c3 f0 f1 y0' y1' y2' y3'
        obtain ⟨⟨c0, c1, c2, c3⟩, f0, f1⟩ := HC.out _ _ _ _ _ _ _ H.out
        obtain ⟨y0', y1', y2', y3'⟩ := HNL.out _ _ _ HX.out
        obtain ⟨z0, z1, z2, z3⟩ := HZ.out.lies
        dsimp only at z0 z1 z2 z3
        have hq := HQS.out
        go_wp2_with fail
        refine (HAW.out _).mono ?_
        rintro r w8 ⟨rfl, hb⟩
        replace H := Lib.hid (H.out.below hb)
        clear hb
        go_wp2_with fail
        go_ret
        exact ⟨rfl, H.out.gw.bel⟩
      · dsimp only at HLD
        rw [HNV.out] at HLD HQN HQF
        clear HQS HNV
        unfold Sup.v Sup.cells at HQF
        generalize hnx : Sup.nx s turn boot = n at HN HRN HOW HNL HS2 HLD HQN HQF
        clear hnx
        generalize (Sup.nextW s turn).boot = ob at HN
        obtain ⟨y1, y2, y3, y4⟩ := n
        obtain ⟨x1, x2, x3, x4⟩ := s
        rw [Sup.v_eq]
        dsimp only at HN HRN HRS HMD HC HOW HNL HS HS2 HLD HQN HQF
        go_enter Tryz.func5, Tryz.ntmps5
        go_wp2_with fail
        refine (HM.out _).mono ?_
        rintro r w1 ⟨gg, g, bd, mb, rfl, hg⟩
        have H := Lib.hid (HMD.out _ _ _ _ _ _ hg)
        clear hg HM HMD
        obtain ⟨⟨c0, c1, c2, c3⟩, f0, f1⟩ := HC.out _ _ _ _ _ _ _ H.out
        go_wp2_with fail
        refine (HN.out _).mono ?_
        rintro r w2 ⟨rfl, hb⟩
        replace H := Lib.hid (H.out.below hb)
        clear hb c0 c1 c2 c3 f0 f1 HN
        have HX := Lib.hid (HOW.out _ _ _ _ _ _ _ H.out)
        replace H := Lib.hid (H.out.alloc (.cells #[.int .i64 y1, .int .i64 boot, .int .i64 y3, .int .i64 y4] 23))
        clear HOW
        obtain ⟨⟨c0, c1, c2, c3⟩, f0, f1⟩ := HC.out _ _ _ _ _ _ _ H.out
        go_upto_region 6 with fail
        generalize w2.alloc (.cells #[.int .i64 y1, .int .i64 boot, .int .i64 y3, .int .i64 y4] 23) = W0 at H HX c0 c1 c2 c3 f0 f1 ⊢
        generalize w2.heap.size = o at HX ⊢
        go_wp2_with fail
        refine (HRS.out _).mono ?_
        rintro r w3 ⟨rfl, hb⟩
        replace H := Lib.hid (H.out.below hb)
        replace HX := Lib.hid (HX.out.below hb)
        clear hb c0 c1 c2 c3 f0 f1 HRS
        obtain ⟨y0', y1', y2', y3'⟩ := HNL.out _ _ _ HX.out
        go_wp2_with fail
        refine (HRN.out _).mono ?_
        rintro r w4 ⟨rfl, hb⟩
        replace H := Lib.hid (H.out.below hb)
        replace HX := Lib.hid (HX.out.below hb)
        clear hb y0' y1' y2' y3' HRN
        obtain ⟨⟨c0, c1, c2, c3⟩, f0, f1⟩ := HC.out _ _ _ _ _ _ _ H.out
        obtain ⟨y0', y1', y2', y3'⟩ := HNL.out _ _ _ HX.out
        go_wp2_with fail
        refine (HS.out _ _ _ _ _ H.out).mono ?_
        rintro r v0 ⟨rfl, h, hm⟩
        replace H := Lib.hid h
        replace HX := Lib.hid (HX.out.mv hm)
        clear h hm c0 c1 c2 c3 f0 f1 y0' y1' y2' y3'
        obtain ⟨⟨c0, c1, c2, c3⟩, f0, f1⟩ := HC.out _ _ _ _ _ _ _ H.out
        obtain ⟨y0', y1', y2', y3'⟩ := HNL.out _ _ _ HX.out
        go_wp2_with fail
        refine (HA.out _ _ _ _ _ H.out).mono ?_
        rintro r v1 ⟨rfl, h, hm⟩
        replace H := Lib.hid h
        replace HX := Lib.hid (HX.out.mv hm)
        clear h hm c0 c1 c2 c3 f0 f1 y0' y1' y2' y3'
        obtain ⟨⟨c0, c1, c2, c3⟩, f0, f1⟩ := HC.out _ _ _ _ _ _ _ H.out
        obtain ⟨y0', y1', y2', y3'⟩ := HNL.out _ _ _ HX.out
        go_wp2_with fail
        refine (HS2.out _ _ _ _ _ H.out).mono ?_
        rintro r v2 ⟨rfl, h, hm⟩
        replace H := Lib.hid h
        replace HX := Lib.hid (HX.out.mv hm)
        clear h hm c0 c1 c2 c3 f0 f1 y0' y1' y2' y3'
        obtain ⟨⟨c0, c1, c2, c3⟩, f0, f1⟩ := HC.out _ _ _ _ _ _ _ H.out
        obtain ⟨y0', y1', y2', y3'⟩ := HNL.out _ _ _ HX.out
        go_wp2_with fail
        refine (HST.out _ _ _ _ _ H.out).mono ?_
        rintro r v3 ⟨rfl, h, hm⟩
        replace H := Lib.hid h
        replace HX := Lib.hid (HX.out.mv hm)
        clear h hm c0 c1 c2 c3 f0 f1 y0' y1' y2' y3'
        obtain ⟨⟨c0, c1, c2, c3⟩, f0, f1⟩ := HC.out _ _ _ _ _ _ _ H.out
        obtain ⟨y0', y1', y2', y3'⟩ := HNL.out _ _ _ HX.out
        go_wp2_with fail
        refine (HLD.out _ _ _ _ H.out.gw.at_.disk).mono ?_
        rintro r v5 ⟨rfl, hb⟩
        have HZ := Lib.hid ((H.out.below hb).gw.own ⟨y1, boot, y3, y4⟩)
        replace H := Lib.hid ((H.out.below hb).alloc (.cells #[.int .i64 y1, .int .i64 boot, .int .i64 y3, .int .i64 y4] 23))
        replace HX := Lib.hid ((HX.out.below hb).alloc (.cells #[.int .i64 y1, .int .i64 boot, .int .i64 y3, .int .i64 y4] 23))
        clear hb c0 c1 c2 c3 f0 f1 y0' y1' y2' y3'
        obtain ⟨⟨c0, c1, c2, c3⟩, f0, f1⟩ := HC.out _ _ _ _ _ _ _ H.out
        obtain ⟨y0', y1', y2', y3'⟩ := HNL.out _ _ _ HX.out
        obtain ⟨z0, z1, z2, z3⟩ := HZ.out.lies
        dsimp only at z0 z1 z2 z3
        have hq := HQN.out
        have hq2 := HQF.out
        go_wp2_with fail
        refine (HAW.out _).mono ?_
        rintro r w8 ⟨rfl, hb⟩
        replace H := Lib.hid (H.out.below hb)
        clear hb
        go_wp2_with fail
        go_ret
        exact ⟨rfl, H.out.gw.bel⟩
theorem mktrod_5 {H : Type} {enc : TypeId × Value → H} {P : Program} {w : World} {base : Nat} {spare : Nat → Bool} {held : Bool} {t0 t1 t2 t3 t4 : TypeId} {args : Array Value} {ds : List (DataW H)} {ps : List MemPlace} (h : DataW.TrodAll enc P w base spare held [t0, t1, t2, t3, t4] args.toList ds ps) :
    ∃ v0 v1 v2 v3 v4 d0 d1 d2 d3 d4 p0 p1 p2 p3 p4, args = #[v0, v1, v2, v3, v4] ∧ ds = [d0, d1, d2, d3, d4] ∧ ps = p0 ++ p1 ++ p2 ++ p3 ++ p4 ∧ DataW.Trod enc P w base spare held t0 v0 d0 p0 ∧ DataW.Trod enc P w base spare held t1 v1 d1 p1 ∧ DataW.Trod enc P w base spare held t2 v2 d2 p2 ∧ DataW.Trod enc P w base spare held t3 v3 d3 p3 ∧ DataW.Trod enc P w base spare held t4 v4 d4 p4 := by
  obtain ⟨v0, vs0, d0, ds0, p0, q0, hargs, rfl, rfl, h0, r0⟩ := trodAll_cons h
  obtain ⟨v1, vs1, d1, ds1, p1, q1, rfl, rfl, rfl, h1, r1⟩ := trodAll_cons r0
  obtain ⟨v2, vs2, d2, ds2, p2, q2, rfl, rfl, rfl, h2, r2⟩ := trodAll_cons r1
  obtain ⟨v3, vs3, d3, ds3, p3, q3, rfl, rfl, rfl, h3, r3⟩ := trodAll_cons r2
  obtain ⟨v4, vs4, d4, ds4, p4, q4, rfl, rfl, rfl, h4, r4⟩ := trodAll_cons r3
  obtain ⟨rfl, rfl, rfl⟩ := trodAll_nil r4
  exact ⟨v0, v1, v2, v3, v4, d0, d1, d2, d3, d4, p0, p1, p2, p3, p4, by cases args; simp_all, rfl, by simp, h0, h1, h2, h3, h4⟩

set_option maxRecDepth 100000 in
theorem superEither_contract {H : Type} (enc : TypeId × Value → H) (W : World) (base : Nat) (args : Array Value) (ds gs : List (DataW H)) (before : List MemPlace)
    (hval : ∀ (j : Nat) t v, Tryz.f5.params[j]? = some t → args[j]? = some v → Value.okWide Tryz.prog W .any base t v)
    (hW : DataW.Whole enc Tryz.prog Tryz.f5.params.toList Rows.superEitherSpec.vars false W args.toList ds gs before)
    (hsz : (DataW.weightsEach Tryz.prog (Tryz.f5.params.toList ++ Rows.superEitherSpec.plain.varTypes Tryz.prog) (ds ++ gs)).all (· ≤ reachBytes) = true) :
    Calls Tryz.prog 5 args W fun e W' =>
      ((Rows.superEitherSpec.fn H (ds ++ gs)).results = [.lit (.bool true)] ∧ (Rows.superEitherSpec.fn H (ds ++ gs)).args = ds ∧ (Rows.superEitherSpec.fn H (ds ++ gs)).vars = []) ∧ e = .returned (.bool true) ∧ Below W.heap.size W W' := by
  obtain ⟨p, q, hA0, hV, rfl, hfz, hnd⟩ := hW
  have hA : DataW.TrodAll enc Tryz.prog W 0 (fun _ => true) true Tryz.f5.params.toList args.toList ds p := hA0
  rw [Tryz.params5] at hA hval hsz
  obtain ⟨v0, v1, v2, v3, v4, d0, d1, d2, d3, d4, p0, p1, p2, p3, p4, rfl, rfl, rfl, h0, h1, h2, h3, h4⟩ := mktrod_5 hA
  obtain ⟨rfl, rfl⟩ := trodVars_none hV
  obtain ⟨s, rfl, fit_s⟩ := sup_open (hval 0 23 v0 rfl rfl) h0
  obtain ⟨turn, rfl, rfl, rfl⟩ := open_bool Tryz.underlying4 (hval 1 4 v1 rfl rfl) h1
  obtain ⟨boot, rfl, rfl, rfl, bd_boot⟩ := open_int Tryz.underlying3 (hval 2 3 v2 rfl rfl) h2
  obtain ⟨acts, rfl, rfl, rfl, bd_acts⟩ := open_int Tryz.underlying3 (hval 3 3 v3 rfl rfl) h3
  obtain ⟨f, rfl, ok_f⟩ := fall_open (hval 4 49 v4 rfl rfl) h4
  exact (seither_any s turn boot acts f ok_f W).mono fun e W' h => ⟨⟨rfl, rfl, rfl⟩, h⟩
end Go.Proofs.YtdgfohffmbnjiaaGreatDoor
