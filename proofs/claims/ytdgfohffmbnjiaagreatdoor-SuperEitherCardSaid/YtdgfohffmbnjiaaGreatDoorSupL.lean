/-
  The contract of super's Load.
-/
import Derived.Test.YtdgfohffmbnjiaaGreatDoorSupD
import Derived.Test.YtdgfohffmbnjiaaGreatDoorGrdR
namespace Go.Proofs.YtdgfohffmbnjiaaGreatDoor
open Go.RowKit
set_option linter.unusedVariables false

namespace Sup
open Dsk (St)
def stepL (last : Sup) : Option Sup → Sup
  | none => last
  | some s => if last.gen < s.gen then s else last
def lastOf (d : St) : Nat → Sup
  | 0 => zero
  | k + 1 => stepL (lastOf d k) (look k (Grd.read d (k : Int)))
def fine (d : St) (k : Nat) : Prop := ∀ j : Nat, j < k → bad (Grd.read d (j : Int)).2.2 = false
theorem look_right {i : Nat} {r : T × Int × Int} {s : Sup} (h : look i r = some s) : right s = true := by
  unfold look at h
  split at h
  · exact (find_iff.1 h).1
  · cases h
theorem gen_pos {s : Sup} (h : right s = true) : 0 < s.gen := (right_iff.1 h).1
theorem load_fine {d : St} (h : fine d 2) : load d = if (lastOf d 2).gen = 0 then (zero, 7) else (lastOf d 2, 0) := by
  have b0 := h 0 (by decide)
  have b1 := h 1 (by decide)
  rw [show ((0 : Nat) : Int) = 0 from rfl] at b0
  rw [show ((1 : Nat) : Int) = 1 from rfl] at b1
  have hl : lastOf d 2 = stepL (stepL zero (look 0 (Grd.read d 0))) (look 1 (Grd.read d 1)) := rfl
  unfold load
  rw [if_neg (by rw [b0]; decide), if_neg (by rw [b1]; decide), hl]
  unfold found
  cases h0 : look 0 (Grd.read d 0) with
  | none =>
    cases h1 : look 1 (Grd.read d 1) with
    | none => rfl
    | some s =>
      have hp := gen_pos (look_right h1)
      have e : stepL (stepL zero none) (some s) = s := by
        show (if zero.gen < s.gen then s else zero) = s
        rw [if_pos (show zero.gen < s.gen from hp)]
      rw [e, if_neg (by omega)]
      rfl
  | some a =>
    have ha := gen_pos (look_right h0)
    have ea : stepL zero (some a) = a := by
      show (if zero.gen < a.gen then a else zero) = a
      rw [if_pos (show zero.gen < a.gen from ha)]
    rw [ea]
    cases h1 : look 1 (Grd.read d 1) with
    | none =>
      show (a, (0 : Int)) = if a.gen = 0 then (zero, 7) else (a, 0)
      rw [if_neg (by omega)]
    | some s =>
      have hp := gen_pos (look_right h1)
      show (match (if a.gen < s.gen then some s else some a) with | none => (zero, (7 : Int)) | some s => (s, 0)) = if (if a.gen < s.gen then s else a).gen = 0 then (zero, 7) else ((if a.gen < s.gen then s else a), 0)
      by_cases hlt : a.gen < s.gen
      · simp only [if_pos hlt]
        rw [if_neg (by omega)]
      · simp only [if_neg hlt]
        rw [if_neg (by omega)]
theorem load_bad {d : St} {k : Nat} (hk : k < 2) (h : fine d k) (hb : bad (Grd.read d (k : Int)).2.2 = true) : load d = (zero, (Grd.read d (k : Int)).2.2) := by
  have hk' : k = 0 ∨ k = 1 := by omega
  rcases hk' with rfl | rfl
  · unfold load
    rw [show ((0 : Nat) : Int) = 0 from rfl] at hb ⊢
    rw [if_pos hb]
  · have b0 := h 0 (by decide)
    rw [show ((0 : Nat) : Int) = 0 from rfl] at b0
    unfold load
    rw [show ((1 : Nat) : Int) = 1 from rfl] at hb ⊢
    rw [if_neg (by rw [b0]; decide), if_pos hb]
theorem fine_succ {d : St} {k : Nat} (h : fine d k) (hb : bad (Grd.read d (k : Int)).2.2 = false) : fine d (k + 1) := fun j hj => by
  by_cases e : j = k
  · subst e; exact hb
  · exact h j (by omega)
theorem read_short (d : St) (i : Int) : (Grd.read d i).1.length ≤ 255 := by
  unfold Grd.read
  split
  · exact Nat.zero_le _
  · show (Grd.rd (Dsk.read d i).1).1.length ≤ 255
    unfold Grd.rd
    split
    · exact Nat.zero_le _
    · split
      · show (List.take _ _).length ≤ 255
        rw [List.length_take]
        have := ((Dsk.read d i).1.getD 8 0).toNat_lt
        omega
      · exact Nat.zero_le _
/-- What a sector that was read is looked at as. -/
theorem look_or (k : Nat) (tx : T) (st c : Int) : (c ≠ 0 ∧ look k (tx, st, c) = none) ∨
    (c = 0 ∧ readS tx = (zero, false) ∧ look k (tx, st, c) = none) ∨ (c = 0 ∧ ∃ s, right s = true ∧ readS tx = (s, true) ∧ (s.gen % 2 ≠ (k : Int) ∧ look k (tx, st, c) = none ∨ s.gen % 2 = (k : Int) ∧ look k (tx, st, c) = some s)) := by
  by_cases hc : c = 0
  · subst hc
    have e : look k (tx, st, 0) = find k tx := rfl
    rw [e, find_readS]
    rcases readS_or tx with ⟨h, _⟩ | ⟨s, hs, _, h⟩
    · rw [h]
      exact Or.inr (Or.inl ⟨rfl, rfl, if_neg (by rintro ⟨h, _⟩; cases h)⟩)
    · rw [h]
      refine Or.inr (Or.inr ⟨rfl, s, hs, rfl, ?_⟩)
      by_cases hi : s.gen % 2 = (k : Int)
      · exact Or.inr ⟨hi, if_pos ⟨rfl, hi⟩⟩
      · exact Or.inl ⟨hi, if_neg (fun h => hi h.2)⟩
  · exact Or.inl ⟨hc, if_neg hc⟩
end Sup

/-- What Load works in. -/
structure LoadIn (w W : World) (g bd mb : Nat) (d : Dsk.St) (last : Sup) : Prop where
  res : Has W w.heap.size 23 Sup.zero.cells
  own : Has W (w.heap.size + 1) 23 last.cells
  dsk : DiskAt W g bd mb d
  bel : Below w.heap.size w W
theorem LoadIn.made {w : World} {g bd mb : Nat} {d : Dsk.St} (h : DiskAt w g bd mb d) : LoadIn w ((w.alloc (.cells Sup.zero.cells 23)).alloc (.cells Sup.zero.cells 23)) g bd mb d Sup.zero := by
  have a1 := Has.made w 23 Sup.zero.cells
  have a2 := Has.made (w.alloc (.cells Sup.zero.cells 23)) 23 Sup.zero.cells
  have b0 : Below w.heap.size w _ := ((Below.refl _ w).alloc (Nat.le_refl _) (.cells Sup.zero.cells 23)).alloc (by simp) (.cells Sup.zero.cells 23)
  rw [asize] at a2
  exact ⟨a1.of_alloc _, a2, h.below b0, b0⟩
theorem LoadIn.below {w W W' : World} {g bd mb : Nat} {d : Dsk.St} {last : Sup} (h : LoadIn w W g bd mb d last) (hb : Below W.heap.size W W') : LoadIn w W' g bd mb d last :=
  ⟨h.res.below hb h.res.lt, h.own.below hb h.own.lt, h.dsk.below hb, h.bel.trans (hb.mono h.bel.size)⟩
theorem LoadIn.cs {w W : World} {g bd mb : Nat} {d : Dsk.St} {last : Sup} (h : LoadIn w W g bd mb d last) : SupLies (w.heap.size + 1) last W := ⟨h.own.cell 0, h.own.cell 1, h.own.cell 2, h.own.cell 3⟩
/-- A superblock's four cells stored. -/
abbrev sets4 (W : World) (g : Nat) (s : Sup) : World := (((W.setCell ⟨g, 0, none⟩ (.int .i64 s.gen)).setCell ⟨g, 1, none⟩ (.int .i64 s.boot)).setCell ⟨g, 2, none⟩ (.int .i64 s.side)).setCell ⟨g, 3, none⟩ (.int .i64 s.seed)
theorem only_sets4 (W : World) (g : Nat) (s : Sup) : Only W (sets4 W g s) g :=
  (((Only.set W g 0 _).trans (Only.set _ g 1 _)).trans (Only.set _ g 2 _)).trans (Only.set _ g 3 _)
theorem Has.sets4 {W : World} {g : Nat} {a s : Sup} (h : Has W g 23 a.cells) : Has (sets4 W g s) g 23 s.cells :=
  (((h.set 0 (.int .i64 s.gen)).set 1 (.int .i64 s.boot)).set 2 (.int .i64 s.side)).set 3 (.int .i64 s.seed)
theorem LoadIn.set {w W : World} {g bd mb : Nat} {d : Dsk.St} {last : Sup} (h : LoadIn w W g bd mb d last) (hl : g < w.heap.size ∧ bd < w.heap.size ∧ mb < w.heap.size) (s : Sup) : LoadIn w (sets4 W (w.heap.size + 1) s) g bd mb d s :=
  have ho := only_sets4 W (w.heap.size + 1) s
  ⟨ho.has h.res (by omega), h.own.sets4, h.dsk.mv (Mv.of_only ho (s := [w.heap.size + 1]) (by simp)) (by simp only [List.mem_cons, List.not_mem_nil, or_false]; omega) (by simp only [List.mem_cons, List.not_mem_nil, or_false]; omega) (by simp only [List.mem_cons, List.not_mem_nil, or_false]; omega), ho.below h.bel h.bel.size (by omega)⟩

set_option maxRecDepth 100000 in
set_option maxHeartbeats 8000000 in
theorem sload_any {w : World} {g bd mb : Nat} {d : Dsk.St} (h : DiskAt w g bd mb d) :
    Calls Tryz.prog 13 #[.pointer (some ⟨g, 0, none⟩)] w fun e w' => e = .returned (.tuple #[(Sup.load d).1.v, .int .i64 (Sup.load d).2]) ∧ Below w.heap.size w w' := by
  have HL := Lib.hid h.lt
  have HG : Hid (∀ (W : World) (k : Nat) (last : Sup), LoadIn w W g bd mb d last → Calls Tryz.prog 12 #[.pointer (some ⟨g, 0, none⟩), .int .i64 (k : Int)] W fun e w' => e = .returned (.tuple #[.string (S (Grd.read d (k : Int)).1), .int .i64 (Grd.read d (k : Int)).2.1, .int .i64 (Grd.read d (k : Int)).2.2]) ∧ LoadIn w w' g bd mb d last) :=
    Lib.hid (fun W k last hi => (gread_any hi.dsk (k : Int)).mono (fun e w' hp => ⟨hp.1, hi.below hp.2⟩))
  have HSR : Hid (∀ (W : World) (k : Nat) (last : Sup), LoadIn w W g bd mb d last → Calls Tryz.prog 35 #[.string (S (Grd.read d (k : Int)).1)] W fun e w' => e = .returned (.tuple #[(Sup.readS (Grd.read d (k : Int)).1).1.v, .bool (Sup.readS (Grd.read d (k : Int)).1).2]) ∧ LoadIn w w' g bd mb d last) :=
    Lib.hid (fun W k last hi => (sread_any (Grd.read d (k : Int)).1 (Nat.le_trans (Sup.read_short d _) (by decide)) W).mono (fun e w' hp => ⟨hp.1, hi.below hp.2⟩))
  have HPL : Hid (∀ (s : Sup), Sup.right s = true → ∀ W, Calls Tryz.prog 26 #[.agg #[.int .i64 s.gen, .int .i64 s.boot, .int .i64 s.side, .int .i64 s.seed]] W fun e w' => e = .returned (.int .i64 (s.gen % 2)) ∧ Below W.heap.size W w') := Lib.hid (fun s hs W => supPlace_any s (by have := Sup.gen_pos hs; omega) W)
  have HM := Lib.hid (LoadIn.made h)
  unfold Sup.zero at HM
  unfold Sup.cells at HM
  dsimp only at HM
  clear h
  obtain ⟨res, hres⟩ : ∃ r, Sup.load d = r := ⟨_, rfl⟩
  rw [hres]
  have HRES := Lib.hid hres
  clear hres
  go_enter Tryz.func13, Tryz.ntmps13
  go_wp2_with fail
  go_loopw [11] (fun v11 wr => ∃ (k : Nat), k ≤ 2 ∧ v11 = .int .i64 (k : Int) ∧ LoadIn w wr g bd mb d (Sup.lastOf d k) ∧ Sup.fine d k) (fun v11 _ => 2 - (intOf v11).toNat)
  case atStart => exact ⟨0, by decide, rfl, HM.out, fun j hj => absurd hj (Nat.not_lt_zero _)⟩
  case round =>
    obtain ⟨k, hk, rfl, hi, hf⟩ := hrel
    have hk0 : (0 : Int) ≤ (k : Int) := by omega
    by_cases hlt : k < 2
    · have hki : (k : Int) < 2 := by omega
      have H := Lib.hid hi
      have HFI := Lib.hid hf
      have hst : Sup.lastOf d (k + 1) = Sup.stepL (Sup.lastOf d k) (Sup.look k (Grd.read d (k : Int))) := rfl
      have hbad := Sup.load_bad hlt hf
      have hgood := Sup.fine_succ hf
      have HG' := Lib.hid (fun W => HG.out W k (Sup.lastOf d k))
      have HSR' := Lib.hid (fun W => HSR.out W k (Sup.lastOf d k))
      clear hi hf HM HG HSR
      have hor := Sup.look_or k (Grd.read d (k : Int)).1 (Grd.read d (k : Int)).2.1 (Grd.read d (k : Int)).2.2
      generalize Grd.read d (k : Int) = rr at HG' HSR' hst hbad hgood hor
      obtain ⟨tx, stp, c⟩ := rr
      dsimp only at HG' HSR' hbad hgood hor
      generalize Sup.readS tx = rs at HSR' hor
      obtain ⟨x, ok⟩ := rs
      have hc0 : LoadIn w wr g bd mb d (Sup.lastOf d k) := H.out
      rcases hor with ⟨hc, hlk⟩ | ⟨rfl, hrs, hlk⟩ | ⟨rfl, s, hs, hrs, hlk⟩
      · have h1 : (c == 0) = false := by rw [beq_eq_false_iff_ne]; exact hc
        clear HSR' hc0
        by_cases h7 : c = 7
        · subst h7
          have hfi := hgood rfl
          rw [hlk] at hst
          have hst' : Sup.lastOf d (k + 1) = Sup.lastOf d k := hst
          clear hst hbad hgood hlk hc h1
          go_wp2_with fail
          refine (HG'.out _ H.out).mono ?_
          rintro e w1 ⟨rfl, h⟩
          have H1 := Lib.hid h
          clear h
          go_wp2_with fail
          go_roundw
          · exact ⟨k + 1, by omega, rfl, by rw [hst']; exact H1.out, hfi⟩
          · simp [intOf]; omega
        · have h7' : (c == 7) = false := by rw [beq_eq_false_iff_ne]; exact h7
          by_cases h17 : c = 17
          · subst h17
            have hfi := hgood rfl
            rw [hlk] at hst
            have hst' : Sup.lastOf d (k + 1) = Sup.lastOf d k := hst
            clear hst hbad hgood hlk hc h1 h7 h7'
            go_wp2_with fail
            refine (HG'.out _ H.out).mono ?_
            rintro e w1 ⟨rfl, h⟩
            have H1 := Lib.hid h
            clear h
            go_wp2_with fail
            go_roundw
            · exact ⟨k + 1, by omega, rfl, by rw [hst']; exact H1.out, hfi⟩
            · simp [intOf]; omega
          · have h17' : (c == 17) = false := by rw [beq_eq_false_iff_ne]; exact h17
            have hld := hbad (by unfold Sup.bad; simp [hc, h7, h17])
            have hR := HRES.out.symm.trans hld
            subst hR
            clear hst hbad hgood hlk hc h7 h17 hld
            go_wp2_with fail
            refine (HG'.out _ H.out).mono ?_
            rintro e w1 ⟨rfl, h⟩
            have H1 := Lib.hid h
            clear h
            have f0 := H1.out.res.free 0
            have f1 := H1.out.res.free 1
            have f2 := H1.out.res.free 2
            have f3 := H1.out.res.free 3
            have z0 : w1.cell? ⟨w.heap.size, 0, none⟩ = some (.int .i64 0) := H1.out.res.cell 0
            have z1 : w1.cell? ⟨w.heap.size, 1, none⟩ = some (.int .i64 0) := H1.out.res.cell 1
            have z2 : w1.cell? ⟨w.heap.size, 2, none⟩ = some (.int .i64 0) := H1.out.res.cell 2
            have z3 : w1.cell? ⟨w.heap.size, 3, none⟩ = some (.int .i64 0) := H1.out.res.cell 3
            go_wp2_with fail
            exact ret_sup2 (p := 2) (u := 3) rfl w.heap.size _ _ rfl rfl rfl (H1.out.res.sets4 (s := Sup.zero)) rfl ⟨rfl, res_below H1.out.bel _ _ _ _⟩
      · cases hrs
        have hfi := hgood rfl
        rw [hlk] at hst
        have hst' : Sup.lastOf d (k + 1) = Sup.lastOf d k := hst
        clear hst hbad hgood hlk hc0
        unfold Sup.zero Sup.v Sup.cells at HSR'
        dsimp only at HSR'
        go_wp2_with fail
        refine (HG'.out _ H.out).mono ?_
        rintro e w1 ⟨rfl, h⟩
        have H1 := Lib.hid h
        clear h
        go_wp2_with fail
        refine (HSR'.out _ H1.out).mono ?_
        rintro e w2 ⟨rfl, h⟩
        have H2 := Lib.hid (h.below ((Below.refl _ w2).alloc (Nat.le_refl _) (.cells #[.int .i64 0, .int .i64 0, .int .i64 0, .int .i64 0] 23)))
        clear h
        go_wp2_with fail
        go_roundw
        · exact ⟨k + 1, by omega, rfl, by rw [hst']; exact H2.out, hfi⟩
        · simp [intOf]; omega
      · cases hrs
        have hfi := hgood rfl
        have HPL' := Lib.hid (HPL.out x hs)
        clear hbad hgood HPL hs hc0
        obtain ⟨x1, x2, x3, x4⟩ := x
        unfold Sup.v Sup.cells at HSR'
        dsimp only at HSR' HPL' hlk
        rcases hlk with ⟨hpl, hlk⟩ | ⟨hpl, hlk⟩
        · have hp : (x1 % 2 == (k : Int)) = false := by rw [beq_eq_false_iff_ne]; exact hpl
          generalize x1 % 2 = pl at HPL' hp
          rw [hlk] at hst
          have hst' : Sup.lastOf d (k + 1) = Sup.lastOf d k := hst
          clear hst hlk hpl
          go_wp2_with fail
          refine (HG'.out _ H.out).mono ?_
          rintro e w1 ⟨rfl, h⟩
          have H1 := Lib.hid h
          clear h
          go_wp2_with fail
          refine (HSR'.out _ H1.out).mono ?_
          rintro e w2 ⟨rfl, h⟩
          have H2 := Lib.hid (h.below ((Below.refl _ w2).alloc (Nat.le_refl _) (.cells #[.int .i64 x1, .int .i64 x2, .int .i64 x3, .int .i64 x4] 23)))
          clear h
          have hx := Has.made w2 23 #[.int .i64 x1, .int .i64 x2, .int .i64 x3, .int .i64 x4]
          go_wp2_with fail
          refine (HPL'.out _).mono ?_
          rintro e w3 ⟨rfl, hb⟩
          have H3 := Lib.hid (H2.out.below hb)
          replace hx := hx.below hb (by simp)
          clear hb
          clear hx
          go_wp2_with fail
          go_roundw
          · exact ⟨k + 1, by omega, rfl, by rw [hst']; exact H3.out, hfi⟩
          · simp [intOf]; omega
        · have hp : (x1 % 2 == (k : Int)) = true := by rw [beq_iff_eq]; exact hpl
          generalize x1 % 2 = pl at HPL' hp
          rw [hlk] at hst
          have hst' : Sup.lastOf d (k + 1) = if (Sup.lastOf d k).gen < x1 then ⟨x1, x2, x3, x4⟩ else Sup.lastOf d k := hst
          clear hst hlk hpl
          generalize hold : Sup.lastOf d k = old at hst' H HG' HSR'
          clear hold
          go_wp2_with fail
          refine (HG'.out _ H.out).mono ?_
          rintro e w1 ⟨rfl, h⟩
          have H1 := Lib.hid h
          clear h
          go_wp2_with fail
          refine (HSR'.out _ H1.out).mono ?_
          rintro e w2 ⟨rfl, h⟩
          have H2 := Lib.hid (h.below ((Below.refl _ w2).alloc (Nat.le_refl _) (.cells #[.int .i64 x1, .int .i64 x2, .int .i64 x3, .int .i64 x4] 23)))
          clear h
          have hx := Has.made w2 23 #[.int .i64 x1, .int .i64 x2, .int .i64 x3, .int .i64 x4]
          go_wp2_with fail
          refine (HPL'.out _).mono ?_
          rintro e w3 ⟨rfl, hb⟩
          have H3 := Lib.hid (H2.out.below hb)
          replace hx := hx.below hb (by simp)
          clear hb
          have y0 := hx.cell 0
          have y1 := hx.cell 1
          have y2 := hx.cell 2
          have y3 := hx.cell 3
          simp only [List.getElem?_toArray, List.getElem?_cons_zero, List.getElem?_cons_succ] at y0 y1 y2 y3
          clear hx
          obtain ⟨c0, c1, c2, c3⟩ := H3.out.cs
          by_cases hgt : old.gen < x1
          · have f0 := H3.out.own.free 0
            have f1 := H3.out.own.free 1
            have f2 := H3.out.own.free 2
            have f3 := H3.out.own.free 3
            rw [if_pos hgt] at hst'
            have HF := Lib.hid (H3.out.set HL.out ⟨x1, x2, x3, x4⟩)
            go_wp2_with fail
            go_roundw
            · exact ⟨k + 1, by omega, rfl, by rw [hst']; exact HF.out, hfi⟩
            · simp [intOf]; omega
          · rw [if_neg hgt] at hst'
            go_wp2_with fail
            go_roundw
            · exact ⟨k + 1, by omega, rfl, by rw [hst']; exact H3.out, hfi⟩
            · simp [intOf]; omega
    · have hki : ¬ (k : Int) < 2 := by omega
      obtain rfl : k = 2 := by omega
      have hld := Sup.load_fine hf
      have hR := HRES.out.symm.trans hld
      have H1 := Lib.hid hi
      clear hi hf HM HG HSR HPL hld
      generalize Sup.lastOf d 2 = last at H1 hR
      obtain ⟨c0, c1, c2, c3⟩ := H1.out.cs
      have f0 := H1.out.res.free 0
      have f1 := H1.out.res.free 1
      have f2 := H1.out.res.free 2
      have f3 := H1.out.res.free 3
      have z0 : wr.cell? ⟨w.heap.size, 0, none⟩ = some (.int .i64 0) := H1.out.res.cell 0
      have z1 : wr.cell? ⟨w.heap.size, 1, none⟩ = some (.int .i64 0) := H1.out.res.cell 1
      have z2 : wr.cell? ⟨w.heap.size, 2, none⟩ = some (.int .i64 0) := H1.out.res.cell 2
      have z3 : wr.cell? ⟨w.heap.size, 3, none⟩ = some (.int .i64 0) := H1.out.res.cell 3
      by_cases hg0 : last.gen = 0
      · rw [if_pos hg0] at hR
        subst hR
        have hg1 : (last.gen == 0) = true := by rw [beq_iff_eq]; exact hg0
        clear hg0
        go_wp2_with fail
        exact ret_sup2 (p := 2) (u := 3) rfl w.heap.size _ _ rfl rfl rfl (H1.out.res.sets4 (s := Sup.zero)) rfl ⟨rfl, res_below H1.out.bel _ _ _ _⟩
      · rw [if_neg hg0] at hR
        subst hR
        have hg1 : (last.gen == 0) = false := by rw [beq_eq_false_iff_ne]; exact hg0
        clear hg0
        go_wp2_with fail
        exact ret_sup2 (p := 2) (u := 3) rfl w.heap.size _ _ rfl rfl rfl (H1.out.res.sets4 (s := last)) rfl ⟨rfl, res_below H1.out.bel _ _ _ _⟩
end Go.Proofs.YtdgfohffmbnjiaaGreatDoor
