/-
  The contract of super's read. Made by wip/gen/mksupc.py.
-/
import Derived.Test.YtdgfohffmbnjiaaGreatDoorSupOne
import Derived.Test.YtdgfohffmbnjiaaGreatDoorReadOne
namespace Go.Proofs.YtdgfohffmbnjiaaGreatDoor
open Go.RowKit
set_option linter.unusedVariables false

namespace Sup
theorem text_rest (m : Int) (st : R.St) : (R.text m st).2.1.length ≤ st.1.length :=
  Nat.le_trans (R.next_rest _ _) (R.num_rest m st)
def d1 (b : T) : T × R.St := R.text 6 (b, 0)
def d2 (b : T) : Int × R.St := R.num 2147483647 (d1 b).2
def d3 (b : T) : Int × R.St := R.num 2147483647 (d2 b).2
def d4 (b : T) : Int × R.St := R.num 2147483647 (d3 b).2
def d5 (b : T) : Int × R.St := R.num 2147483647 (d4 b).2
/-- What the program's reader makes of bytes. -/
def decP (b : T) : Sup := ⟨(d2 b).1, (d3 b).1, (d4 b).1, (d5 b).1⟩
theorem decP_enc {s : Sup} (h : right s = true) : decP (enc s) = s := by
  obtain ⟨h1, h2, h3, h4, h5, h6, h7⟩ := right_iff.1 h
  have e1 : d1 (enc s) = (sign, (M.encL s.gen ++ (M.encL s.boot ++ (M.encL s.side ++ (M.encL s.seed ++ []))), 0)) := R.text_fwd 6 sign _ (by decide) (by decide)
  have e2 := R.num_fwd 2147483647 s.gen (M.encL s.boot ++ (M.encL s.side ++ (M.encL s.seed ++ []))) (by omega) (by omega) (by omega)
  have e3 := R.num_fwd 2147483647 s.boot (M.encL s.side ++ (M.encL s.seed ++ [])) (by omega) (by omega) (by omega)
  have e4 := R.num_fwd 2147483647 s.side (M.encL s.seed ++ []) (by omega) (by omega) (by omega)
  have e5 := R.num_fwd 2147483647 s.seed [] (by omega) (by omega) (by omega)
  unfold decP d5 d4 d3 d2
  simp only [e1, e2, e3, e4, e5]
def readS (b : T) : Sup × Bool := if right (decP b) = true ∧ enc (decP b) = b then (decP b, true) else (zero, false)
theorem readS_some {s : Sup} {b : T} (h : right s = true) (he : enc s = b) : readS b = (s, true) := by
  subst he
  unfold readS
  rw [decP_enc h, if_pos ⟨h, rfl⟩]
theorem readS_or (b : T) : (readS b = (zero, false) ∧ ∀ s, right s = true → enc s ≠ b) ∨ ∃ s, right s = true ∧ enc s = b ∧ readS b = (s, true) := by
  by_cases h : right (decP b) = true ∧ enc (decP b) = b
  · exact Or.inr ⟨decP b, h.1, h.2, by unfold readS; rw [if_pos h]⟩
  · exact Or.inl ⟨by unfold readS; rw [if_neg h], fun s hs he => h (by subst he; rw [decP_enc hs]; exact ⟨hs, rfl⟩)⟩
theorem find_readS (i : Nat) (b : T) : find i b = if (readS b).2 = true ∧ (readS b).1.gen % 2 = (i : Int) then some (readS b).1 else none := by
  rcases readS_or b with ⟨h, hn⟩ | ⟨s, hs, he, h⟩
  · rw [h, if_neg (by rintro ⟨h, _⟩; cases h)]
    cases hf : find i b with
    | none => rfl
    | some s =>
      obtain ⟨h1, _, h3⟩ := find_iff.1 hf
      exact absurd h3 (hn s h1)
  · rw [h]
    by_cases hi : s.gen % 2 = (i : Int)
    · rw [if_pos ⟨rfl, hi⟩]
      exact find_iff.2 ⟨hs, hi, he⟩
    · rw [if_neg (fun hc => hi hc.2)]
      cases hf : find i b with
      | none => rfl
      | some t =>
        obtain ⟨h1, h2, h3⟩ := find_iff.1 hf
        have := enc_inj hs h1 (he.trans h3.symm)
        subst this
        exact absurd h2 hi
end Sup
theorem ret_sup2 {fn : Func} {p u : Tmp} {R : Ending → World → Prop} {a : Act} {w : World} (h : fn.results = #[.cell p 23, .tmp u]) (g : Nat) (cs : Array Value) (v : Value)
    (hp : a.tmps.getD p undef = .pointer (some ⟨g, 0, none⟩)) (hu : a.tmps.getD u undef = v) (hd : a.defers = []) (hh : Has w g 23 cs) (hcs : cs.size = 4) (hR : R (.returned (.tuple #[.agg cs, v])) w) : bodyPost Tryz.prog fn R .ret a w :=
  bodyPost_ret (v := .tuple #[.agg cs, v]) (by
    rw [results_cell_tmp h, hp, hu]
    simp [asAddr, supWhole hh hcs, Result.andThen]) hd hR

/-- What read works in: the room for the result, its own superblock, the reader. -/
structure ReadIn (w W : World) (r b : Nat) (st : R.St) (s : Sup) : Prop where
  res : Has W w.heap.size 23 Sup.zero.cells
  own : Has W (w.heap.size + 1) 23 s.cells
  rd : Rd W r b st
  hr : w.heap.size + 1 < r
  hb : w.heap.size + 1 < b
  bel : Below w.heap.size w W
theorem ReadIn.only {w W W' : World} {r b : Nat} {st st' : R.St} {s : Sup} (h : ReadIn w W r b st s) (hr : Rd W' r b st') (ho : Only W W' r) : ReadIn w W' r b st' s :=
  ⟨ho.has h.res (by have := h.hr; omega), ho.has h.own (by have := h.hr; omega), hr, h.hr, h.hb, ho.below h.bel h.bel.size (by have := h.hr; omega)⟩
theorem ReadIn.below {w W W' : World} {r b : Nat} {st : R.St} {s : Sup} (h : ReadIn w W r b st s) (hb : Below W.heap.size W W') : ReadIn w W' r b st s :=
  ⟨h.res.below hb h.res.lt, h.own.below hb h.own.lt, h.rd.below hb (Nat.le_refl _), h.hr, h.hb, h.bel.trans (hb.mono h.bel.size)⟩
theorem ReadIn.set {w W : World} {r b : Nat} {st : R.St} {s : Sup} (h : ReadIn w W r b st s) (k : Nat) (v : Int) (s' : Sup) (e : s.cells.setIfInBounds k (.int .i64 v) = s'.cells) : ReadIn w (W.setCell ⟨w.heap.size + 1, k, none⟩ (.int .i64 v)) r b st s' :=
  have ho := Only.set W (w.heap.size + 1) k (.int .i64 v)
  ⟨ho.has h.res (by omega), by rw [← e]; exact h.own.set k _, h.rd.only ho (by have := h.hr; omega) (by have := h.hb; omega), h.hr, h.hb, ho.below h.bel h.bel.size (by omega)⟩
theorem ReadIn.made {w W : World} {r b : Nat} {l : List UInt8} (hr : Rd W r b (l, 0))
    (hb : Below ((w.alloc (.cells Sup.zero.cells 23)).alloc (.cells Sup.zero.cells 23)).heap.size ((w.alloc (.cells Sup.zero.cells 23)).alloc (.cells Sup.zero.cells 23)) W)
    (h1 : w.heap.size + 1 < r) (h2 : w.heap.size + 1 < b) : ReadIn w W r b (l, 0) Sup.zero := by
  have a1 := Has.made w 23 Sup.zero.cells
  have a2 := Has.made (w.alloc (.cells Sup.zero.cells 23)) 23 Sup.zero.cells
  have b0 : Below w.heap.size w _ := ((Below.refl _ w).alloc (Nat.le_refl _) (.cells Sup.zero.cells 23)).alloc (by simp) (.cells Sup.zero.cells 23)
  rw [asize] at a2
  exact ⟨(a1.of_alloc _).below hb (by simp only [asize]; omega), a2.below hb (by simp only [asize]; omega), hr, h1, h2, b0.trans (hb.mono b0.size)⟩
theorem res_below {w W : World} (h : Below w.heap.size w W) (a b c d : Value) : Below w.heap.size w ((((W.setCell ⟨w.heap.size, 0, none⟩ a).setCell ⟨w.heap.size, 1, none⟩ b).setCell ⟨w.heap.size, 2, none⟩ c).setCell ⟨w.heap.size, 3, none⟩ d) :=
  ((((Only.set W w.heap.size 0 a).trans (Only.set _ w.heap.size 1 b)).trans (Only.set _ w.heap.size 2 c)).trans (Only.set _ w.heap.size 3 d)).below h h.size (Nat.le_refl _)
theorem ReadIn.cs {w W : World} {r b : Nat} {st : R.St} {s : Sup} (h : ReadIn w W r b st s) :
    W.cell? ⟨w.heap.size + 1, 0, none⟩ = some (.int .i64 s.gen) ∧ W.cell? ⟨w.heap.size + 1, 1, none⟩ = some (.int .i64 s.boot) ∧ W.cell? ⟨w.heap.size + 1, 2, none⟩ = some (.int .i64 s.side) ∧ W.cell? ⟨w.heap.size + 1, 3, none⟩ = some (.int .i64 s.seed) :=
  ⟨h.own.cell 0, h.own.cell 1, h.own.cell 2, h.own.cell 3⟩

set_option maxRecDepth 100000 in
set_option maxHeartbeats 4000000 in
theorem sread_any (data : List UInt8) (hl : data.length ≤ 1000000000000000) (w : World) :
    Calls Tryz.prog 35 #[.string (S data)] w fun e w' => e = .returned (.tuple #[(Sup.readS data).1.v, .bool (Sup.readS data).2]) ∧ Below w.heap.size w w' := by
  have HN : Hid _ := fun (gg : Nat) (W : World) => supNumbers_any gg W
  unfold supNums at HN
  have HO : Hid _ := fun (W : World) => octRead_any data W
  have l1 : (Sup.d1 data).2.1.length ≤ 1000000000000000 := Nat.le_trans (Sup.text_rest 6 (data, 0)) hl
  have l2 : (Sup.d2 data).2.1.length ≤ 1000000000000000 := Nat.le_trans (R.num_rest _ _) l1
  have l3 : (Sup.d3 data).2.1.length ≤ 1000000000000000 := Nat.le_trans (R.num_rest _ _) l2
  have l4 : (Sup.d4 data).2.1.length ≤ 1000000000000000 := Nat.le_trans (R.num_rest _ _) l3
  have H1 : Hid (∀ W r b s, ReadIn w W r b (data, 0) s → Calls Tryz.prog 17 #[.pointer (some ⟨r, 0, none⟩), .int .i64 6] W fun e w' => (∃ x, e = .returned (.string (S x))) ∧ ReadIn w w' r b (Sup.d1 data).2 s) :=
    Lib.hid (fun W r b s h => (text_rd 6 r b _ W h.rd (by show data.length ≤ _; omega)).mono (fun e w' hp => ⟨⟨_, hp.1⟩, h.only hp.2.1 hp.2.2⟩))
  have H2 : Hid (∀ W r b s, ReadIn w W r b (Sup.d1 data).2 s → Calls Tryz.prog 18 #[.pointer (some ⟨r, 0, none⟩), .int .i64 2147483647] W fun e w' => e = .returned (.int .i64 (Sup.d2 data).1) ∧ ReadIn w w' r b (Sup.d2 data).2 s) :=
    Lib.hid (fun W r b s h => (num_rd 2147483647 r b _ W h.rd (by omega)).mono (fun e w' hp => ⟨hp.1, h.only hp.2.1 hp.2.2⟩))
  have H3 : Hid (∀ W r b s, ReadIn w W r b (Sup.d2 data).2 s → Calls Tryz.prog 18 #[.pointer (some ⟨r, 0, none⟩), .int .i64 2147483647] W fun e w' => e = .returned (.int .i64 (Sup.d3 data).1) ∧ ReadIn w w' r b (Sup.d3 data).2 s) :=
    Lib.hid (fun W r b s h => (num_rd 2147483647 r b _ W h.rd (by omega)).mono (fun e w' hp => ⟨hp.1, h.only hp.2.1 hp.2.2⟩))
  have H4 : Hid (∀ W r b s, ReadIn w W r b (Sup.d3 data).2 s → Calls Tryz.prog 18 #[.pointer (some ⟨r, 0, none⟩), .int .i64 2147483647] W fun e w' => e = .returned (.int .i64 (Sup.d4 data).1) ∧ ReadIn w w' r b (Sup.d4 data).2 s) :=
    Lib.hid (fun W r b s h => (num_rd 2147483647 r b _ W h.rd (by omega)).mono (fun e w' hp => ⟨hp.1, h.only hp.2.1 hp.2.2⟩))
  have H5 : Hid (∀ W r b s, ReadIn w W r b (Sup.d4 data).2 s → Calls Tryz.prog 18 #[.pointer (some ⟨r, 0, none⟩), .int .i64 2147483647] W fun e w' => e = .returned (.int .i64 (Sup.d5 data).1) ∧ ReadIn w w' r b (Sup.d5 data).2 s) :=
    Lib.hid (fun W r b s h => (num_rd 2147483647 r b _ W h.rd (by omega)).mono (fun e w' hp => ⟨hp.1, h.only hp.2.1 hp.2.2⟩))
  have hR : Sup.readS data = if Sup.right ⟨(Sup.d2 data).1, (Sup.d3 data).1, (Sup.d4 data).1, (Sup.d5 data).1⟩ = true ∧ Sup.enc ⟨(Sup.d2 data).1, (Sup.d3 data).1, (Sup.d4 data).1, (Sup.d5 data).1⟩ = data then (⟨(Sup.d2 data).1, (Sup.d3 data).1, (Sup.d4 data).1, (Sup.d5 data).1⟩, true) else (Sup.zero, false) := rfl
  clear l1 l2 l3 l4
  generalize Sup.readS data = res at hR ⊢
  generalize (Sup.d5 data).2 = s5 at H5
  generalize (Sup.d5 data).1 = x5 at H5 hR
  generalize (Sup.d4 data).2 = s4 at H4 H5
  generalize (Sup.d4 data).1 = x4 at H4 hR
  generalize (Sup.d3 data).2 = s3 at H3 H4
  generalize (Sup.d3 data).1 = x3 at H3 hR
  generalize (Sup.d2 data).2 = s2 at H2 H3
  generalize (Sup.d2 data).1 = x2 at H2 hR
  generalize (Sup.d1 data).2 = s1 at H1 H2
  have HR : Hid (∀ W, Calls Tryz.prog 7 #[.agg #[.int .i64 x2, .int .i64 x3, .int .i64 x4, .int .i64 x5]] W fun e w' => e = .returned (.bool (Sup.right ⟨x2, x3, x4, x5⟩)) ∧ Below W.heap.size W w') := Lib.hid (fun W => supRight_any ⟨x2, x3, x4, x5⟩ W)
  have HM : Hid (∀ W r b, Rd W r b (data, 0) → Below ((w.alloc (.cells #[.int .i64 0, .int .i64 0, .int .i64 0, .int .i64 0] 23)).alloc (.cells #[.int .i64 0, .int .i64 0, .int .i64 0, .int .i64 0] 23)).heap.size ((w.alloc (.cells #[.int .i64 0, .int .i64 0, .int .i64 0, .int .i64 0] 23)).alloc (.cells #[.int .i64 0, .int .i64 0, .int .i64 0, .int .i64 0] 23)) W → w.heap.size + 1 < r → w.heap.size + 1 < b → ReadIn w W r b (data, 0) ⟨0, 0, 0, 0⟩) := Lib.hid (fun W r b h1 h2 h3 h4 => ReadIn.made h1 h2 h3 h4)
  have r0 := fun W => run_nums0 (w.heap.size + 1) W
  have r1 := fun W => run_nums1 (w.heap.size + 1) W
  have r2 := fun W => run_nums2 (w.heap.size + 1) W
  have r3 := fun W => run_nums3 (w.heap.size + 1) W
  have HRES := Lib.hid hR
  clear hR hl
  go_enter Tryz.func35, Tryz.ntmps35
  go_wp2_with fail
  refine (HO.out _).mono ?_
  rintro e w1 ⟨rfl, hr, hb, _⟩
  simp only [asize] at hr ⊢
  have H := Lib.hid (HM.out _ _ _ hr hb (by omega) (by omega))
  clear hr hb HO HM
  have hrlo : w.heap.size + 1 < w.heap.size + 1 + 1 + 1 := by omega
  generalize w.heap.size + 1 + 1 + 1 = r at H ⊢
  generalize w.heap.size + 1 + 1 = b at H
  clear hrlo
  go_wp2_with fail
  refine (H1.out _ _ _ _ H.out).mono ?_
  rintro e w2 ⟨⟨tx, rfl⟩, h⟩
  replace H := Lib.hid h
  clear h H1
  go_wp2_with fail
  refine (HN.out _ _).mono ?_
  rintro e w3 ⟨rfl, hb⟩
  replace H := Lib.hid (H.out.below hb)
  clear hb HN
  go_wp2_with fail
  refine wp_loop_rounds 5 ?_
  rw [rounds_succ]
  go_wp2_with fail
  refine (H2.out _ _ _ _ H.out).mono ?_
  rintro e w4 ⟨rfl, h⟩
  have f0 := h.own.free 0
  have k0 : w4.cell? ⟨w.heap.size + 1, 0, none⟩ = some (.int .i64 0) := h.own.cell 0
  replace H := Lib.hid (h.set 0 x2 ⟨x2, 0, 0, 0⟩ rfl)
  clear h H2
  go_wp2_with fail
  clear f0 k0
  generalize w4.setCell ⟨w.heap.size + 1, 0, none⟩ (.int .i64 x2) = W0 at H ⊢
  rw [rounds_succ]
  go_wp2_with fail
  refine (H3.out _ _ _ _ H.out).mono ?_
  rintro e w4 ⟨rfl, h⟩
  have f0 := h.own.free 1
  have k0 : w4.cell? ⟨w.heap.size + 1, 1, none⟩ = some (.int .i64 0) := h.own.cell 1
  replace H := Lib.hid (h.set 1 x3 ⟨x2, x3, 0, 0⟩ rfl)
  clear h H3
  go_wp2_with fail
  clear f0 k0
  generalize w4.setCell ⟨w.heap.size + 1, 1, none⟩ (.int .i64 x3) = W1 at H ⊢
  rw [rounds_succ]
  go_wp2_with fail
  refine (H4.out _ _ _ _ H.out).mono ?_
  rintro e w4 ⟨rfl, h⟩
  have f0 := h.own.free 2
  have k0 : w4.cell? ⟨w.heap.size + 1, 2, none⟩ = some (.int .i64 0) := h.own.cell 2
  replace H := Lib.hid (h.set 2 x4 ⟨x2, x3, x4, 0⟩ rfl)
  clear h H4
  go_wp2_with fail
  clear f0 k0
  generalize w4.setCell ⟨w.heap.size + 1, 2, none⟩ (.int .i64 x4) = W2 at H ⊢
  rw [rounds_succ]
  go_wp2_with fail
  refine (H5.out _ _ _ _ H.out).mono ?_
  rintro e w4 ⟨rfl, h⟩
  have f0 := h.own.free 3
  have k0 : w4.cell? ⟨w.heap.size + 1, 3, none⟩ = some (.int .i64 0) := h.own.cell 3
  replace H := Lib.hid (h.set 3 x5 ⟨x2, x3, x4, x5⟩ rfl)
  clear h H5
  go_wp2_with fail
  clear f0 k0
  generalize w4.setCell ⟨w.heap.size + 1, 3, none⟩ (.int .i64 x5) = W3 at H ⊢
  rw [rounds_succ]
  clear r0 r1 r2 r3
  obtain ⟨c0, c1, c2, c3⟩ := H.out.cs
  dsimp only at c0 c1 c2 c3
  go_wp2_with fail
  refine (HR.out _).mono ?_
  rintro e w5 ⟨rfl, hb⟩
  replace H := Lib.hid (H.out.below hb)
  clear hb HR c0 c1 c2 c3
  have HB : Sup.right ⟨x2, x3, x4, x5⟩ = true → ∀ W, Calls Tryz.prog 27 #[.agg #[.int .i64 x2, .int .i64 x3, .int .i64 x4, .int .i64 x5]] W fun e w' => e = .returned (.string (S (Sup.enc ⟨x2, x3, x4, x5⟩))) ∧ Below W.heap.size W w' := fun hs W => sbytes_any ⟨x2, x3, x4, x5⟩ hs W
  have hRes := HRES.out
  clear HRES
  cases hr : Sup.right ⟨x2, x3, x4, x5⟩ with
  | false =>
    rw [hr, if_neg (by rintro ⟨h, _⟩; cases h)] at hRes
    clear hr HB
    have H' := Lib.hid H.out.res
    have HF := Lib.hid H.out.bel
    have f0 := H'.out.free 0
    have f1 := H'.out.free 1
    have f2 := H'.out.free 2
    have f3 := H'.out.free 3
    have c0 : w5.cell? ⟨w.heap.size, 0, none⟩ = some (.int .i64 0) := H'.out.cell 0
    have c1 : w5.cell? ⟨w.heap.size, 1, none⟩ = some (.int .i64 0) := H'.out.cell 1
    have c2 : w5.cell? ⟨w.heap.size, 2, none⟩ = some (.int .i64 0) := H'.out.cell 2
    have c3 : w5.cell? ⟨w.heap.size, 3, none⟩ = some (.int .i64 0) := H'.out.cell 3
    subst hRes
    go_wp2_with fail
    exact ret_sup2 (p := 2) (u := 3) rfl w.heap.size _ _ rfl rfl rfl (((((H'.out.set 0 (.int .i64 0)).set 1 (.int .i64 0)).set 2 (.int .i64 0)).set 3 (.int .i64 0))) rfl ⟨rfl, res_below HF.out _ _ _ _⟩
  | true =>
    have HB := Lib.hid (HB hr)
    rw [hr] at hRes
    clear hr
    have hx : (Sup.enc ⟨x2, x3, x4, x5⟩ == data) = decide (Sup.enc ⟨x2, x3, x4, x5⟩ = data) := by
      rw [Bool.eq_iff_iff, beq_iff_eq, decide_eq_true_eq]
    obtain ⟨c0, c1, c2, c3⟩ := H.out.cs
    dsimp only at c0 c1 c2 c3
    by_cases he : Sup.enc ⟨x2, x3, x4, x5⟩ = data
    · rw [if_pos ⟨rfl, he⟩] at hRes
      have hx : (Sup.enc ⟨x2, x3, x4, x5⟩ == data) = true := by rw [beq_iff_eq]; exact he
      clear he
      subst hRes
      generalize Sup.enc ⟨x2, x3, x4, x5⟩ = en at HB hx
      go_wp2_with fail
      refine (HB.out _).mono ?_
      rintro e w6 ⟨rfl, hb⟩
      replace H := Lib.hid (H.out.below hb)
      clear hb HB c0 c1 c2 c3
      obtain ⟨c0, c1, c2, c3⟩ := H.out.cs
      dsimp only at c0 c1 c2 c3
      have H' := Lib.hid H.out.res
      have HF := Lib.hid H.out.bel
      have f0 := H'.out.free 0
      have f1 := H'.out.free 1
      have f2 := H'.out.free 2
      have f3 := H'.out.free 3
      have z0 : w6.cell? ⟨w.heap.size, 0, none⟩ = some (.int .i64 0) := H'.out.cell 0
      have z1 : w6.cell? ⟨w.heap.size, 1, none⟩ = some (.int .i64 0) := H'.out.cell 1
      have z2 : w6.cell? ⟨w.heap.size, 2, none⟩ = some (.int .i64 0) := H'.out.cell 2
      have z3 : w6.cell? ⟨w.heap.size, 3, none⟩ = some (.int .i64 0) := H'.out.cell 3
      go_wp2_with fail
      exact ret_sup2 (p := 2) (u := 3) rfl w.heap.size _ _ rfl rfl rfl (((((H'.out.set 0 (.int .i64 x2)).set 1 (.int .i64 x3)).set 2 (.int .i64 x4)).set 3 (.int .i64 x5))) rfl ⟨rfl, res_below HF.out _ _ _ _⟩
    · rw [if_neg (fun h => he h.2)] at hRes
      have hx : (Sup.enc ⟨x2, x3, x4, x5⟩ == data) = false := by rw [beq_eq_false_iff_ne]; exact he
      clear he
      subst hRes
      generalize Sup.enc ⟨x2, x3, x4, x5⟩ = en at HB hx
      go_wp2_with fail
      refine (HB.out _).mono ?_
      rintro e w6 ⟨rfl, hb⟩
      replace H := Lib.hid (H.out.below hb)
      clear hb HB c0 c1 c2 c3
      have H' := Lib.hid H.out.res
      have HF := Lib.hid H.out.bel
      have f0 := H'.out.free 0
      have f1 := H'.out.free 1
      have f2 := H'.out.free 2
      have f3 := H'.out.free 3
      have z0 : w6.cell? ⟨w.heap.size, 0, none⟩ = some (.int .i64 0) := H'.out.cell 0
      have z1 : w6.cell? ⟨w.heap.size, 1, none⟩ = some (.int .i64 0) := H'.out.cell 1
      have z2 : w6.cell? ⟨w.heap.size, 2, none⟩ = some (.int .i64 0) := H'.out.cell 2
      have z3 : w6.cell? ⟨w.heap.size, 3, none⟩ = some (.int .i64 0) := H'.out.cell 3
      go_wp2_with fail
      exact ret_sup2 (p := 2) (u := 3) rfl w.heap.size _ _ rfl rfl rfl (((((H'.out.set 0 (.int .i64 0)).set 1 (.int .i64 0)).set 2 (.int .i64 0)).set 3 (.int .i64 0))) rfl ⟨rfl, res_below HF.out _ _ _ _⟩
end Go.Proofs.YtdgfohffmbnjiaaGreatDoor
