/-
  SupLaw: the texts Quiet, SupN, SupI in one.
-/
import Derived.Test.YtdgfohffmbnjiaaGreatDoorMemOne
import Derived.Deep.QuietTactic
import Derived.Test.YtdgfohffmbnjiaaGreatDoorSupL
import Derived.Test.YtdgfohffmbnjiaaGreatDoorLawNum
namespace Go.Proofs.YtdgfohffmbnjiaaGreatDoor
open Go.RowKit
set_option linter.unusedVariables false

/-- Worlds that have grown out of one. -/
structure Grew (w W : World) : Prop where
  bel : Below w.heap.size w W
theorem wp_region_grew {P : Program} {id : Nat} {Q : Exit → Act → World → Prop} {a : Act} {w w0 : World} {l : List Oper} (hm : P.follows .mixedOrders = true) (hB : Region.lexB .any l.toArray = true) (h0 : Below w0.heap.size w0 w)
    (h : wpQuiet P l.toArray (Grew w0) (fun a' => ∀ w', Grew w0 w' → Q .normal a' w') l a) : (Code.region id l.toArray true).wp P Q a w :=
  wp_region_quiet (C := Grew w0) hm hB ⟨h0.trans (Below.refl _ w).drew |> fun x => x⟩ (by simpa using h)
theorem Calls.grew_of {P : Program} {f : FuncId} {args : Array Value} {w W : World} {v : Value} (hg : Grew w W) (h : Calls P f args W fun e w' => e = .returned v ∧ Below W.heap.size W w') :
    Calls P f args W fun e w'' => e = .returned v ∧ Grew w w'' :=
  h.mono fun _ _ ⟨he, hb⟩ => ⟨he, ⟨hg.bel.trans (hb.mono hg.bel.size)⟩⟩
end Go.Proofs.YtdgfohffmbnjiaaGreatDoor

namespace Go.Proofs.YtdgfohffmbnjiaaGreatDoor
open Go.RowKit
set_option linter.unusedVariables false

namespace Sup
/-- The one behind any, as the program's integers have it. -/
def nextW (s : Sup) (turn : Bool) : Sup := if turn = true then ⟨wrap64 (s.gen + 1), s.boot, wrap64 (1 - s.side), wrap64 (s.gen + 1)⟩ else ⟨wrap64 (s.gen + 1), s.boot, s.side, s.seed⟩
theorem nextW_eq {s : Sup} (h : right s = true) (turn : Bool) : nextW s turn = next s turn := by
  obtain ⟨h1, h2, h3, h4, h5, h6, h7⟩ := right_iff.1 h
  have e1 : wrap64 (s.gen + 1) = s.gen + 1 := by unfold wrap64; omega
  have e2 : wrap64 (1 - s.side) = 1 - s.side := by unfold wrap64; omega
  unfold nextW next
  rw [e1, e2]
end Sup
set_option maxRecDepth 100000 in
theorem snext_any (s : Sup) (turn : Bool) (w : World) :
    Calls Tryz.prog 20 #[s.v, .bool turn] w fun e w' => e = .returned (s.nextW turn).v ∧ Below w.heap.size w w' := by
  obtain ⟨g, b, i, e⟩ := s
  rw [Sup.v_eq]
  have hA : Sup.nextW ⟨g, b, i, e⟩ true = ⟨wrap64 (g + 1), b, wrap64 (1 - i), wrap64 (g + 1)⟩ := rfl
  have hB : Sup.nextW ⟨g, b, i, e⟩ false = ⟨wrap64 (g + 1), b, i, e⟩ := rfl
  cases turn
  · rw [hB, Sup.v_eq]
    clear hA hB
    go_enter Tryz.func20, Tryz.ntmps20
    go_wp2_with fail
    exact ret_sup (p := 4) rfl (w.heap.size + 1) _ rfl rfl (supNew _ _ _ _) rfl ⟨rfl, supUp _ _⟩
  · rw [hA, Sup.v_eq]
    clear hA hB
    go_enter Tryz.func20, Tryz.ntmps20
    go_wp2_with fail
    exact ret_sup (p := 4) rfl (w.heap.size + 1) _ rfl rfl (supNew _ _ _ _) rfl ⟨rfl, supUp _ _⟩
set_option maxRecDepth 100000 in
set_option maxHeartbeats 4000000 in
theorem lsright_any (s : Sup) (w : World) :
    Calls Tryz.prog 8 #[s.v] w fun e w' => e = .returned (.bool (Sup.right s)) ∧ Below w.heap.size w w' := by
  have hr := Sup.right_iff (s := s)
  obtain ⟨g, b, i, e⟩ := s
  rw [Sup.v_eq]
  dsimp only at hr
  go_enter Tryz.func8, Tryz.ntmps8
  go_wp2_with fail
  all_goals
    go_ret
    refine ⟨ret_bool ?_, (Below.refl _ w).alloc (Nat.le_refl _) _⟩
    first
      | (rw [Bool.eq_iff_iff, decide_eq_true_eq, Sup.right_iff]; dsimp only; omega)
      | (symm; rw [Bool.eq_false_iff, ne_eq, Sup.right_iff]; dsimp only; omega)

set_option maxRecDepth 100000 in
set_option maxHeartbeats 4000000 in
theorem lsbytes_any (s : Sup) (w : World) :
    Calls Tryz.prog 14 #[s.v] w fun e w' => e = .returned (.string (S (Sup.enc s))) ∧ Below w.heap.size w w' := by
  have HT : Hid (∀ W, Calls Tryz.prog 36 #[.string ⟨#[67, 72, 65, 82, 84, 49]⟩] W fun e w' => e = .returned (.string (S (M.encL 6 ++ Sup.sign))) ∧ Below W.heap.size W w') := Lib.hid (fun W => text_any Sup.sign W (by decide))
  have HN : Hid (∀ n W, Calls Tryz.prog 37 #[.int .i64 n] W fun e w' => e = .returned (.string (S (M.encL n))) ∧ Below W.heap.size W w') := Lib.hid (fun n W => num_any n W)
  have hE : Sup.enc s = M.encL 6 ++ Sup.sign ++ (M.encL s.gen ++ (M.encL s.boot ++ (M.encL s.side ++ (M.encL s.seed ++ [])))) := rfl
  rw [List.append_nil] at hE
  obtain ⟨g, b, i, e⟩ := s
  rw [Sup.v_eq]
  have HCS : ∀ W, Grew (w.alloc (.cells #[.int .i64 g, .int .i64 b, .int .i64 i, .int .i64 e] 23)) W → W.cell? ⟨w.heap.size, 0, none⟩ = some (.int .i64 g) ∧ W.cell? ⟨w.heap.size, 1, none⟩ = some (.int .i64 b) ∧ W.cell? ⟨w.heap.size, 2, none⟩ = some (.int .i64 i) ∧ W.cell? ⟨w.heap.size, 3, none⟩ = some (.int .i64 e) := fun W hW => by
    have h := (Has.made w 23 #[.int .i64 g, .int .i64 b, .int .i64 i, .int .i64 e]).below hW.bel (by simp)
    exact ⟨h.cell 0, h.cell 1, h.cell 2, h.cell 3⟩
  have HC := Lib.hid HCS
  clear HCS
  have HE := Lib.hid hE
  clear hE
  go_enter Tryz.func14, Tryz.ntmps14
  go_upto_region 1 with fail
  have HB := Lib.hid ((Below.refl w.heap.size w).alloc (Nat.le_refl _) (.cells #[.int .i64 g, .int .i64 b, .int .i64 i, .int .i64 e] 23))
  generalize w.alloc (.cells #[.int .i64 g, .int .i64 b, .int .i64 i, .int .i64 e] 23) = W0 at HB HC ⊢
  have n1 := M.encL_len g
  have n2 := M.encL_len b
  have n3 := M.encL_len i
  have n4 := M.encL_len e
  have n0 : (M.encL 6 ++ Sup.sign).length ≤ 100 := by decide
  have HNg := Lib.hid (fun W => HN.out g W)
  have HNb := Lib.hid (fun W => HN.out b W)
  have HNi := Lib.hid (fun W => HN.out i W)
  have HNe := Lib.hid (fun W => HN.out e W)
  clear HN
  dsimp only at HE
  generalize M.encL g = tg at HNg n1 HE
  generalize M.encL b = tb at HNb n2 HE
  generalize M.encL i = ti at HNi n3 HE
  generalize M.encL e = te at HNe n4 HE
  generalize M.encL 6 ++ Sup.sign = t0 at HT n0 HE
  have k1 : ¬ 9223372036854775807 < t0.length + tg.length := by omega
  have k2 : ¬ 9223372036854775807 < t0.length + tg.length + tb.length := by omega
  have k3 : ¬ 9223372036854775807 < t0.length + (tg.length + tb.length) + ti.length := by omega
  have k4 : ¬ 9223372036854775807 < t0.length + (tg.length + (tb.length + ti.length)) + te.length := by omega
  refine wp_region_grew (w0 := W0) (by kernel_rfl) (by kernel_rfl) (Below.refl _ _) ?_
  -- 0
  refine wpQuiet_step (fun K hK => ?_)
  go_simp
  apply Exists.intro
  refine ⟨fun W hW => ?_, hK _ ?_⟩
  · exact Calls.grew_of hW (HT.out W)
  clear hK K
  -- 1
  refine wpQuiet_step (fun K hK => ?_)
  go_simp
  apply Exists.intro
  refine ⟨fun W hW => ?_, hK _ ?_⟩
  · obtain ⟨c0, c1, c2, c3⟩ := HC.out W hW
    go_simp
    first | done | rfl
  clear hK K
  -- 2
  refine wpQuiet_step (fun K hK => ?_)
  go_simp
  apply Exists.intro
  refine ⟨fun W hW => ?_, hK _ ?_⟩
  · obtain ⟨c0, c1, c2, c3⟩ := HC.out W hW
    go_simp
    first | done | rfl
  clear hK K
  -- 3
  refine wpQuiet_step (fun K hK => ?_)
  go_simp
  apply Exists.intro
  refine ⟨fun W hW => ?_, hK _ ?_⟩
  · exact Calls.grew_of hW (HNg.out W)
  clear hK K
  -- 4
  refine wpQuiet_step (fun K hK => ?_)
  go_simp
  apply Exists.intro
  refine ⟨fun W hW => ?_, hK _ ?_⟩
  · obtain ⟨c0, c1, c2, c3⟩ := HC.out W hW
    go_simp
    first | done | rfl
  clear hK K
  -- 5
  refine wpQuiet_step (fun K hK => ?_)
  go_simp
  apply Exists.intro
  refine ⟨fun W hW => ?_, hK _ ?_⟩
  · obtain ⟨c0, c1, c2, c3⟩ := HC.out W hW
    go_simp
    first | done | rfl
  clear hK K
  -- 6
  refine wpQuiet_step (fun K hK => ?_)
  go_simp
  apply Exists.intro
  refine ⟨fun W hW => ?_, hK _ ?_⟩
  · obtain ⟨c0, c1, c2, c3⟩ := HC.out W hW
    go_simp
    first | done | rfl
  clear hK K
  -- 7
  refine wpQuiet_step (fun K hK => ?_)
  go_simp
  apply Exists.intro
  refine ⟨fun W hW => ?_, hK _ ?_⟩
  · exact Calls.grew_of hW (HNb.out W)
  clear hK K
  -- 8
  refine wpQuiet_step (fun K hK => ?_)
  go_simp
  apply Exists.intro
  refine ⟨fun W hW => ?_, hK _ ?_⟩
  · obtain ⟨c0, c1, c2, c3⟩ := HC.out W hW
    go_simp
    first | done | rfl
  clear hK K
  -- 9
  refine wpQuiet_step (fun K hK => ?_)
  go_simp
  apply Exists.intro
  refine ⟨fun W hW => ?_, hK _ ?_⟩
  · obtain ⟨c0, c1, c2, c3⟩ := HC.out W hW
    go_simp
    first | done | rfl
  clear hK K
  -- 10
  refine wpQuiet_step (fun K hK => ?_)
  go_simp
  apply Exists.intro
  refine ⟨fun W hW => ?_, hK _ ?_⟩
  · obtain ⟨c0, c1, c2, c3⟩ := HC.out W hW
    go_simp
    first | done | rfl
  clear hK K
  -- 11
  refine wpQuiet_step (fun K hK => ?_)
  go_simp
  apply Exists.intro
  refine ⟨fun W hW => ?_, hK _ ?_⟩
  · exact Calls.grew_of hW (HNi.out W)
  clear hK K
  -- 12
  refine wpQuiet_step (fun K hK => ?_)
  go_simp
  apply Exists.intro
  refine ⟨fun W hW => ?_, hK _ ?_⟩
  · obtain ⟨c0, c1, c2, c3⟩ := HC.out W hW
    go_simp
    first | done | rfl
  clear hK K
  -- 13
  refine wpQuiet_step (fun K hK => ?_)
  go_simp
  apply Exists.intro
  refine ⟨fun W hW => ?_, hK _ ?_⟩
  · obtain ⟨c0, c1, c2, c3⟩ := HC.out W hW
    go_simp
    first | done | rfl
  clear hK K
  -- 14
  refine wpQuiet_step (fun K hK => ?_)
  go_simp
  apply Exists.intro
  refine ⟨fun W hW => ?_, hK _ ?_⟩
  · obtain ⟨c0, c1, c2, c3⟩ := HC.out W hW
    go_simp
    first | done | rfl
  clear hK K
  -- 15
  refine wpQuiet_step (fun K hK => ?_)
  go_simp
  apply Exists.intro
  refine ⟨fun W hW => ?_, hK _ ?_⟩
  · exact Calls.grew_of hW (HNe.out W)
  clear hK K
  -- 16
  refine wpQuiet_step (fun K hK => ?_)
  go_simp
  apply Exists.intro
  refine ⟨fun W hW => ?_, hK _ ?_⟩
  · obtain ⟨c0, c1, c2, c3⟩ := HC.out W hW
    go_simp
    first | done | rfl
  clear hK K
  -- 17
  refine wpQuiet_step (fun K hK => ?_)
  go_simp
  apply Exists.intro
  refine ⟨fun W hW => ?_, hK _ ?_⟩
  · obtain ⟨c0, c1, c2, c3⟩ := HC.out W hW
    go_simp
    first | done | rfl
  clear hK K
  refine wpQuiet_nil ?_
  intro W hW
  go_wp2_with fail
  go_ret
  exact ⟨ret_str (congrArg S HE.out.symm), HB.out.trans (hW.bel.mono HB.out.size)⟩
end Go.Proofs.YtdgfohffmbnjiaaGreatDoor

namespace Go.Proofs.YtdgfohffmbnjiaaGreatDoor
open Go.RowKit
set_option linter.unusedVariables false

namespace Sup
def l1 (b : T) : T × R.St := R.text 100 (b, 0)
def l2 (b : T) : Int × R.St := R.num 2147483647 (l1 b).2
def l3 (b : T) : Int × R.St := R.num 2147483647 (l2 b).2
def l4 (b : T) : Int × R.St := R.num 1 (l3 b).2
def l5 (b : T) : Int × R.St := R.num 2147483647 (l4 b).2
/-- The superblock that the statement's reader makes of bytes. -/
def decL (b : T) : Sup := ⟨(l2 b).1, (l3 b).1, (l4 b).1, (l5 b).1⟩
theorem dec_eq (b : T) : dec b = ((l1 b).1, decL b, (l5 b).2) := rfl
theorem decL_enc {s : Sup} (h : right s = true) : decL (enc s) = s ∧ (l1 (enc s)).1 = sign ∧ (l5 (enc s)).2 = ([], 0) := by
  have h1 := dec_enc h
  rw [dec_eq] at h1
  injection h1 with h1 h2
  injection h2 with h2 h3
  exact ⟨h2, h1, h3⟩
def isS (b : T) (g : Int) : Bool := decide ((R.fin (l5 b).2).2 = 0) && (right (decL b) && (decide ((decL b).gen = g) && decide (enc (decL b) = b)))
theorem isS_some {b : T} {g : Int} (h : isS b g = true) : ∃ s, right s = true ∧ s.gen = g ∧ enc s = b ∧ (l2 b).1 = g := by
  unfold isS at h
  simp only [Bool.and_eq_true, decide_eq_true_eq] at h
  exact ⟨decL b, h.2.1, h.2.2.1, h.2.2.2, h.2.2.1⟩
end Sup
/-- What isSuper works in: its own superblock, the reader. -/
structure IsIn (w W : World) (r b o : Nat) (st : R.St) (s : Sup) : Prop where
  own : Has W o 23 s.cells
  rd : Rd W r b st
  nr : r ≠ o
  nb : b ≠ o
  lr : w.heap.size ≤ r
  lo : w.heap.size ≤ o
  bel : Below w.heap.size w W
theorem IsIn.only {w W W' : World} {r b o : Nat} {st st' : R.St} {s : Sup} (h : IsIn w W r b o st s) (hr : Rd W' r b st') (ho : Only W W' r) : IsIn w W' r b o st' s :=
  ⟨ho.has h.own h.nr.symm, hr, h.nr, h.nb, h.lr, h.lo, ho.below h.bel h.bel.size h.lr⟩
theorem IsIn.below {w W W' : World} {r b o : Nat} {st : R.St} {s : Sup} (h : IsIn w W r b o st s) (hb : Below W.heap.size W W') : IsIn w W' r b o st s :=
  ⟨h.own.below hb h.own.lt, h.rd.below hb (Nat.le_refl _), h.nr, h.nb, h.lr, h.lo, h.bel.trans (hb.mono h.bel.size)⟩
theorem IsIn.set {w W : World} {r b o : Nat} {st : R.St} {s : Sup} (h : IsIn w W r b o st s) (k : Nat) (v : Int) (s' : Sup) (e : s.cells.setIfInBounds k (.int .i64 v) = s'.cells) : IsIn w (W.setCell ⟨o, k, none⟩ (.int .i64 v)) r b o st s' :=
  have ho := Only.set W o k (.int .i64 v)
  ⟨by rw [← e]; exact h.own.set k _, h.rd.only ho h.nr h.nb, h.nr, h.nb, h.lr, h.lo, ho.below h.bel h.bel.size h.lo⟩
theorem IsIn.cs {w W : World} {r b o : Nat} {st : R.St} {s : Sup} (h : IsIn w W r b o st s) : SupLies o s W := ⟨h.own.cell 0, h.own.cell 1, h.own.cell 2, h.own.cell 3⟩
/-- A reader that a call has made. -/
structure RdIn (w W : World) (r b : Nat) (st : R.St) : Prop where
  rd : Rd W r b st
  lr : w.heap.size ≤ r
  sr : r < W.heap.size
  sb : b < W.heap.size
  bel : Below w.heap.size w W
theorem RdIn.only {w W W' : World} {r b : Nat} {st st' : R.St} (h : RdIn w W r b st) (hr : Rd W' r b st') (ho : Only W W' r) : RdIn w W' r b st' :=
  ⟨hr, h.lr, Nat.lt_of_lt_of_le h.sr ho.size, Nat.lt_of_lt_of_le h.sb ho.size, ho.below h.bel h.bel.size h.lr⟩
theorem RdIn.below {w W W' : World} {r b : Nat} {st : R.St} (h : RdIn w W r b st) (hb : Below W.heap.size W W') : RdIn w W' r b st :=
  ⟨h.rd.below hb (Nat.le_refl _), h.lr, Nat.lt_of_lt_of_le h.sr hb.size, Nat.lt_of_lt_of_le h.sb hb.size, h.bel.trans (hb.mono h.bel.size)⟩
theorem IsIn.made {w W : World} {r b : Nat} {st : R.St} (h : RdIn w W r b st) (s : Sup) : IsIn w (W.alloc (.cells s.cells 23)) r b W.heap.size st s :=
  have hb := (Below.refl W.heap.size W).alloc (Nat.le_refl _) (.cells s.cells 23)
  ⟨Has.made W _ _, h.rd.below hb (Nat.le_refl _), by have := h.sr; omega, by have := h.sb; omega, h.lr, h.bel.size, h.bel.trans (hb.mono h.bel.size)⟩
/-- octet.Read's reader. -/
theorem lread_any (l : List UInt8) (w0 w : World) (h0 : Below w0.heap.size w0 w) :
    Calls Tryz.prog 16 #[.string (S l)] w fun e w' => ∃ r b, e = .returned (.pointer (some ⟨r, 0, none⟩)) ∧ RdIn w0 w' r b (l, 0) ∧ Below w.heap.size w w' :=
  (octRead_any l w).mono (fun e w' hp => ⟨_, _, hp.1, ⟨hp.2.1, by have := h0.size; omega, by have := hp.2.2.2; omega, by have := hp.2.2.2; omega, h0.trans (hp.2.2.1.mono h0.size)⟩, hp.2.2.1⟩)

set_option maxRecDepth 100000 in
set_option maxHeartbeats 4000000 in
theorem isSuper_any (data : List UInt8) (n : Int) (hl : data.length ≤ 1000000000000000) (w : World) :
    Calls Tryz.prog 19 #[.string (S data), .int .i64 n] w fun e w' => e = .returned (.bool (Sup.isS data n)) ∧ Below w.heap.size w w' := by
  have HO := Lib.hid (lread_any data w w (Below.refl _ _))
  have k1 : (Sup.l1 data).2.1.length ≤ 1000000000000000 := Nat.le_trans (Sup.text_rest 100 (data, 0)) hl
  have k2 : (Sup.l2 data).2.1.length ≤ 1000000000000000 := Nat.le_trans (R.num_rest _ _) k1
  have k3 : (Sup.l3 data).2.1.length ≤ 1000000000000000 := Nat.le_trans (R.num_rest _ _) k2
  have k4 : (Sup.l4 data).2.1.length ≤ 1000000000000000 := Nat.le_trans (R.num_rest _ _) k3
  have H1 : Hid (∀ W r b, RdIn w W r b (data, 0) → Calls Tryz.prog 17 #[.pointer (some ⟨r, 0, none⟩), .int .i64 100] W fun e w' => (∃ x, e = .returned (.string (S x))) ∧ RdIn w w' r b (Sup.l1 data).2) :=
    Lib.hid (fun W r b h => (text_rd 100 r b _ W h.rd (by show data.length ≤ _; omega)).mono (fun e w' hp => ⟨⟨_, hp.1⟩, h.only hp.2.1 hp.2.2⟩))
  have H2 : Hid (∀ W r b, RdIn w W r b (Sup.l1 data).2 → Calls Tryz.prog 18 #[.pointer (some ⟨r, 0, none⟩), .int .i64 2147483647] W fun e w' => e = .returned (.int .i64 (Sup.l2 data).1) ∧ RdIn w w' r b (Sup.l2 data).2) :=
    Lib.hid (fun W r b h => (num_rd 2147483647 r b _ W h.rd (by omega)).mono (fun e w' hp => ⟨hp.1, h.only hp.2.1 hp.2.2⟩))
  have H3 : Hid (∀ W r b o s, IsIn w W r b o (Sup.l2 data).2 s → Calls Tryz.prog 18 #[.pointer (some ⟨r, 0, none⟩), .int .i64 2147483647] W fun e w' => e = .returned (.int .i64 (Sup.l3 data).1) ∧ IsIn w w' r b o (Sup.l3 data).2 s) :=
    Lib.hid (fun W r b o s h => (num_rd 2147483647 r b _ W h.rd (by omega)).mono (fun e w' hp => ⟨hp.1, h.only hp.2.1 hp.2.2⟩))
  have H4 : Hid (∀ W r b o s, IsIn w W r b o (Sup.l3 data).2 s → Calls Tryz.prog 18 #[.pointer (some ⟨r, 0, none⟩), .int .i64 1] W fun e w' => e = .returned (.int .i64 (Sup.l4 data).1) ∧ IsIn w w' r b o (Sup.l4 data).2 s) :=
    Lib.hid (fun W r b o s h => (num_rd 1 r b _ W h.rd (by omega)).mono (fun e w' hp => ⟨hp.1, h.only hp.2.1 hp.2.2⟩))
  have H5 : Hid (∀ W r b o s, IsIn w W r b o (Sup.l4 data).2 s → Calls Tryz.prog 18 #[.pointer (some ⟨r, 0, none⟩), .int .i64 2147483647] W fun e w' => e = .returned (.int .i64 (Sup.l5 data).1) ∧ IsIn w w' r b o (Sup.l5 data).2 s) :=
    Lib.hid (fun W r b o s h => (num_rd 2147483647 r b _ W h.rd (by omega)).mono (fun e w' hp => ⟨hp.1, h.only hp.2.1 hp.2.2⟩))
  have H6 : Hid (∀ W r b o s, IsIn w W r b o (Sup.l5 data).2 s → Calls Tryz.prog 46 #[.pointer (some ⟨r, 0, none⟩)] W fun e w' => e = .returned (.int .i64 (R.fin (Sup.l5 data).2).2) ∧ IsIn w w' r b o (R.fin (Sup.l5 data).2) s) :=
    Lib.hid (fun W r b o s h => (end_rd r b _ W h.rd).mono (fun e w' hp => ⟨hp.1, h.only hp.2.1 hp.2.2⟩))
  have hR : Sup.isS data n = (decide ((R.fin (Sup.l5 data).2).2 = 0) && (Sup.right ⟨(Sup.l2 data).1, (Sup.l3 data).1, (Sup.l4 data).1, (Sup.l5 data).1⟩ && (decide ((Sup.l2 data).1 = n) && decide (Sup.enc ⟨(Sup.l2 data).1, (Sup.l3 data).1, (Sup.l4 data).1, (Sup.l5 data).1⟩ = data)))) := rfl
  clear k1 k2 k3 k4 hl
  generalize Sup.isS data n = res at hR ⊢
  generalize R.fin (Sup.l5 data).2 = fin at H6 hR
  generalize (Sup.l5 data).2 = s5 at H5 H6
  generalize (Sup.l5 data).1 = x5 at H5 hR
  generalize (Sup.l4 data).2 = s4 at H4 H5
  generalize (Sup.l4 data).1 = x4 at H4 hR
  generalize (Sup.l3 data).2 = s3 at H3 H4
  generalize (Sup.l3 data).1 = x3 at H3 hR
  generalize (Sup.l2 data).2 = s2 at H2 H3
  generalize (Sup.l2 data).1 = x2 at H2 hR
  generalize (Sup.l1 data).2 = s1 at H1 H2
  obtain ⟨fs, fc⟩ := fin
  dsimp only at H6 hR
  have HR : Hid (∀ W, Calls Tryz.prog 8 #[.agg #[.int .i64 x2, .int .i64 x3, .int .i64 x4, .int .i64 x5]] W fun e w' => e = .returned (.bool (Sup.right ⟨x2, x3, x4, x5⟩)) ∧ Below W.heap.size W w') := Lib.hid (fun W => lsright_any ⟨x2, x3, x4, x5⟩ W)
  have HB : Hid (∀ W, Calls Tryz.prog 14 #[.agg #[.int .i64 x2, .int .i64 x3, .int .i64 x4, .int .i64 x5]] W fun e w' => e = .returned (.string (S (Sup.enc ⟨x2, x3, x4, x5⟩))) ∧ Below W.heap.size W w') := Lib.hid (fun W => lsbytes_any ⟨x2, x3, x4, x5⟩ W)
  have HM : Hid (∀ W r b, RdIn w W r b s2 → IsIn w (W.alloc (.cells #[.int .i64 x2, .int .i64 0, .int .i64 0, .int .i64 0] 23)) r b W.heap.size s2 ⟨x2, 0, 0, 0⟩) := Lib.hid (fun W r b h => IsIn.made h ⟨x2, 0, 0, 0⟩)
  generalize Sup.right ⟨x2, x3, x4, x5⟩ = rr at HR hR
  generalize Sup.enc ⟨x2, x3, x4, x5⟩ = en at HB hR
  have HRES := Lib.hid hR
  clear hR
  go_enter Tryz.func19, Tryz.ntmps19
  go_wp2_with fail
  refine HO.out.mono ?_
  rintro e w1 ⟨r, b, rfl, hr, _⟩
  have H := Lib.hid hr
  clear hr HO
  go_wp2_with fail
  refine (H1.out _ _ _ H.out).mono ?_
  rintro e w2 ⟨⟨tx, rfl⟩, h⟩
  replace H := Lib.hid h
  clear h H1
  go_wp2_with fail
  refine (H2.out _ _ _ H.out).mono ?_
  rintro e w3 ⟨rfl, h⟩
  replace H := Lib.hid (HM.out _ _ _ h)
  clear h H2 HM
  go_upto_region 4 with fail
  generalize w3.alloc (.cells #[.int .i64 x2, .int .i64 0, .int .i64 0, .int .i64 0] 23) = W0 at H ⊢
  generalize w3.heap.size = o at H ⊢
  go_wp2_with fail
  refine (H3.out _ _ _ _ _ H.out).mono ?_
  rintro e v1 ⟨rfl, h⟩
  have f0 := h.own.free 1
  have k0 : v1.cell? ⟨o, 1, none⟩ = some (.int .i64 0) := h.own.cell 1
  replace H := Lib.hid (h.set 1 x3 ⟨x2, x3, 0, 0⟩ rfl)
  clear h H3
  go_upto_region 5 with fail
  clear f0 k0
  generalize v1.setCell ⟨o, 1, none⟩ (.int .i64 x3) = W1 at H ⊢
  go_wp2_with fail
  refine (H4.out _ _ _ _ _ H.out).mono ?_
  rintro e v2 ⟨rfl, h⟩
  have f0 := h.own.free 2
  have k0 : v2.cell? ⟨o, 2, none⟩ = some (.int .i64 0) := h.own.cell 2
  replace H := Lib.hid (h.set 2 x4 ⟨x2, x3, x4, 0⟩ rfl)
  clear h H4
  go_upto_region 6 with fail
  clear f0 k0
  generalize v2.setCell ⟨o, 2, none⟩ (.int .i64 x4) = W2 at H ⊢
  go_wp2_with fail
  refine (H5.out _ _ _ _ _ H.out).mono ?_
  rintro e v3 ⟨rfl, h⟩
  have f0 := h.own.free 3
  have k0 : v3.cell? ⟨o, 3, none⟩ = some (.int .i64 0) := h.own.cell 3
  replace H := Lib.hid (h.set 3 x5 ⟨x2, x3, x4, x5⟩ rfl)
  clear h H5
  go_upto_region 7 with fail
  clear f0 k0
  generalize v3.setCell ⟨o, 3, none⟩ (.int .i64 x5) = W3 at H ⊢
  go_wp2_with fail
  refine (H6.out _ _ _ _ _ H.out).mono ?_
  rintro e w7 ⟨rfl, h⟩
  replace H := Lib.hid h
  clear h H6
  obtain ⟨c0, c1, c2, c3⟩ := H.out.cs
  dsimp only at c0 c1 c2 c3
  by_cases hc : fc = 0
  · have hc' : (fc == 0) = true := by rw [beq_iff_eq]; exact hc
    have hR := HRES.out
    rw [decide_eq_true hc, Bool.true_and] at hR
    clear hc HRES
    go_wp2_with fail
    refine (HR.out _).mono ?_
    rintro e w8 ⟨rfl, hb⟩
    replace H := Lib.hid (H.out.below hb)
    clear hb HR c0 c1 c2 c3
    obtain ⟨c0, c1, c2, c3⟩ := H.out.cs
    dsimp only at c0 c1 c2 c3
    cases rr with
    | false =>
      rw [Bool.false_and] at hR
      subst hR
      go_wp2_with fail
      go_ret
      exact ⟨rfl, H.out.bel⟩
    | true =>
      rw [Bool.true_and] at hR
      by_cases hg : x2 = n
      · have hg' : (x2 == n) = true := by rw [beq_iff_eq]; exact hg
        rw [decide_eq_true hg, Bool.true_and] at hR
        clear hg
        have HRES := Lib.hid hR
        clear hR
        go_wp2_with fail
        refine (HB.out _).mono ?_
        rintro e w9 ⟨rfl, hb⟩
        replace H := Lib.hid (H.out.below hb)
        clear hb HB c0 c1 c2 c3
        go_wp2_with fail
        go_ret
        rw [HRES.out]
        exact ⟨ret_bool (by rw [Bool.eq_iff_iff, beq_iff_eq, decide_eq_true_eq]), H.out.bel⟩
      · have hg' : (x2 == n) = false := by rw [beq_eq_false_iff_ne]; exact hg
        rw [decide_eq_false hg, Bool.false_and] at hR
        subst hR
        clear hg
        go_wp2_with fail
        go_ret
        exact ⟨rfl, H.out.bel⟩
  · have hc' : (fc == 0) = false := by rw [beq_eq_false_iff_ne]; exact hc
    have hR := HRES.out
    rw [decide_eq_false hc, Bool.false_and] at hR
    subst hR
    clear hc HRES
    go_wp2_with fail
    go_ret
    exact ⟨rfl, H.out.bel⟩
end Go.Proofs.YtdgfohffmbnjiaaGreatDoor
