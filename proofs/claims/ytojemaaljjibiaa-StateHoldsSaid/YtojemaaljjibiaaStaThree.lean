/-
  StaThree: the texts Num, PapWd, DskFillL, Take, TwoH, ThreeH in one.
-/
import Derived.Test.YtojemaaljjibiaaChecked
import Derived.Test.YtojemaaljjibiaaStaOne
import Derived.Test.YtojemaaljjibiaaProg
import Derived.WalkSpells
import Derived.Laws.MakeOwn
import Derived.OrdersHeld
import Derived.Deep.RegionHeld3
import Derived.Deep.QuietTactic
import Derived.BigQuiet
import Derived.WalkKit
namespace Go.Proofs.Ytojemaaljjibiaa
open Go.RowKit
set_option linter.unusedVariables false

def cellsOf (z : Nat) (l : List UInt8) : Array Value := (List.replicate z (Value.int .u8 0) ++ bcells l).toArray

theorem cellsOf_set (z : Nat) (c : UInt8) (l : List UInt8) : (cellsOf (z + 1) l).setIfInBounds z (.int .u8 c.toNat) = cellsOf z (c :: l) := by
  unfold cellsOf bcells
  simp [List.replicate_succ']

theorem cellsOf_at (z : Nat) (l : List UInt8) (i : Nat) : (cellsOf z l)[z + i]? = (bcells l)[i]? := by
  unfold cellsOf
  rw [List.getElem?_toArray, List.getElem?_append_right (by simp)]
  simp

theorem num_rel {n m z : Nat} {l : List UInt8} {w wr : World} {B t : Nat} (h0 : 0 < m) (h1 : n < 72057594037927936) (hz : l.length = 7 - z) (hz7 : z ≤ 7) (hl : l.length ≤ 6) (hm : m < 256 ^ (7 - l.length)) (hd : M.dig n = M.dig m ++ l)
    (hh : Has wr B t (cellsOf (z + 1) l)) (hb : Below B w wr) :
    ∃ (m' : Nat) (l' : List UInt8), l'.length ≤ 7 ∧ m' < 256 ^ (7 - l'.length) ∧ M.dig n = M.dig m' ++ l' ∧ Value.int .i64 (z : Nat) = .int .i64 ((8 - l'.length : Nat) : Int) ∧ Value.int .i64 ((m : Int) / 256) = .int .i64 (m' : Nat) ∧
      Has (wr.setCell ⟨B, z, none⟩ (.int .u8 ((m : Int) % 256))) B t (cellsOf (8 - l'.length) l') ∧ Below B w (wr.setCell ⟨B, z, none⟩ (.int .u8 ((m : Int) % 256))) := by
  have e : (m : Int) % 256 = ((UInt8.ofNat (m % 256)).toNat : Int) := by simp
  have hm56 : m < 72057594037927936 := by
    have h7 : 256 ^ (7 - l.length) ≤ 256 ^ 7 := Nat.pow_le_pow_right (by omega) (by omega)
    have h8 : (256 : Nat) ^ 7 = 72057594037927936 := by decide
    omega
  refine ⟨m / 256, UInt8.ofNat (m % 256) :: l, by simp; omega, ?_, ?_, ?_, by simp, ?_, hb.setCell (Nat.le_refl _) _⟩
  · rw [List.length_cons]
    refine Nat.div_lt_of_lt_mul ?_
    have h9 : 256 * 256 ^ (7 - (l.length + 1)) = 256 ^ (7 - l.length) := by
      rw [Nat.mul_comm, ← Nat.pow_succ]; congr 1; omega
    rw [h9]; exact hm
  · rw [hd, M.dig_step m h0 hm56]; simp
  · rw [List.length_cons]; congr 1; omega
  · rw [e, List.length_cons, show 8 - (l.length + 1) = z by omega, ← cellsOf_set]
    exact hh.set z _

set_option maxHeartbeats 400000 in
theorem num_none (n : Int) (w : World) (h : n < 0 ∨ 72057594037927936 ≤ n) :
    Calls Try.prog 102 #[.int .i64 n] w fun e w' => e = .returned (.string ⟨#[]⟩) ∧ Below w.heap.size w w' := by
  rcases h with h | h
  · go_enter Try.func102, Try.ntmps102
    go_wp2
    go_ret
    exact ⟨rfl, Below.refl _ _⟩
  · have h0 : ¬ n < 0 := by omega
    go_enter Try.func102, Try.ntmps102
    go_wp2
    go_ret
    exact ⟨rfl, Below.refl _ _⟩

set_option maxHeartbeats 400000 in
theorem num_some (n : Int) (w : World) (h0 : 0 ≤ n) (h1 : n < 72057594037927936) :
    Calls Try.prog 102 #[.int .i64 n] w fun e w' => e = .returned (.string (S (M.encL n))) ∧ Below w.heap.size w w' := by
  go_enter Try.func102, Try.ntmps102
  go_wp2
  go_loopw [4, 0] (fun v4 v0 wr => ∃ (m : Nat) (l : List UInt8), l.length ≤ 7 ∧ m < 256 ^ (7 - l.length) ∧ M.dig n.toNat = M.dig m ++ l ∧ v4 = .int .i64 (8 - l.length : Nat) ∧ v0 = .int .i64 m ∧
      Has wr w.heap.size 151 (cellsOf (8 - l.length) l) ∧ Below w.heap.size w wr)
    (fun _ v0 _ => (intOf v0).toNat)
  case atStart =>
    exact ⟨n.toNat, [], by simp, by simp; omega, by simp, rfl, by simp [Int.toNat_of_nonneg h0], Has.made _ _ _, (Below.refl _ _).alloc (Nat.le_refl _) _⟩
  case round =>
    obtain ⟨m, l, hl, hm, hd, rfl, rfl, hh, hb⟩ := hrel
    by_cases h0 : 0 < m
    · have hl6 : l.length ≤ 6 := by
        refine Nat.le_of_not_lt fun hc => ?_
        rw [show 7 - l.length = 0 by omega] at hm
        omega
      obtain ⟨z, hz⟩ : ∃ z, 8 - l.length = z + 1 := ⟨7 - l.length, by omega⟩
      have hz7 : z ≤ 7 := by omega
      rw [hz] at hh ⊢
      have hsz : l.length = 7 - z := by omega
      have hc : wr.cell? ⟨w.heap.size, z, none⟩ = some (.int .u8 0) := by
        rw [hh.cell]; simp [cellsOf, List.getElem?_append]
      have hf := hh.free z
      have HZ := Lib.hid hsz; clear hsz
      have HD := Lib.hid hd; clear hd
      have Hz := Lib.hid hz; clear hz
      have HH := Lib.hid hh; clear hh
      go_wp2
      go_roundw
      case rel => exact num_rel h0 (by omega) HZ.out hz7 hl6 hm HD.out HH.out hb
      case measure => simp [intOf]; omega
    · have hm0 : m = 0 := by omega
      subst hm0
      obtain ⟨z, hz⟩ : ∃ z, 8 - l.length = z + 1 := ⟨7 - l.length, by omega⟩
      have hz7 : z ≤ 7 := by omega
      rw [hz] at hh ⊢
      have hsz : l.length = 7 - z := by omega
      have hc : wr.cell? ⟨w.heap.size, z, none⟩ = some (.int .u8 0) := by
        rw [hh.cell]; simp [cellsOf, List.getElem?_append]
      have hf := hh.free z
      have hsl := fun W : World => arr_from (P := Try.prog) (t := 151) (n := 8) (e := 5) Try.underlying151 (fun w => by kernel_rfl) w.heap.size z (by omega) W
      have hu : (((UInt8.ofNat l.length).toNat : Nat) : Int) = 8 - ((z : Int) + 1) := by
        rw [UInt8.toNat_ofNat']; omega
      have hcv : (convert 78 9 (.slice (some ⟨w.heap.size, z, none⟩) (8 - z) (8 - z))).run Try.prog (wr.setCell ⟨w.heap.size, z, none⟩ (.int .u8 (8 - ((z : Int) + 1)))) = .ok (.string (S (UInt8.ofNat l.length :: l))) (wr.setCell ⟨w.heap.size, z, none⟩ (.int .u8 (8 - ((z : Int) + 1)))) :=
        conv_text Try.underlying78 Try.underlying5 Try.underlying9 (UInt8.ofNat l.length :: l) (by simp; omega) (fun i hi => by
          rw [← hu, (hh.set z _).cell, cellsOf_set, cellsOf_at])
      clear hu
      have HZ := Lib.hid hsz; clear hsz
      have HD := Lib.hid hd; clear hd
      have Hz := Lib.hid hz; clear hz
      have HH := Lib.hid hh; clear hh
      go_wp2
      go_ret
      refine ⟨ret_str ?_, hb.setCell (Nat.le_refl _) _⟩
      have hd' := HD.out
      rw [M.dig_zero, List.nil_append] at hd'
      rw [M.encL, if_pos ⟨by omega, h1⟩, hd']

theorem num_any (n : Int) (w : World) : Calls Try.prog 102 #[.int .i64 n] w fun e w' => e = .returned (.string (S (M.encL n))) ∧ Below w.heap.size w w' := by
  by_cases h : 0 ≤ n ∧ n < 72057594037927936
  · exact num_some n w h.1 h.2
  · have e : S (M.encL n) = ⟨#[]⟩ := by rw [M.encL, if_neg h]; rfl
    rw [e]
    exact num_none n w (by omega)
end Go.Proofs.Ytojemaaljjibiaa

namespace Go.Proofs.Ytojemaaljjibiaa
open Go.RowKit
set_option linter.unusedVariables false

set_option maxHeartbeats 1000000 in
theorem wch_any (c : UInt8) (w : World) :
    Calls Try.prog 92 #[.int .u8 (c.toNat : Int)] w fun r w' => r = .returned (.bool (Pap.wch c)) ∧ w = w' := by
  have hR : Pap.wch c = decide ((97 ≤ c.toNat ∧ c.toNat ≤ 122) ∨ (65 ≤ c.toNat ∧ c.toNat ≤ 90) ∨ (48 ≤ c.toNat ∧ c.toNat ≤ 57) ∨ c.toNat = 45 ∨ c.toNat = 95 ∨ c.toNat = 46) := rfl
  have hlt := c.toNat_lt
  generalize Pap.wch c = rr at hR
  generalize c.toNat = n at hR hlt
  have HR := Lib.hid hR; clear hR
  go_enter Try.func92, Try.ntmps92
  go_wp2_with fail
  all_goals go_ret
  all_goals refine ⟨ret_bool ?_, rfl⟩
  all_goals rw [HR.out]
  all_goals first
    | (symm; rw [decide_eq_true_iff]; omega)
    | (symm; rw [decide_eq_false_iff_not]; omega)
    | (rw [decide_eq_decide]; omega)
    | (rw [Bool.eq_iff_iff, decide_eq_true_iff]; simp only [Bool.or_eq_true, beq_iff_eq]; omega)

theorem all_take_succ (l : List UInt8) (k : Nat) (h : k < l.length) (ha : (l.take k).all Pap.wch = true) : (l.take (k + 1)).all Pap.wch = Pap.wch l[k] := by
  rw [List.take_succ_eq_append_getElem h, List.all_append, ha]
  simp
theorem word_no {most : Nat} {l : List UInt8} (k : Nat) (h : k < l.length) (hn : Pap.wch l[k] = false) : Pap.word most l = false := by
  unfold Pap.word
  have : l.all Pap.wch = false := by
    rw [Bool.eq_false_iff]
    intro hc
    rw [List.all_eq_true] at hc
    have := hc l[k] (List.getElem_mem h)
    rw [hn] at this
    cases this
  rw [this, Bool.and_false]

set_option maxHeartbeats 1000000 in
theorem isWord_any (l : List UInt8) (hb : l.length ≤ 1000000) (most : Nat) (w : World) :
    Calls Try.prog 72 #[.string (S l), .int .i64 (most : Int)] w fun r w' => r = .returned (.bool (Pap.word most l)) ∧ w = w' := by
  by_cases hl : 0 < l.length ∧ l.length ≤ most
  · have h0 : ((l.length : Int) == 0) = false := by simpa using (show l.length ≠ 0 by omega)
    have h1 : ¬ (most : Int) < (l.length : Int) := by omega
    have hW : Pap.word most l = l.all Pap.wch := by unfold Pap.word; rw [decide_eq_true hl, Bool.true_and]
    have hno := fun k h hn => word_no (most := most) (l := l) k h hn
    generalize Pap.word most l = rr at hW hno
    have HW := Lib.hid hW; clear hW
    have HNO := Lib.hid hno; clear hno
    go_enter Try.func72, Try.ntmps72
    go_wp2_with fail
    go_loopw [17] (fun v17 wr => ∃ k : Nat, k ≤ l.length ∧ v17 = .int .i64 (k : Int) ∧ (l.take k).all Pap.wch = true ∧ wr = w) (fun v17 _ => l.length - (intOf v17).toNat)
    case atStart => exact ⟨0, Nat.zero_le _, rfl, by simp, rfl⟩
    case round =>
      obtain ⟨k, hk, rfl, hall, rfl⟩ := hrel
      have HALL := Lib.hid hall; clear hall
      by_cases hlt : k < l.length
      · have hix := fun W => run_index_S (P := Try.prog) W l .i64 k Try.underlying9 hlt
        have hki : (k : Int) < (l.length : Int) := by omega
        have hst := all_take_succ l k hlt HALL.out
        have hX := fun W => wch_any l[k] W
        have hne := HNO.out k hlt
        generalize l[k] = c at hix hst hX hne
        have HX := Lib.hid hX; clear hX
        cases hw : Pap.wch c
        · have HF := Lib.hid (hne hw); clear hne hst
          rw [hw] at HX
          clear hw
          go_wp2_with fail
          refine (HX.out _).mono ?_
          rintro r w1 ⟨rfl, rfl⟩
          go_wp2_with fail
          go_ret
          exact ⟨ret_bool HF.out.symm, rfl⟩
        · rw [hw] at HX hst
          have HST := Lib.hid hst; clear hst hne hw
          go_wp2_with fail
          refine (HX.out _).mono ?_
          rintro r w1 ⟨rfl, rfl⟩
          go_wp2_with fail
          refine ⟨⟨k + 1, by omega, by go_num, HST.out, trivial⟩, ?_⟩
          simp only [intOf]
          omega
      · obtain rfl : k = l.length := by omega
        have hf := HALL.out
        rw [List.take_length] at hf
        have HF := Lib.hid (HW.out.trans hf); clear hf HALL
        go_wp2_with fail
        go_ret
        exact ⟨ret_bool HF.out.symm, rfl⟩
  · have hW : Pap.word most l = false := by unfold Pap.word; rw [decide_eq_false hl, Bool.false_and]
    rw [hW]
    clear hW
    by_cases h0 : l.length = 0
    · have h0' : ((l.length : Int) == 0) = true := by simpa using h0
      clear hl h0
      go_enter Try.func72, Try.ntmps72
      go_wp2_with fail
      go_ret
      exact ⟨rfl, rfl⟩
    · have h0' : ((l.length : Int) == 0) = false := by simpa using h0
      have h1 : (most : Int) < (l.length : Int) := by omega
      clear hl h0
      go_enter Try.func72, Try.ntmps72
      go_wp2_with fail
      go_ret
      exact ⟨rfl, rfl⟩

theorem isID_any (l : List UInt8) (hb : l.length ≤ 1000000) (w : World) :
    Calls Try.prog 69 #[.string (S l)] w fun r w' => r = .returned (.bool (Pap.word 24 l)) ∧ w = w' := by
  have hX := fun W => isWord_any l hb 24 W
  have HX := Lib.hid hX; clear hX
  generalize Pap.word 24 l = rr at HX ⊢
  go_enter Try.func69, Try.ntmps69
  go_wp2_with fail
  refine (HX.out _).mono ?_
  rintro r w1 ⟨rfl, rfl⟩
  go_wp2_with fail
  go_ret
  exact ⟨rfl, rfl⟩
theorem isName_any (l : List UInt8) (hb : l.length ≤ 1000000) (w : World) :
    Calls Try.prog 54 #[.string (S l)] w fun r w' => r = .returned (.bool (Pap.word 16 l)) ∧ w = w' := by
  have hX := fun W => isWord_any l hb 16 W
  have HX := Lib.hid hX; clear hX
  generalize Pap.word 16 l = rr at HX ⊢
  go_enter Try.func54, Try.ntmps54
  go_wp2_with fail
  refine (HX.out _).mono ?_
  rintro r w1 ⟨rfl, rfl⟩
  go_wp2_with fail
  go_ret
  exact ⟨rfl, rfl⟩

end Go.Proofs.Ytojemaaljjibiaa

namespace Go.Proofs.Ytojemaaljjibiaa
open Go.RowKit
set_option linter.unusedVariables false

def fillc (c : UInt8) (n k : Nat) : Array Value := (bcells (List.replicate k c ++ List.replicate (n - k) 0)).toArray
theorem u8Info : ∃ i0 : TypeInfo, Try.prog.info? 5 = some i0 ∧ i0.zero = some (.int .u8 0) ∧ i0.size = 1 ∧ i0.bytes = 1 := by
  have h : (Try.prog.info? 5).map (fun i => (i.zero, i.size, i.bytes)) = some (some (.int .u8 0), 1, 1) := by kernel_rfl
  cases hq : Try.prog.info? 5 with
  | none => rw [hq] at h; cases h
  | some i0 =>
    rw [hq] at h
    injection h with h
    simp only [Prod.mk.injEq] at h
    exact ⟨i0, rfl, h.1, h.2.1, h.2.2⟩
theorem run_make_bytes (c : UInt8) (n : Nat) (hn : n ≤ 1000000) (W : World) : (Instr.makeSlice 78 (.int .i64 (n : Int)) (.int .i64 (n : Int))).run Try.prog W = .ok (.slice (some ⟨W.heap.size, 0, none⟩) n n) (W.alloc (.cells (fillc c n 0) 5)) := by
  obtain ⟨i0, h1, h2, h3, h4⟩ := u8Info
  have h := run_make (P := Try.prog) W 78 5 i0 _ Try.underlying78 h1 h2 .i64 .i64 (n : Int) (n : Int) (by omega) (by omega) (by rw [h4]; omega) (by omega)
  have e : madeCells (Value.int .u8 0).cells (n * i0.size) = fillc c n 0 := by
    apply Array.ext'
    rw [h3, Nat.mul_one]
    show (madeCells #[Value.int .u8 0] n).toList = _
    rw [toList_madeCells_one]
    simp [fillc, bcells]
  rw [Int.toNat_natCast, e] at h
  exact h
end Go.Proofs.Ytojemaaljjibiaa

namespace Go.Proofs.Ytojemaaljjibiaa
open Go.RowKit
set_option linter.unusedVariables false
variable {P : Program} {ops : Array Oper} {Q : Exit → Act → World → Prop} {md : Region.Mode} {S : World → Prop}

/-- The frame behind a slot that was filled. -/
def Act.at (a : Act) (d : Nat) (v : Value) : Act := { a with tmps := a.tmps.setIfInBounds d v }

theorem take_wanted {i d : Nat} {oi : Oper} {v : Value} {fuel : Nat} {listed : Array Bool} {a : Act} {w : World} (hi : ops[i]? = some oi) (hd : oi.dst = some d)
    (hs : Region.noSelect ops = true) (hf : Region.free md ops listed i = true) (hr : (Region.ready md ops listed).contains i = true)
    (hQ : ∀ c a w, Q (.panic c) (a.put oi.dst v) w → Q (.panic c) a w) (hw : Region.wanted oi (yielded ops a.tmps) = true) (hS : S w)
    (hy : ∀ w, S w → (execOp a.eval oi).run P w = .ok (.value v) w)
    (h : wpAnyH P md ops Q S fuel (listed.setIfInBounds i true) (Act.at a d v) w) : wpAnyH P md ops Q S (fuel + 1) listed a w :=
  wpAnyH_take hi hs hf hr hQ (Or.inl ⟨hw, hy⟩) hS (by rw [hd]; exact h)
theorem take_unwanted {i d : Nat} {oi : Oper} {fuel : Nat} {listed : Array Bool} {a : Act} {w : World} (hi : ops[i]? = some oi) (hd : oi.dst = some d)
    (hs : Region.noSelect ops = true) (hf : Region.free md ops listed i = true) (hr : (Region.ready md ops listed).contains i = true)
    (hQ : ∀ c a w, Q (.panic c) (a.put oi.dst undef) w → Q (.panic c) a w) (hw : Region.wanted oi (yielded ops a.tmps) = false) (hS : S w)
    (h : wpAnyH P md ops Q S fuel (listed.setIfInBounds i true) (Act.at a d undef) w) : wpAnyH P md ops Q S (fuel + 1) listed a w :=
  wpAnyH_take hi hs hf hr hQ (Or.inr ⟨hw, rfl⟩) hS (by rw [hd]; exact h)
/-- One alone may come up: a call. -/
theorem take_call {i d : Nat} {oi : Oper} {fuel : Nat} {listed : Array Bool} {a : Act} {w : World} (hr : Region.ready md ops listed = [i]) (hi : ops[i]? = some oi) (hd : oi.dst = some d)
    (hw : Region.wanted oi (yielded ops a.tmps) = true)
    (h : ∀ K : Act → World → Prop, Shut (∀ a w, S w → (S w → wpAnyH P md ops Q S fuel (listed.setIfInBounds i true) a w) → K a w) → Oper.wp P oi a w K Q) : wpAnyH P md ops Q S (fuel + 1) listed a w :=
  wpAnyH_ready hr (by simp) (AllReadyH.cons hi (fun K hK => by rw [if_pos hw]; exact h K hK) AllReadyH.nil)
end Go.Proofs.Ytojemaaljjibiaa

namespace Go.Proofs.Ytojemaaljjibiaa
open Go.RowKit
set_option linter.unusedVariables false

section
variable {P : Program} {ops : Array Oper} {Q : Exit → Act → World → Prop} {md : Region.Mode} {S : World → Prop}
theorem takeOne {i : Nat} {oi : Oper} {fuel : Nat} {listed : Array Bool} {a : Act} {w : World} (hr : Region.ready md ops listed = [i]) (hi : ops[i]? = some oi) (hwi : Region.wanted oi (yielded ops a.tmps) = true)
    (h1 : ∀ K : Act → World → Prop, Shut (∀ a w, S w → (S w → wpAnyH P md ops Q S fuel (listed.setIfInBounds i true) a w) → K a w) → Oper.wp P oi a w K Q) : wpAnyH P md ops Q S (fuel + 1) listed a w :=
  wpAnyH_ready hr (by simp) (AllReadyH.cons hi (fun K hK => by rw [if_pos hwi]; exact h1 K hK) AllReadyH.nil)
theorem takeTwo {i j : Nat} {oi oj : Oper} {fuel : Nat} {listed : Array Bool} {a : Act} {w : World} (hr : Region.ready md ops listed = [i, j]) (hi : ops[i]? = some oi) (hj : ops[j]? = some oj)
    (hwi : Region.wanted oi (yielded ops a.tmps) = true) (hwj : Region.wanted oj (yielded ops a.tmps) = true)
    (h1 : ∀ K : Act → World → Prop, Shut (∀ a w, S w → (S w → wpAnyH P md ops Q S fuel (listed.setIfInBounds i true) a w) → K a w) → Oper.wp P oi a w K Q)
    (h2 : ∀ K : Act → World → Prop, Shut (∀ a w, S w → (S w → wpAnyH P md ops Q S fuel (listed.setIfInBounds j true) a w) → K a w) → Oper.wp P oj a w K Q) : wpAnyH P md ops Q S (fuel + 1) listed a w :=
  wpAnyH_ready hr (by simp) (AllReadyH.cons hi (fun K hK => by rw [if_pos hwi]; exact h1 K hK) (AllReadyH.cons hj (fun K hK => by rw [if_pos hwj]; exact h2 K hK) AllReadyH.nil))
end
end Go.Proofs.Ytojemaaljjibiaa

namespace Go.Proofs.Ytojemaaljjibiaa
open Go.RowKit
set_option linter.unusedVariables false

section
variable {P : Program} {ops : Array Oper} {Q : Exit → Act → World → Prop} {md : Region.Mode} {S : World → Prop}
theorem takeThree {i j k : Nat} {oi oj ok : Oper} {fuel : Nat} {listed : Array Bool} {a : Act} {w : World} (hr : Region.ready md ops listed = [i, j, k]) (hi : ops[i]? = some oi) (hj : ops[j]? = some oj) (hk : ops[k]? = some ok)
    (hwi : Region.wanted oi (yielded ops a.tmps) = true) (hwj : Region.wanted oj (yielded ops a.tmps) = true) (hwk : Region.wanted ok (yielded ops a.tmps) = true)
    (h1 : ∀ K : Act → World → Prop, Shut (∀ a w, S w → (S w → wpAnyH P md ops Q S fuel (listed.setIfInBounds i true) a w) → K a w) → Oper.wp P oi a w K Q)
    (h2 : ∀ K : Act → World → Prop, Shut (∀ a w, S w → (S w → wpAnyH P md ops Q S fuel (listed.setIfInBounds j true) a w) → K a w) → Oper.wp P oj a w K Q)
    (h3 : ∀ K : Act → World → Prop, Shut (∀ a w, S w → (S w → wpAnyH P md ops Q S fuel (listed.setIfInBounds k true) a w) → K a w) → Oper.wp P ok a w K Q) : wpAnyH P md ops Q S (fuel + 1) listed a w :=
  wpAnyH_ready hr (by simp) (AllReadyH.cons hi (fun K hK => by rw [if_pos hwi]; exact h1 K hK) (AllReadyH.cons hj (fun K hK => by rw [if_pos hwj]; exact h2 K hK) (AllReadyH.cons hk (fun K hK => by rw [if_pos hwk]; exact h3 K hK) AllReadyH.nil)))
end
theorem set7 {W : World} {b : Nat} {T : TypeId} {u0 u1 u2 u3 u4 u5 u6 : Value} (h : Has W b T #[u0, u1, u2, u3, u4, u5, u6]) (v0 v1 v2 v3 v4 v5 v6 : Value) :
    Has (((((((W.setCell ⟨b, 0, none⟩ v0).setCell ⟨b, 1, none⟩ v1).setCell ⟨b, 2, none⟩ v2).setCell ⟨b, 3, none⟩ v3).setCell ⟨b, 4, none⟩ v4).setCell ⟨b, 5, none⟩ v5).setCell ⟨b, 6, none⟩ v6) b T #[v0, v1, v2, v3, v4, v5, v6] := by
  have := ((((((h.set 0 v0).set 1 v1).set 2 v2).set 3 v3).set 4 v4).set 5 v5).set 6 v6
  simpa using this
theorem only7 (W : World) (b : Nat) (v0 v1 v2 v3 v4 v5 v6 : Value) : Only W (((((((W.setCell ⟨b, 0, none⟩ v0).setCell ⟨b, 1, none⟩ v1).setCell ⟨b, 2, none⟩ v2).setCell ⟨b, 3, none⟩ v3).setCell ⟨b, 4, none⟩ v4).setCell ⟨b, 5, none⟩ v5).setCell ⟨b, 6, none⟩ v6) b :=
  ((((((Only.set W b 0 v0).trans (Only.set _ b 1 v1)).trans (Only.set _ b 2 v2)).trans (Only.set _ b 3 v3)).trans (Only.set _ b 4 v4)).trans (Only.set _ b 5 v5)).trans (Only.set _ b 6 v6)
end Go.Proofs.Ytojemaaljjibiaa
