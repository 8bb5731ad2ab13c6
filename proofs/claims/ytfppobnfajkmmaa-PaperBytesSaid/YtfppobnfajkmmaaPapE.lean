/-
  The contract of paper's Read.
-/
import Derived.Test.YtfppobnfajkmmaaPapD
namespace Go.Proofs.Ytfppobnfajkmmaa
open Go.RowKit Go.Lib
set_option linter.unusedVariables false

/-- A paper that lies in a block, handed back beside a number. -/
theorem ret_pap2 {fn : Func} {p u : Tmp} {R : Ending → World → Prop} {a : Act} {w : World} (h : fn.results = #[.cell p 24, .tmp u]) (g : Nat) (cs : Array Value) (v : Value)
    (hp : a.tmps.getD p undef = .pointer (some ⟨g, 0, none⟩)) (hu : a.tmps.getD u undef = v) (hd : a.defers = []) (hh : Has w g 24 cs) (hcs : cs.size = 3) (hR : R (.returned (.tuple #[.agg cs, v])) w) : bodyPost Try.prog fn R .ret a w :=
  bodyPost_ret (v := .tuple #[.agg cs, v]) (by
    have hl : (loadVar 24 ⟨g, 0, none⟩).run Try.prog w = .ok (.agg cs) w := run_loadVar_row w g 24 24 cs (0, 0) _ hh Try.underlying24 rfl (by rw [hcs]; exact papSize)
    rw [results_cell_tmp h, hp, hu]
    simp [asAddr, hl, Result.andThen]) hd hR

namespace Pap
/-- So many fields, read. -/
def readFs : Nat → R.St → List Fld → List Fld × R.St
  | 0, st, acc => (acc, st)
  | n + 1, st, acc => readFs n (readF st).2 (acc ++ [(readF st).1])
/-- What Read answers. -/
def readH (s : List UInt8) : List UInt8 × Int × Int × R.St :=
  let t := R.text 24 (s, 0)
  let c := R.num 7 t.2
  let n := R.num 12 c.2
  (t.1, c.1, n.1, n.2)
def readP (s : List UInt8) : List UInt8 × Int × List Fld × Int :=
  let h := readH s
  let r := readFs h.2.2.1.toNat h.2.2.2 []
  let e := (R.fin r.2).2
  if e ≠ 0 then ([], 0, [], e)
  else if (bytes h.1 h.2.1 r.1).2 ≠ 0 ∨ (bytes h.1 h.2.1 r.1).1 ≠ s then ([], 0, [], 4)
  else (h.1, h.2.1, r.1, 0)
theorem readFs_len : ∀ (n : Nat) (st : R.St) (acc : List Fld), (readFs n st acc).1.length = acc.length + n := by
  intro n
  induction n with
  | zero => intro st acc; rfl
  | succ n ih => intro st acc; rw [readFs, ih]; simp; omega
theorem readFs_ok : ∀ (n : Nat) (st : R.St) (acc : List Fld), (∀ x ∈ acc, x.ok ∧ x.name.length ≤ 16) → ∀ x ∈ (readFs n st acc).1, x.ok ∧ x.name.length ≤ 16 := by
  intro n
  induction n with
  | zero => intro st acc h; exact h
  | succ n ih =>
    intro st acc h
    rw [readFs]
    refine ih _ _ ?_
    intro x hx
    rcases List.mem_append.1 hx with hx | hx
    · exact h x hx
    · rw [List.mem_singleton] at hx; subst hx
      exact ⟨readF_ok st, readF_name st⟩
theorem readP_eq (s : List UInt8) : readP s = if (R.fin (readFs (readH s).2.2.1.toNat (readH s).2.2.2 []).2).2 ≠ 0 then ([], 0, [], (R.fin (readFs (readH s).2.2.1.toNat (readH s).2.2.2 []).2).2)
    else if (bytes (readH s).1 (readH s).2.1 (readFs (readH s).2.2.1.toNat (readH s).2.2.2 []).1).2 ≠ 0 ∨ (bytes (readH s).1 (readH s).2.1 (readFs (readH s).2.2.1.toNat (readH s).2.2.2 []).1).1 ≠ s then ([], 0, [], 4)
    else ((readH s).1, (readH s).2.1, (readFs (readH s).2.2.1.toNat (readH s).2.2.2 []).1, 0) := rfl
theorem readH_eq (s : List UInt8) : readH s = ((R.text 24 (s, 0)).1, (R.num 7 (R.text 24 (s, 0)).2).1, (R.num 12 (R.num 7 (R.text 24 (s, 0)).2).2).1, (R.num 12 (R.num 7 (R.text 24 (s, 0)).2).2).2) := rfl
theorem readFs_zero (st : R.St) (acc : List Fld) : readFs 0 st acc = (acc, st) := rfl
theorem readFs_succ (n : Nat) (st : R.St) (acc : List Fld) : readFs (n + 1) st acc = readFs n (readF st).2 (acc ++ [(readF st).1]) := rfl
end Pap

theorem Rd.grown' {w w' : World} {g b : Nat} {st : R.St} {row : Option Nat} (h : Rd w g b st) (hw : w.grownBy w' row) (hg : some g ≠ row) (hb : some b ≠ row) : Rd w' g b st := by
  obtain ⟨hn, A, cap, hh, hc, hy⟩ := h
  refine ⟨hn, A, cap, (hw.block g hh.lt hg).trans hh, hc, ?_⟩
  by_cases hl : st.1 = []
  · rw [hl]; exact Bytes.nil _ _ _
  · exact hy.keep (hw.block b (hy.lt hl) hb)
/-- What Read leaves. -/
def ReadPost (w : World) (x : List UInt8 × Int × List Fld × Int) (r : Ending) (w' : World) : Prop :=
  ∃ A b cap, r = .returned (.tuple #[.agg #[.string (S x.1), .int .i64 x.2.1, .slice A x.2.2.1.length cap], .int .i64 x.2.2.2]) ∧ FSl w' b A x.2.2.1 ∧ Below w.heap.size w w'

set_option maxHeartbeats 4000000 in
set_option maxRecDepth 100000 in
theorem pread_any (l : List UInt8) (hl : l.length ≤ 1000000) (w : World) :
    Calls Try.prog 14 #[.string (S l)] w (ReadPost w (Pap.readP l)) := by
  have hP := Pap.readP_eq l
  have hH := Pap.readH_eq l
  have hRD := fun W => read_any l W
  have hT := fun W g b (hR : Rd W g b (l, 0)) => text_rd 24 g b (l, 0) W hR (by show l.length ≤ _; omega)
  have hi24 := R.text_len 24 (by decide) (l, 0)
  have hr1 : (R.text 24 (l, 0)).2.1.length ≤ l.length := R.text_rest 24 (l, 0)
  generalize Pap.readP l = res at hP ⊢
  generalize Pap.readH l = hd at hP hH
  subst hH
  dsimp only at hP
  generalize R.text 24 (l, 0) = x at hP hT hi24 hr1
  obtain ⟨id, st1⟩ := x
  dsimp only at hP hT hi24 hr1
  have hN1 := fun W g b (hR : Rd W g b st1) => num_rd 7 g b st1 W hR (by omega)
  have hr2 := R.num_rest 7 st1
  generalize R.num 7 st1 = x at hP hN1 hr2
  obtain ⟨cls, st2⟩ := x
  dsimp only at hP hN1 hr2
  have hN2 := fun W g b (hR : Rd W g b st2) => num_rd 12 g b st2 W hR (by omega)
  have hr3 := R.num_rest 12 st2
  have hn12 := R.num_le 12 (by decide) st2
  generalize R.num 12 st2 = x at hP hN2 hr3 hn12
  obtain ⟨ni, st3⟩ := x
  dsimp only at hP hN2 hr3 hn12
  obtain ⟨n, rfl⟩ := Int.eq_ofNat_of_zero_le hn12.1
  rw [Int.toNat_natCast] at hP
  have hn : n ≤ 12 := by omega
  have hfsl := Pap.readFs_len n st3 []
  have hfok := Pap.readFs_ok n st3 [] (fun x hx => by cases hx)
  obtain ⟨FR, hFR⟩ : ∃ x, Pap.readFs n st3 [] = x := ⟨_, rfl⟩
  rw [hFR] at hP hfsl hfok
  have HFR := Lib.hid hFR; clear hFR
  obtain ⟨L, stn⟩ := FR
  dsimp only at hP hfsl hfok
  rw [List.length_nil, Nat.zero_add] at hfsl
  have HP := Lib.hid hP; clear hP
  have HFOK := Lib.hid hfok; clear hfok
  have HFSL := Lib.hid hfsl; clear hfsl
  have HRD := Lib.hid hRD; clear hRD
  have HT := Lib.hid hT; clear hT
  have HN1 := Lib.hid hN1; clear hN1
  have HN2 := Lib.hid hN2; clear hN2
  have HLN := Lib.hid (And.intro hl (And.intro hi24 (And.intro hr1 (And.intro hr2 hr3)))); clear hl hi24 hr1 hr2 hr3 hn12
  obtain ⟨i0, hi, hz0, hz1, hz2⟩ := info_parts fldInfo
  have HI := Lib.hid (And.intro hi (And.intro hz0 (And.intro hz1 hz2))); clear hi hz0 hz1 hz2
  have hR0 : Has (w.alloc (.cells #[.string ⟨#[]⟩, .int .i64 0, .slice none 0 0] 24)) w.heap.size 24 #[.string ⟨#[]⟩, .int .i64 0, .slice none 0 0] := Has.made w _ _
  have hb0 := up1 (w := w) (.cells #[.string ⟨#[]⟩, .int .i64 0, .slice none 0 0] 24)
  have HW0 := Lib.hid (And.intro hR0 hb0); clear hR0 hb0
  go_enter Try.func14, Try.ntmps14
  go_wp2_with fail
  have hs0 : (w.alloc (.cells #[.string ⟨#[]⟩, .int .i64 0, .slice none 0 0] 24)).heap.size = w.heap.size + 1 := by simp
  refine (HRD.out _).mono ?_
  rintro r w1 ⟨rfl, hrd1, hb1, hs1⟩
  rw [hs0] at hrd1 hs1 ⊢
  have hR1 := HW0.out.1.below hb1 (by rw [hs0]; omega)
  have hb1' := HW0.out.2.trans (hb1.mono (by rw [hs0]; omega))
  clear hb1 hs0 HW0 HRD
  have HTT := Lib.hid (HT.out _ _ _ hrd1); clear hrd1 HT
  go_wp2_with fail
  refine (HTT.out).mono ?_
  rintro r w2 ⟨rfl, hrd2, ho2⟩
  have hR2 := ho2.has hR1 (by omega)
  have hb2 := ho2.below hb1' (by omega) (by omega)
  have hs2 := ho2.size
  have HNN := Lib.hid (HN1.out _ _ _ hrd2)
  clear ho2 hR1 hb1' HTT hrd2 HN1
  go_wp2_with fail
  refine (HNN.out).mono ?_
  rintro r w3 ⟨rfl, hrd3, ho3⟩
  have hs3 := ho3.size
  have hR3 := (ho3.has hR2 (by omega)).of_alloc (.cells #[.string (S id), .int .i64 cls, .slice none 0 0] 24)
  have hb3 := (ho3.below hb2 (by omega) (by omega)).trans ((up1 (w := w3) (.cells #[.string (S id), .int .i64 cls, .slice none 0 0] 24)).mono (by omega))
  have hP3 : Has (w3.alloc (.cells #[.string (S id), .int .i64 cls, .slice none 0 0] 24)) w3.heap.size 24 #[.string (S id), .int .i64 cls, .slice none 0 0] := Has.made w3 _ _
  have hrd3' := hrd3.below (up1 (w := w3) (.cells #[.string (S id), .int .i64 cls, .slice none 0 0] 24)) (Nat.le_refl _)
  have HNM := Lib.hid (HN2.out _ _ _ hrd3')
  clear ho3 hR2 hb2 HNN hrd3 HN2 hrd3'
  go_wp2_with fail
  refine (HNM.out).mono ?_
  rintro r w4 ⟨rfl, hrd4, ho4⟩
  have hs4 : w3.heap.size + 1 ≤ w4.heap.size := by have := ho4.size; simpa using this
  have hgp : w.heap.size + 3 ≤ w3.heap.size := by omega
  have hR4 := ho4.has hR3 (by omega)
  have hP4 := ho4.has hP3 (by omega)
  have hb4 := ho4.below hb3 (by simp; omega) (by omega)
  clear ho4 hR3 hP3 hb3 HNM hs1 hs2 hs3
  go_wp2_with fail
  go_loopg [18] n (fun g1 v18 wr => ∃ (k : Nat) (st : R.St) (acc : List Fld) (v : Value), k ≤ n ∧ v18 = .int .i64 (k : Int) ∧ n - k ≤ g1 ∧ wr.ownsRow (w3.heap.size + 1) 40 6 v k (fl acc) ∧ acc.length = k ∧
      Pap.readFs n st3 [] = Pap.readFs (n - k) st acc ∧ Rd wr (w.heap.size + 1 + 1) (w.heap.size + 1) st ∧ st.1.length ≤ l.length ∧ Has wr w3.heap.size 24 #[.string (S id), .int .i64 cls, v] ∧
      Has wr w.heap.size 24 #[.string ⟨#[]⟩, .int .i64 0, .slice none 0 0] ∧ Below w.heap.size w wr ∧ w3.heap.size + 1 ≤ wr.heap.size)
  case atStart => exact ⟨0, st3, [], .slice none 0 0, Nat.zero_le _, rfl, by omega, World.ownsRow_nil _ _ _ _, rfl, rfl, hrd4, by have := HLN.out; omega, hP4, hR4, hb4, hs4⟩
  case round =>
    obtain ⟨k, st, acc, v, hk, rfl, hg, hown, hacc, hfs, hrd, hstl, hPk, hRk, hbk, hsk⟩ := hrel
    have HFS := Lib.hid hfs; clear hfs
    have HACC := Lib.hid hacc; clear hacc
    by_cases hlt : k < n
    · have hki : (k : Int) < (n : Int) := by omega
      go_upto_region 5 with (fail)
      have hRF := readField_rd (w.heap.size + 1 + 1) (w.heap.size + 1) st wr.drew (hrd.below ((Below.refl _ wr).drew) (Nat.le_refl _)) (by have := HLN.out.1; omega) (by show w.heap.size + 1 < wr.heap.size; omega)
      have hst : Pap.readFs n st3 [] = Pap.readFs (n - (k + 1)) (Pap.readF st).2 (acc ++ [(Pap.readF st).1]) := by rw [HFS.out, show n - k = (n - (k + 1)) + 1 by omega, Pap.readFs_succ]
      have hrs := readF_rest st
      generalize Pap.readF st = rf at hRF hst hrs
      obtain ⟨⟨xn, xv⟩, rst⟩ := rf
      dsimp only at hRF hst hrs
      have HRF := Lib.hid hRF; clear hRF
      have HST := Lib.hid hst; clear hst
      have HRS := Lib.hid (Nat.le_trans hrs hstl); clear hrs hstl
      have HPR : Hid (Has wr.drew w3.heap.size 24 #[.string (S id), .int .i64 cls, v] ∧ Has wr.drew w.heap.size 24 #[.string ⟨#[]⟩, .int .i64 0, .slice none 0 0] ∧ Below w.heap.size w wr.drew ∧ w3.heap.size + 1 ≤ wr.drew.heap.size ∧ wr.drew.ownsRow (w3.heap.size + 1) 40 6 v k (fl acc)) := ⟨hPk, hRk, hbk.drew, hsk, hown.drew⟩
      have c0 : wr.drew.cell? ⟨w3.heap.size, 2, none⟩ = some v := hPk.cell 2
      clear hrd hPk hRk hbk hown
      refine wp_region_any (by kernel_rfl) ?_
      change wpAny _ _ _ _ _ _ _ (World.drew _)
      (refine grab (i := 0) (v := ?_) rfl rfl (by kernel_rfl) (by kernel_rfl) (by kernel_rfl) (fun _ _ _ h => h) (by rfl) ?_ ?_; rotate_left; (focus (intro w; go_simp; first | done | with_reducible rfl)); (simp only [Act.at, List.setIfInBounds_toArray, List.set_cons_zero, List.set_cons_succ]))
      (refine grab (i := 2) (v := ?_) rfl rfl (by kernel_rfl) (by kernel_rfl) (by kernel_rfl) (fun _ _ _ h => h) (by rfl) ?_ ?_; rotate_left; (focus (intro w; go_simp; first | done | with_reducible rfl)); (simp only [Act.at, List.setIfInBounds_toArray, List.set_cons_zero, List.set_cons_succ]))
      refine wpTwo (i := 1) (j := 3) (by kernel_rfl) rfl rfl (by rfl) (by rfl) (fun K hK => ?_) (fun K hK => ?_)
      · go_simp
        refine hK _ _ ?_
        clear hK K
        try simp only [Act.put, List.setIfInBounds_toArray, List.set_cons_zero, List.set_cons_succ]
        clear c0
        refine wpOne (i := 3) (by kernel_rfl) rfl (by rfl) (fun K hK => ?_)
        go_simp
        refine (HRF.out).mono ?_
        rintro r w5 ⟨rfl, hrd5, ho5⟩
        refine hK _ _ ?_
        clear hK K
        try simp only [Act.put, List.setIfInBounds_toArray, List.set_cons_zero, List.set_cons_succ]
        have hP5 := ho5.has HPR.out.1 (by omega)
        have hR5 := ho5.has HPR.out.2.1 (by omega)
        have hb5 := ho5.below HPR.out.2.2.1 (by have := HPR.out.2.2.2.1; omega) (by omega)
        have hs5 := ho5.size
        have hO5 := own_keep HPR.out.2.2.2.2 (fun q hq => ho5.block q (HPR.out.2.2.2.2.lt q hq).2 (fun e => by injection e with e; have := (HPR.out.2.2.2.2.lt q hq).1; omega))
        have c5 := hP5.cell 2
        have hgs5 : w3.heap.size + 1 ≤ w5.heap.size := by have := HPR.out.2.2.2.1; omega
        refine wpOne (i := 4) (by kernel_rfl) rfl (by rfl) (fun K hK => ?_)
        rw [Fld.v_eq]
        go_simp
        refine hK _ _ ?_
        clear hK K
        try simp only [Act.put, List.setIfInBounds_toArray, List.set_cons_zero, List.set_cons_succ]
        have hP6 := hP5.of_alloc (.cells (fcs xn xv.kind xv.flag xv.int xv.bits xv.text) 40)
        have hR6 := hR5.of_alloc (.cells (fcs xn xv.kind xv.flag xv.int xv.bits xv.text) 40)
        have hb6 := hb5.trans ((up1 (w := w5) (.cells (fcs xn xv.kind xv.flag xv.int xv.bits xv.text) 40)).mono (by omega))
        have hrd6 := hrd5.below (up1 (w := w5) (.cells (fcs xn xv.kind xv.flag xv.int xv.bits xv.text) 40)) (Nat.le_refl _)
        have hO6 := own_below' hO5 (up1 (w := w5) (.cells (fcs xn xv.kind xv.flag xv.int xv.bits xv.text) 40))
        have hM6 : ∀ (j : Nat) (u : Value), (Fld.cs ⟨xn, xv⟩)[j]? = some u → (w5.alloc (.cells (fcs xn xv.kind xv.flag xv.int xv.bits xv.text) 40)).cell? ((⟨w5.heap.size, 0, none⟩ : Addr).add j) = some u := fun j u hu => by
          have e : (⟨w5.heap.size, 0, none⟩ : Addr).add j = ⟨w5.heap.size, j, none⟩ := by rw [Addr.add_mid, Nat.zero_add]
          rw [e, (Has.made w5 _ _).cell]
          simpa [Fld.cs] using hu
        have hs6 : w3.heap.size + 1 ≤ (w5.alloc (.cells (fcs xn xv.kind xv.flag xv.int xv.bits xv.text) 40)).heap.size := by simp; omega
        have c6 := hP6.cell 2
        refine wpOne (i := 5) (by kernel_rfl) rfl (by rfl) (fun K hK => ?_)
        refine wp_append_own _ (.tmp 21) (.tmp 24) 22 rfl (w3.heap.size + 1) 40 i0 (.agg #[.string ⟨#[]⟩, .int .i64 0, .bool false, .int .i64 0, .int .u64 0, .string ⟨#[]⟩]) 6 64 Try.underlying22 HI.out.1 HI.out.2.1 HI.out.2.2.1 HI.out.2.2.2 rfl (by decide) v k (fl acc) rfl hO6 ⟨w5.heap.size, 0, none⟩ 1 1 (Fld.cs ⟨xn, xv⟩) rfl rfl hM6 (Fld.cs_one _) (by simp only [maxLen]; omega) (by omega) hs6 ?_
        intro v8 w7 hown7 hg7 hnil7
        refine hK _ _ ?_
        clear hK K
        try simp only [Act.put, List.setIfInBounds_toArray, List.set_cons_zero, List.set_cons_succ]
        have hrow : ∀ q, v.ownBlock = some q → w3.heap.size + 1 ≤ q := fun q hq => (hO6.lt q hq).1
        have hP7 : Has w7 w3.heap.size 24 #[.string (S id), .int .i64 cls, v] := (hg7.block _ hP6.lt (fun e => by have := hrow _ e.symm; omega)).trans hP6
        have hR7 : Has w7 w.heap.size 24 #[.string ⟨#[]⟩, .int .i64 0, .slice none 0 0] := (hg7.block _ hR6.lt (fun e => by have := hrow _ e.symm; omega)).trans hR6
        have hrd7 := hrd6.grown' hg7 (fun e => by have := hrow _ e.symm; omega) (fun e => by have := hrow _ e.symm; omega)
        have hb7 : Below w.heap.size w w7 := hb6.grown hg7 (by omega) (fun q hq => by have := hrow q hq; omega)
        have hs7 : w3.heap.size + 1 ≤ w7.heap.size := Nat.le_trans hs6 hg7.size
        have hown7' : w7.ownsRow (w3.heap.size + 1) 40 6 v8 (k + 1) (fl (acc ++ [⟨xn, xv⟩])) := by rw [fl_snoc]; exact hown7
        obtain ⟨g8, cp8, rfl⟩ : ∃ g8 cp8, v8 = .slice (some ⟨g8, 0, none⟩) (k + 1) cp8 := hown7'.2.elim (fun h => absurd h.2 (by omega)) (fun ⟨g8, cp8, cur, h8, _⟩ => ⟨g8, cp8, h8⟩)
        clear hown7 hg7 hnil7 hrow hP6 hR6 hb6 hrd6 hO6 hM6 hs6 hP5 hR5 hb5 hs5 hO5 c5 c6 hgs5 hrd5 ho5
        have d2 := hP7.cell 2
        have f2 := hP7.free 2
        have hP8 : Has (w7.setCell ⟨w3.heap.size, 2, none⟩ (.slice (some ⟨g8, 0, none⟩) (k + 1) cp8)) w3.heap.size 24 #[.string (S id), .int .i64 cls, (.slice (some ⟨g8, 0, none⟩) (k + 1) cp8)] := by simpa using hP7.set 2 (.slice (some ⟨g8, 0, none⟩) (k + 1) cp8)
        have ho8 := Only.set w7 w3.heap.size 2 (.slice (some ⟨g8, 0, none⟩) (k + 1) cp8)
        have hR8 := ho8.has hR7 (by omega)
        have hrd8 := hrd7.only ho8 (by omega) (by omega)
        have hb8 := ho8.below hb7 (by omega) (by omega)
        have hown8 := own_keep hown7' (fun q hq => ho8.block q (hown7'.lt q hq).2 (fun e => by injection e with e; have := (hown7'.lt q hq).1; omega))
        have hs8 : w3.heap.size + 1 ≤ (w7.setCell ⟨w3.heap.size, 2, none⟩ (.slice (some ⟨g8, 0, none⟩) (k + 1) cp8)).heap.size := Nat.le_trans hs7 ho8.size
        have HX := Lib.hid (And.intro hP8 (And.intro hR8 (And.intro hrd8 (And.intro hb8 (And.intro hown8 hs8)))))
        clear hP8 hR8 hrd8 hb8 hown8 hs8 ho8 hP7 hR7 hrd7 hb7 hs7 hown7'
        (refine grab (i := 6) (v := ?_) rfl rfl (by kernel_rfl) (by kernel_rfl) (by kernel_rfl) (fun _ _ _ h => h) (by rfl) ?_ ?_; rotate_left; (focus (intro w; go_simp; first | done | with_reducible rfl)); (simp only [Act.at, List.setIfInBounds_toArray, List.set_cons_zero, List.set_cons_succ]))
        refine wpOne (i := 7) (by kernel_rfl) rfl (by rfl) (fun K hK => ?_)
        go_simp
        refine hK _ _ ?_
        clear hK K d2 f2
        try simp only [Act.put, List.setIfInBounds_toArray, List.set_cons_zero, List.set_cons_succ]
        refine wpAny_done (by kernel_rfl) ?_ _
        go_wp2_with fail
        go_roundg (n - (k + 1))
        case measure => omega
        case rel => exact ⟨k + 1, rst, acc ++ [⟨xn, xv⟩], (.slice (some ⟨g8, 0, none⟩) (k + 1) cp8), by omega, by go_num, Nat.le_refl _, HX.out.2.2.2.2.1, by rw [List.length_append, HACC.out]; rfl, HST.out, HX.out.2.2.1, by have := HRS.out; omega, HX.out.1, HX.out.2.1, HX.out.2.2.2.1, HX.out.2.2.2.2.2⟩
      · go_simp
        refine (HRF.out).mono ?_
        rintro r w5 ⟨rfl, hrd5, ho5⟩
        refine hK _ _ ?_
        clear hK K
        try simp only [Act.put, List.setIfInBounds_toArray, List.set_cons_zero, List.set_cons_succ]
        have hP5 := ho5.has HPR.out.1 (by omega)
        have hR5 := ho5.has HPR.out.2.1 (by omega)
        have hb5 := ho5.below HPR.out.2.2.1 (by have := HPR.out.2.2.2.1; omega) (by omega)
        have hs5 := ho5.size
        have hO5 := own_keep HPR.out.2.2.2.2 (fun q hq => ho5.block q (HPR.out.2.2.2.2.lt q hq).2 (fun e => by injection e with e; have := (HPR.out.2.2.2.2.lt q hq).1; omega))
        have c5 := hP5.cell 2
        have hgs5 : w3.heap.size + 1 ≤ w5.heap.size := by have := HPR.out.2.2.2.1; omega
        clear c0
        refine wpTwo (i := 1) (j := 4) (by kernel_rfl) rfl rfl (by rfl) (by rfl) (fun K hK => ?_) (fun K hK => ?_)
        · go_simp
          refine hK _ _ ?_
          clear hK K
          try simp only [Act.put, List.setIfInBounds_toArray, List.set_cons_zero, List.set_cons_succ]
          refine wpOne (i := 4) (by kernel_rfl) rfl (by rfl) (fun K hK => ?_)
          rw [Fld.v_eq]
          go_simp
          refine hK _ _ ?_
          clear hK K
          try simp only [Act.put, List.setIfInBounds_toArray, List.set_cons_zero, List.set_cons_succ]
          have hP6 := hP5.of_alloc (.cells (fcs xn xv.kind xv.flag xv.int xv.bits xv.text) 40)
          have hR6 := hR5.of_alloc (.cells (fcs xn xv.kind xv.flag xv.int xv.bits xv.text) 40)
          have hb6 := hb5.trans ((up1 (w := w5) (.cells (fcs xn xv.kind xv.flag xv.int xv.bits xv.text) 40)).mono (by omega))
          have hrd6 := hrd5.below (up1 (w := w5) (.cells (fcs xn xv.kind xv.flag xv.int xv.bits xv.text) 40)) (Nat.le_refl _)
          have hO6 := own_below' hO5 (up1 (w := w5) (.cells (fcs xn xv.kind xv.flag xv.int xv.bits xv.text) 40))
          have hM6 : ∀ (j : Nat) (u : Value), (Fld.cs ⟨xn, xv⟩)[j]? = some u → (w5.alloc (.cells (fcs xn xv.kind xv.flag xv.int xv.bits xv.text) 40)).cell? ((⟨w5.heap.size, 0, none⟩ : Addr).add j) = some u := fun j u hu => by
            have e : (⟨w5.heap.size, 0, none⟩ : Addr).add j = ⟨w5.heap.size, j, none⟩ := by rw [Addr.add_mid, Nat.zero_add]
            rw [e, (Has.made w5 _ _).cell]
            simpa [Fld.cs] using hu
          have hs6 : w3.heap.size + 1 ≤ (w5.alloc (.cells (fcs xn xv.kind xv.flag xv.int xv.bits xv.text) 40)).heap.size := by simp; omega
          have c6 := hP6.cell 2
          refine wpOne (i := 5) (by kernel_rfl) rfl (by rfl) (fun K hK => ?_)
          refine wp_append_own _ (.tmp 21) (.tmp 24) 22 rfl (w3.heap.size + 1) 40 i0 (.agg #[.string ⟨#[]⟩, .int .i64 0, .bool false, .int .i64 0, .int .u64 0, .string ⟨#[]⟩]) 6 64 Try.underlying22 HI.out.1 HI.out.2.1 HI.out.2.2.1 HI.out.2.2.2 rfl (by decide) v k (fl acc) rfl hO6 ⟨w5.heap.size, 0, none⟩ 1 1 (Fld.cs ⟨xn, xv⟩) rfl rfl hM6 (Fld.cs_one _) (by simp only [maxLen]; omega) (by omega) hs6 ?_
          intro v8 w7 hown7 hg7 hnil7
          refine hK _ _ ?_
          clear hK K
          try simp only [Act.put, List.setIfInBounds_toArray, List.set_cons_zero, List.set_cons_succ]
          have hrow : ∀ q, v.ownBlock = some q → w3.heap.size + 1 ≤ q := fun q hq => (hO6.lt q hq).1
          have hP7 : Has w7 w3.heap.size 24 #[.string (S id), .int .i64 cls, v] := (hg7.block _ hP6.lt (fun e => by have := hrow _ e.symm; omega)).trans hP6
          have hR7 : Has w7 w.heap.size 24 #[.string ⟨#[]⟩, .int .i64 0, .slice none 0 0] := (hg7.block _ hR6.lt (fun e => by have := hrow _ e.symm; omega)).trans hR6
          have hrd7 := hrd6.grown' hg7 (fun e => by have := hrow _ e.symm; omega) (fun e => by have := hrow _ e.symm; omega)
          have hb7 : Below w.heap.size w w7 := hb6.grown hg7 (by omega) (fun q hq => by have := hrow q hq; omega)
          have hs7 : w3.heap.size + 1 ≤ w7.heap.size := Nat.le_trans hs6 hg7.size
          have hown7' : w7.ownsRow (w3.heap.size + 1) 40 6 v8 (k + 1) (fl (acc ++ [⟨xn, xv⟩])) := by rw [fl_snoc]; exact hown7
          obtain ⟨g8, cp8, rfl⟩ : ∃ g8 cp8, v8 = .slice (some ⟨g8, 0, none⟩) (k + 1) cp8 := hown7'.2.elim (fun h => absurd h.2 (by omega)) (fun ⟨g8, cp8, cur, h8, _⟩ => ⟨g8, cp8, h8⟩)
          clear hown7 hg7 hnil7 hrow hP6 hR6 hb6 hrd6 hO6 hM6 hs6 hP5 hR5 hb5 hs5 hO5 c5 c6 hgs5 hrd5 ho5
          have d2 := hP7.cell 2
          have f2 := hP7.free 2
          have hP8 : Has (w7.setCell ⟨w3.heap.size, 2, none⟩ (.slice (some ⟨g8, 0, none⟩) (k + 1) cp8)) w3.heap.size 24 #[.string (S id), .int .i64 cls, (.slice (some ⟨g8, 0, none⟩) (k + 1) cp8)] := by simpa using hP7.set 2 (.slice (some ⟨g8, 0, none⟩) (k + 1) cp8)
          have ho8 := Only.set w7 w3.heap.size 2 (.slice (some ⟨g8, 0, none⟩) (k + 1) cp8)
          have hR8 := ho8.has hR7 (by omega)
          have hrd8 := hrd7.only ho8 (by omega) (by omega)
          have hb8 := ho8.below hb7 (by omega) (by omega)
          have hown8 := own_keep hown7' (fun q hq => ho8.block q (hown7'.lt q hq).2 (fun e => by injection e with e; have := (hown7'.lt q hq).1; omega))
          have hs8 : w3.heap.size + 1 ≤ (w7.setCell ⟨w3.heap.size, 2, none⟩ (.slice (some ⟨g8, 0, none⟩) (k + 1) cp8)).heap.size := Nat.le_trans hs7 ho8.size
          have HX := Lib.hid (And.intro hP8 (And.intro hR8 (And.intro hrd8 (And.intro hb8 (And.intro hown8 hs8)))))
          clear hP8 hR8 hrd8 hb8 hown8 hs8 ho8 hP7 hR7 hrd7 hb7 hs7 hown7'
          (refine grab (i := 6) (v := ?_) rfl rfl (by kernel_rfl) (by kernel_rfl) (by kernel_rfl) (fun _ _ _ h => h) (by rfl) ?_ ?_; rotate_left; (focus (intro w; go_simp; first | done | with_reducible rfl)); (simp only [Act.at, List.setIfInBounds_toArray, List.set_cons_zero, List.set_cons_succ]))
          refine wpOne (i := 7) (by kernel_rfl) rfl (by rfl) (fun K hK => ?_)
          go_simp
          refine hK _ _ ?_
          clear hK K d2 f2
          try simp only [Act.put, List.setIfInBounds_toArray, List.set_cons_zero, List.set_cons_succ]
          refine wpAny_done (by kernel_rfl) ?_ _
          go_wp2_with fail
          go_roundg (n - (k + 1))
          case measure => omega
          case rel => exact ⟨k + 1, rst, acc ++ [⟨xn, xv⟩], (.slice (some ⟨g8, 0, none⟩) (k + 1) cp8), by omega, by go_num, Nat.le_refl _, HX.out.2.2.2.2.1, by rw [List.length_append, HACC.out]; rfl, HST.out, HX.out.2.2.1, by have := HRS.out; omega, HX.out.1, HX.out.2.1, HX.out.2.2.2.1, HX.out.2.2.2.2.2⟩
        · rw [Fld.v_eq]
          go_simp
          refine hK _ _ ?_
          clear hK K
          try simp only [Act.put, List.setIfInBounds_toArray, List.set_cons_zero, List.set_cons_succ]
          have hP6 := hP5.of_alloc (.cells (fcs xn xv.kind xv.flag xv.int xv.bits xv.text) 40)
          have hR6 := hR5.of_alloc (.cells (fcs xn xv.kind xv.flag xv.int xv.bits xv.text) 40)
          have hb6 := hb5.trans ((up1 (w := w5) (.cells (fcs xn xv.kind xv.flag xv.int xv.bits xv.text) 40)).mono (by omega))
          have hrd6 := hrd5.below (up1 (w := w5) (.cells (fcs xn xv.kind xv.flag xv.int xv.bits xv.text) 40)) (Nat.le_refl _)
          have hO6 := own_below' hO5 (up1 (w := w5) (.cells (fcs xn xv.kind xv.flag xv.int xv.bits xv.text) 40))
          have hM6 : ∀ (j : Nat) (u : Value), (Fld.cs ⟨xn, xv⟩)[j]? = some u → (w5.alloc (.cells (fcs xn xv.kind xv.flag xv.int xv.bits xv.text) 40)).cell? ((⟨w5.heap.size, 0, none⟩ : Addr).add j) = some u := fun j u hu => by
            have e : (⟨w5.heap.size, 0, none⟩ : Addr).add j = ⟨w5.heap.size, j, none⟩ := by rw [Addr.add_mid, Nat.zero_add]
            rw [e, (Has.made w5 _ _).cell]
            simpa [Fld.cs] using hu
          have hs6 : w3.heap.size + 1 ≤ (w5.alloc (.cells (fcs xn xv.kind xv.flag xv.int xv.bits xv.text) 40)).heap.size := by simp; omega
          have c6 := hP6.cell 2
          refine wpOne (i := 1) (by kernel_rfl) rfl (by rfl) (fun K hK => ?_)
          go_simp
          refine hK _ _ ?_
          clear hK K
          try simp only [Act.put, List.setIfInBounds_toArray, List.set_cons_zero, List.set_cons_succ]
          refine wpOne (i := 5) (by kernel_rfl) rfl (by rfl) (fun K hK => ?_)
          refine wp_append_own _ (.tmp 21) (.tmp 24) 22 rfl (w3.heap.size + 1) 40 i0 (.agg #[.string ⟨#[]⟩, .int .i64 0, .bool false, .int .i64 0, .int .u64 0, .string ⟨#[]⟩]) 6 64 Try.underlying22 HI.out.1 HI.out.2.1 HI.out.2.2.1 HI.out.2.2.2 rfl (by decide) v k (fl acc) rfl hO6 ⟨w5.heap.size, 0, none⟩ 1 1 (Fld.cs ⟨xn, xv⟩) rfl rfl hM6 (Fld.cs_one _) (by simp only [maxLen]; omega) (by omega) hs6 ?_
          intro v8 w7 hown7 hg7 hnil7
          refine hK _ _ ?_
          clear hK K
          try simp only [Act.put, List.setIfInBounds_toArray, List.set_cons_zero, List.set_cons_succ]
          have hrow : ∀ q, v.ownBlock = some q → w3.heap.size + 1 ≤ q := fun q hq => (hO6.lt q hq).1
          have hP7 : Has w7 w3.heap.size 24 #[.string (S id), .int .i64 cls, v] := (hg7.block _ hP6.lt (fun e => by have := hrow _ e.symm; omega)).trans hP6
          have hR7 : Has w7 w.heap.size 24 #[.string ⟨#[]⟩, .int .i64 0, .slice none 0 0] := (hg7.block _ hR6.lt (fun e => by have := hrow _ e.symm; omega)).trans hR6
          have hrd7 := hrd6.grown' hg7 (fun e => by have := hrow _ e.symm; omega) (fun e => by have := hrow _ e.symm; omega)
          have hb7 : Below w.heap.size w w7 := hb6.grown hg7 (by omega) (fun q hq => by have := hrow q hq; omega)
          have hs7 : w3.heap.size + 1 ≤ w7.heap.size := Nat.le_trans hs6 hg7.size
          have hown7' : w7.ownsRow (w3.heap.size + 1) 40 6 v8 (k + 1) (fl (acc ++ [⟨xn, xv⟩])) := by rw [fl_snoc]; exact hown7
          obtain ⟨g8, cp8, rfl⟩ : ∃ g8 cp8, v8 = .slice (some ⟨g8, 0, none⟩) (k + 1) cp8 := hown7'.2.elim (fun h => absurd h.2 (by omega)) (fun ⟨g8, cp8, cur, h8, _⟩ => ⟨g8, cp8, h8⟩)
          clear hown7 hg7 hnil7 hrow hP6 hR6 hb6 hrd6 hO6 hM6 hs6 hP5 hR5 hb5 hs5 hO5 c5 c6 hgs5 hrd5 ho5
          have d2 := hP7.cell 2
          have f2 := hP7.free 2
          have hP8 : Has (w7.setCell ⟨w3.heap.size, 2, none⟩ (.slice (some ⟨g8, 0, none⟩) (k + 1) cp8)) w3.heap.size 24 #[.string (S id), .int .i64 cls, (.slice (some ⟨g8, 0, none⟩) (k + 1) cp8)] := by simpa using hP7.set 2 (.slice (some ⟨g8, 0, none⟩) (k + 1) cp8)
          have ho8 := Only.set w7 w3.heap.size 2 (.slice (some ⟨g8, 0, none⟩) (k + 1) cp8)
          have hR8 := ho8.has hR7 (by omega)
          have hrd8 := hrd7.only ho8 (by omega) (by omega)
          have hb8 := ho8.below hb7 (by omega) (by omega)
          have hown8 := own_keep hown7' (fun q hq => ho8.block q (hown7'.lt q hq).2 (fun e => by injection e with e; have := (hown7'.lt q hq).1; omega))
          have hs8 : w3.heap.size + 1 ≤ (w7.setCell ⟨w3.heap.size, 2, none⟩ (.slice (some ⟨g8, 0, none⟩) (k + 1) cp8)).heap.size := Nat.le_trans hs7 ho8.size
          have HX := Lib.hid (And.intro hP8 (And.intro hR8 (And.intro hrd8 (And.intro hb8 (And.intro hown8 hs8)))))
          clear hP8 hR8 hrd8 hb8 hown8 hs8 ho8 hP7 hR7 hrd7 hb7 hs7 hown7'
          (refine grab (i := 6) (v := ?_) rfl rfl (by kernel_rfl) (by kernel_rfl) (by kernel_rfl) (fun _ _ _ h => h) (by rfl) ?_ ?_; rotate_left; (focus (intro w; go_simp; first | done | with_reducible rfl)); (simp only [Act.at, List.setIfInBounds_toArray, List.set_cons_zero, List.set_cons_succ]))
          refine wpOne (i := 7) (by kernel_rfl) rfl (by rfl) (fun K hK => ?_)
          go_simp
          refine hK _ _ ?_
          clear hK K d2 f2
          try simp only [Act.put, List.setIfInBounds_toArray, List.set_cons_zero, List.set_cons_succ]
          refine wpAny_done (by kernel_rfl) ?_ _
          go_wp2_with fail
          go_roundg (n - (k + 1))
          case measure => omega
          case rel => exact ⟨k + 1, rst, acc ++ [⟨xn, xv⟩], (.slice (some ⟨g8, 0, none⟩) (k + 1) cp8), by omega, by go_num, Nat.le_refl _, HX.out.2.2.2.2.1, by rw [List.length_append, HACC.out]; rfl, HST.out, HX.out.2.2.1, by have := HRS.out; omega, HX.out.1, HX.out.2.1, HX.out.2.2.2.1, HX.out.2.2.2.2.2⟩
    · obtain rfl : k = n := by omega
      have hfs2 := HFS.out
      rw [Nat.sub_self, Pap.readFs_zero, HFR.out] at hfs2
      obtain ⟨rfl, rfl⟩ := Prod.mk.inj hfs2
      clear hfs2 HFS HFR
      have hE := end_rd (w.heap.size + 1 + 1) (w.heap.size + 1) stn wr hrd
      have HE := Lib.hid hE; clear hE hrd
      by_cases he : (R.fin stn).2 = 0
      · have heb : ((R.fin stn).2 != 0) = false := by simpa using he
        have hp2 := HP.out
        rw [if_neg (by simpa using he)] at hp2
        clear HP
        have HP := Lib.hid hp2; clear hp2 he
        generalize (R.fin stn).2 = e at heb HE
        -- the row as a slice
        obtain ⟨A, b, cp, hv, hF, hbw⟩ : ∃ A b cp, v = .slice A L.length cp ∧ FSl wr b A L ∧ w3.heap.size + 1 ≤ b := by
          rcases own_fields hown HACC.out.symm with ⟨rfl, rfl⟩ | ⟨g, cp, rfl, hgB, hgl, hH⟩
          · exact ⟨none, w3.heap.size + 1, 0, rfl, fun h => absurd rfl h, Nat.le_refl _⟩
          · exact ⟨_, g, cp, rfl, holds_fsl hH hgl, hgB⟩
        subst hv
        have HHA := HACC.out
        have hkey : ∀ W, FSl W b A L → Calls Try.prog 13 #[.agg #[.string (S id), .int .i64 cls, .slice A L.length cp]] W fun r w' => r = .returned (.tuple #[.string (S (Pap.bytes id cls L).1), .int .i64 (Pap.bytes id cls L).2]) ∧ Below W.heap.size W w' := fun W hW =>
          pbytes_any id cls L b cp A W hW (by omega) (by have := HLN.out.2.1; omega) (fun x hx => by have := (HFOK.out x hx).2; omega) (fun x hx => (HFOK.out x hx).1)
        have HKEY := Lib.hid hkey; clear hkey hown HHA
        have HPH := Lib.hid hP4; clear hP4 hR4 hb4 hrd4
        go_wp2_with fail
        refine (HE.out).mono ?_
        rintro r w5 ⟨rfl, -, ho5⟩
        have hP5 := ho5.has hPk (by omega)
        have hR5 := ho5.has hRk (by omega)
        have hb5 := ho5.below hbk (by omega) (by omega)
        have hF5 := hF.only ho5 (by omega)
        have hs5 := ho5.size
        clear hPk hRk hbk hF HE ho5
        have c0 := hP5.cell 0; have c1 := hP5.cell 1; have c2 := hP5.cell 2
        go_wp2_with fail
        refine (HKEY.out _ hF5).mono ?_
        rintro r w6 ⟨rfl, hb6⟩
        have hP6 := hP5.below hb6 hP5.lt
        have hR6 := hR5.below hb6 hR5.lt
        have hbw6 := hb5.trans (hb6.mono (by omega))
        have hF6 := hF5.below hb6 (Nat.le_refl _)
        have hs6 := hb6.size
        clear hP5 hR5 hb5 hF5 hb6 c0 c1 c2 HKEY
        by_cases hbad : (Pap.bytes id cls L).2 ≠ 0 ∨ (Pap.bytes id cls L).1 ≠ l
        · have hp2 := HP.out
          rw [if_pos hbad] at hp2
          subst hp2
          clear HP
          have d0 := hR6.cell 0; have d1 := hR6.cell 1; have d2 := hR6.cell 2; have f0 := hR6.free 0; have f1 := hR6.free 1; have f2 := hR6.free 2
          have hfin : Has (((w6.setCell ⟨w.heap.size, 0, none⟩ (.string ⟨#[]⟩)).setCell ⟨w.heap.size, 1, none⟩ (.int .i64 0)).setCell ⟨w.heap.size, 2, none⟩ (.slice none 0 0)) w.heap.size 24 #[.string ⟨#[]⟩, .int .i64 0, .slice none 0 0] := by
            have := ((hR6.set 0 (.string ⟨#[]⟩)).set 1 (.int .i64 0)).set 2 (.slice none 0 0)
            simpa using this
          have hob := (((Only.set w6 w.heap.size 0 (.string ⟨#[]⟩)).trans (Only.set _ w.heap.size 1 (.int .i64 0))).trans (Only.set _ w.heap.size 2 (.slice none 0 0))).below hbw6 (by omega) (Nat.le_refl _)
          have HFIN := Lib.hid (And.intro hfin hob); clear hfin hob hbw6 hR6 hP6 hF6
          by_cases h0 : (Pap.bytes id cls L).2 = 0
          · have h0b : ((Pap.bytes id cls L).2 != 0) = false := by simpa using h0
            have hne : ((Pap.bytes id cls L).1 == l) = false := by
              rw [beq_eq_false_iff_ne]
              rcases hbad with h | h
              · exact absurd h0 h
              · exact h
            generalize (Pap.bytes id cls L).2 = e2 at *
            generalize (Pap.bytes id cls L).1 = s2 at *
            clear hbad h0
            go_wp2_with fail
            exact ret_pap2 (p := 2) (u := 3) rfl w.heap.size _ (.int .i64 4) rfl rfl rfl HFIN.out.1 rfl ⟨none, 0, 0, rfl, fun h => absurd rfl h, HFIN.out.2⟩
          · have h0b : ((Pap.bytes id cls L).2 != 0) = true := by simpa using h0
            generalize (Pap.bytes id cls L).2 = e2 at *
            generalize (Pap.bytes id cls L).1 = s2 at *
            clear hbad h0
            go_wp2_with fail
            exact ret_pap2 (p := 2) (u := 3) rfl w.heap.size _ (.int .i64 4) rfl rfl rfl HFIN.out.1 rfl ⟨none, 0, 0, rfl, fun h => absurd rfl h, HFIN.out.2⟩
        · have hp2 := HP.out
          rw [if_neg hbad] at hp2
          subst hp2
          clear HP
          have h0 : (Pap.bytes id cls L).2 = 0 := Decidable.byContradiction fun h => hbad (Or.inl h)
          have h1 : (Pap.bytes id cls L).1 = l := Decidable.byContradiction fun h => hbad (Or.inr h)
          rw [h0, h1]
          have hne : (l == l) = true := by simp
          clear hbad h0 h1
          have c0 := hP6.cell 0; have c1 := hP6.cell 1; have c2 := hP6.cell 2
          have d0 := hR6.cell 0; have d1 := hR6.cell 1; have d2 := hR6.cell 2; have f0 := hR6.free 0; have f1 := hR6.free 1; have f2 := hR6.free 2
          have hfin : Has (((w6.setCell ⟨w.heap.size, 0, none⟩ (.string (S id))).setCell ⟨w.heap.size, 1, none⟩ (.int .i64 cls)).setCell ⟨w.heap.size, 2, none⟩ (.slice A L.length cp)) w.heap.size 24 #[.string (S id), .int .i64 cls, .slice A L.length cp] := by
            have := ((hR6.set 0 (.string (S id))).set 1 (.int .i64 cls)).set 2 (.slice A L.length cp)
            simpa using this
          have hoo := ((Only.set w6 w.heap.size 0 (.string (S id))).trans (Only.set _ w.heap.size 1 (.int .i64 cls))).trans (Only.set _ w.heap.size 2 (.slice A L.length cp))
          have hob := hoo.below hbw6 (by omega) (Nat.le_refl _)
          have hff := hF6.only hoo (by omega)
          have HFIN := Lib.hid (And.intro hfin (And.intro hob hff)); clear hfin hob hoo hff hbw6 hR6 hP6 hF6
          go_wp2_with fail
          exact ret_pap2 (p := 2) (u := 3) rfl w.heap.size _ (.int .i64 0) rfl rfl rfl HFIN.out.1 rfl ⟨A, b, cp, rfl, HFIN.out.2.2, HFIN.out.2.1⟩
      · have heb : ((R.fin stn).2 != 0) = true := by simpa using he
        have hp2 := HP.out
        rw [if_pos (by simpa using he)] at hp2
        clear HP he
        generalize (R.fin stn).2 = e at heb HE hp2
        subst hp2
        go_wp2_with fail
        refine (HE.out).mono ?_
        rintro r w5 ⟨rfl, -, ho5⟩
        have hR5 := ho5.has hRk (by omega)
        have hb5 := ho5.below hbk (by omega) (by omega)
        have hs5 := ho5.size
        clear ho5 HE hrd4 hP4 hR4 hb4 hPk hRk hbk hown
        have d0 := hR5.cell 0; have d1 := hR5.cell 1; have d2 := hR5.cell 2; have f0 := hR5.free 0; have f1 := hR5.free 1; have f2 := hR5.free 2
        have hfin : Has (((w5.setCell ⟨w.heap.size, 0, none⟩ (.string ⟨#[]⟩)).setCell ⟨w.heap.size, 1, none⟩ (.int .i64 0)).setCell ⟨w.heap.size, 2, none⟩ (.slice none 0 0)) w.heap.size 24 #[.string ⟨#[]⟩, .int .i64 0, .slice none 0 0] := by
          have := ((hR5.set 0 (.string ⟨#[]⟩)).set 1 (.int .i64 0)).set 2 (.slice none 0 0)
          simpa using this
        have hob := (((Only.set w5 w.heap.size 0 (.string ⟨#[]⟩)).trans (Only.set _ w.heap.size 1 (.int .i64 0))).trans (Only.set _ w.heap.size 2 (.slice none 0 0))).below hb5 (by omega) (Nat.le_refl _)
        have HFIN := Lib.hid (And.intro hfin hob); clear hfin hob hb5 hR5
        go_wp2_with fail
        exact ret_pap2 (p := 2) (u := 3) rfl w.heap.size _ (.int .i64 e) rfl rfl rfl HFIN.out.1 rfl ⟨none, 0, 0, rfl, fun h => absurd rfl h, HFIN.out.2⟩
end Go.Proofs.Ytfppobnfajkmmaa
