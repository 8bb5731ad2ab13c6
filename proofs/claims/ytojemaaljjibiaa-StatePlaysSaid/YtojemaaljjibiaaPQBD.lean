/-
  QBD: the texts StaQB, StaQC, StaQD in one.
-/
import Derived.Test.YtojemaaljjibiaaPCpCl
import Derived.Test.YtojemaaljjibiaaPStaThree
import Derived.Test.YtojemaaljjibiaaPRHI
import Derived.Lib.SliceRun
import Derived.Deep.LoopGhost
import Derived.Deep.DeepCutAuto
import Derived.Deep.CutBlock
namespace Go.Proofs.Ytojemaaljjibiaa
open Go.RowKit
set_option linter.unusedVariables false

/-- What is read of the program's state. -/
theorem StRep.reads {w : World} {q : Nat} {s : List Nat} {M : List EntX} {Q : List Pt} {now : Int} {n : Nat} (h : StRep w q s M Q now n) : ∃ A ca mb B cb, Has w q 58 #[.slice A M.length ca, .map (some mb), .slice B Q.length cb, .int .i64 now, .int .i64 (n : Int)] ∧ (M.length ≤ ca ∧ ca ≤ 9223372036854775807) ∧ (Q.length ≤ cb ∧ cb ≤ 9223372036854775807) ∧
    (∀ k (hk : k < M.length), ∃ b, A = some ⟨b, 0, none⟩ ∧ b < w.heap.size ∧ b ∈ s ∧ XAt w b (k * 7) M[k]) ∧ (∀ k (hk : k < Q.length), ∃ b, B = some ⟨b, 0, none⟩ ∧ b < w.heap.size ∧ b ∈ s ∧ w.cell? ⟨b, k * 2, none⟩ = some (.int .i64 (Q[k]).size) ∧ w.cell? ⟨b, k * 2 + 1, none⟩ = some (.string (S (Q[k]).root))) ∧ SeqM w mb (ids M) := by
  obtain ⟨A, ca, mb, B, cb, h1, h2, h3, h4, hs⟩ := h.ex
  obtain ⟨c1, r1⟩ := ownS_reads h2
  obtain ⟨c2, r2⟩ := ownS_reads h3
  refine ⟨A, ca, mb, B, cb, h1, c1, c2, fun k hk => ?_, fun k hk => ?_, h4⟩
  · obtain ⟨b, hA, hb, _, hr⟩ := r1 (by omega)
    refine ⟨b, hA, hb, by rw [hs, hA]; exact List.mem_append.2 (Or.inl (List.mem_singleton.2 rfl)), ?_⟩
    have := XAt.of (W := w) (b := b) (o := 0) (x := M[k]) (k := k) (fun j hj => flat_get EntX.cs 7 EntX.cs_len M k hk j hj) (fun j u hu => by rw [Nat.zero_add]; exact hr j u hu)
    rwa [Nat.zero_add] at this
  · obtain ⟨b, hA, hb, _, hr⟩ := r2 (by omega)
    have hg := fun j (hj : j < 2) => flat_get Pt.cs 2 Pt.cs_len Q k hk j hj
    exact ⟨b, hA, hb, by rw [hs, hA]; exact List.mem_append.2 (Or.inr (List.mem_append.2 (Or.inl (List.mem_singleton.2 rfl)))), hr (k * 2) _ ((hg 0 (by omega)).trans rfl), hr (k * 2 + 1) _ ((hg 1 (by omega)).trans rfl)⟩
theorem StRep.xin {w : World} {q : Nat} {s : List Nat} {M : List EntX} {Q : List Pt} {now : Int} {n : Nat} (h : StRep w q s M Q now n) : ∀ x ∈ M, XIn w [] x := fun x hx => (h.own x hx).xin (by simp)
theorem ret_ent2 {fn : Func} {p u : Tmp} {R : Ending → World → Prop} {a : Act} {w : World} (h : fn.results = #[.cell p 33, .tmp u]) (g : Nat) (cs : Array Value) (v : Value)
    (hp : a.tmps.getD p undef = .pointer (some ⟨g, 0, none⟩)) (hu : a.tmps.getD u undef = v) (hd : a.defers = []) (hh : Has w g 33 cs) (hcs : cs.size = 7) (hR : R (.returned (.tuple #[.agg cs, v])) w) : bodyPost Try.prog fn R .ret a w :=
  bodyPost_ret (v := .tuple #[.agg cs, v]) (by
    have h1 : (loadVar 33 ⟨g, 0, none⟩).run Try.prog w = .ok (.agg cs) w := run_loadVar_row w g 33 33 cs (0, 0) _ hh Try.underlying33 rfl (by rw [hcs]; exact entSize)
    rw [results_cell_tmp h, hp, hu]
    simp [asAddr, h1, Result.andThen]) hd hR
abbrev entZ : Array Value := #[.string ⟨#[]⟩, .int .i64 0, .int .i64 0, .int .i64 0, .slice none 0 0, .bool false, .slice none 0 0]
theorem run_efield (c0 c1 c2 c3 c4 c5 c6 c7 c8 c9 c10 c11 c12 c13 : Value) (W : World) : (Instr.field 37 (.agg #[c0, c1, c2, c3, c4, c5, c6, c7, c8, c9, c10, c11, c12, c13]) 1).run Try.prog W = .ok (.agg #[c1, c2, c3, c4, c5, c6, c7]) W := by
  kernel_rfl
section
variable {w : World} {q : Nat} {s ot : List Nat} {st : Sta} {n : Nat}
set_option maxRecDepth 100000 in
set_option maxHeartbeats 4000000 in
theorem stEntry (h : StAt w q s ot st n) (hI : Sta.Inv st) (k : Nat) (hk : k < st.P.length) :
    Calls Try.prog 26 #[.pointer (some ⟨q, 0, none⟩), .int .i64 (k : Int)] w fun r w' => ∃ x : EntX, r = .returned (.tuple #[x.val, .int .i64 0]) ∧ x.e = st.P[k] ∧ XIn w' ((q :: s) ++ ot) x ∧ Below w.heap.size w w' := by
  have hq := h.lt
  have hu := h.ul
  obtain ⟨⟨M, hM, hr⟩, -⟩ := h
  have hl : M.length = st.P.length := by rw [← hM, List.length_map]
  have hkM : k < M.length := by omega
  have he : M[k].e = st.P[k] := by
    have : (M.map EntX.e)[k]? = st.P[k]? := by rw [hM]
    rw [List.getElem?_map, List.getElem?_eq_getElem hkM, List.getElem?_eq_getElem hk] at this
    exact Option.some.inj this
  obtain ⟨A, ca, mb, B, cb, h1, hca, -, hP, -, -⟩ := hr.reads
  have hx := hr.xin M[k] (List.getElem_mem hkM)
  obtain ⟨b, rfl, hb, hbs, hX⟩ := hP k hkM
  have hlens := hI.lens st.P[k] (List.getElem_mem hk)
  rw [← he] at hlens ⊢
  generalize M[k]'hkM = x at hX hx hlens ⊢
  obtain ⟨⟨id, cls, born, slot, L, gone, H⟩, xA, xca, xB, xcb⟩ := x
  have hba : Below w.heap.size w (w.alloc (.cells entZ 33)) := (Below.refl _ w).alloc (Nat.le_refl _) _
  have HAD := Lib.hid (fun (W : World) (hb : Below w.heap.size w W) => added_any (EntIn.at hx hb (s := []) (fun x hx => by cases hx)) hlens.1 hlens.2)
  have HW := Lib.hid (works_has (h1.below hba h1.lt))
  have h1' := h1.below hba h1.lt
  have y0 := h1'.cell 0
  have hX' := hX.below hba hb
  obtain ⟨x0, x1, x2, x3, x4, x5, x6⟩ := hX'
  have hz := Has.made w 33 entZ
  have HS : Hid ((w.alloc (.cells entZ 33)).heap.size = w.heap.size + 1) := Lib.hid (asize _ _)
  have HQ := Lib.hid (And.intro hq hu)
  have n0 : ¬ (k : Int) < 0 := by omega
  have n1 : ¬ (M.length : Int) ≤ (k : Int) := by omega
  have n2 : (0 : Int) ≤ (k : Int) := by omega
  have n3 : (k : Int) < (M.length : Int) := by omega
  have n4 : (M.length : Int) ≤ (ca : Int) := by omega
  clear hr hM hl h1 hI hx hX hP hlens he hkM hk h1' hq hu hb hbs
  dsimp only at *
  unfold entZ at *
  go_enter Try.func26, Try.ntmps26
  go_upto_region 1 with fail
  generalize w.alloc (.cells #[.string ⟨#[]⟩, .int .i64 0, .int .i64 0, .int .i64 0, .slice none 0 0, .bool false, .slice none 0 0] 33) = W0 at *
  obtain ⟨b0, hq0⟩ : ∃ b0, w.heap.size = b0 := ⟨_, rfl⟩
  rw [hq0] at hz HS ⊢
  have HZ := Lib.hid hz
  have HU := Lib.hid hba
  have HQ0 := Lib.hid hq0
  clear hz hba hq0
  go_wp2_with fail
  refine HW.out.mono ?_
  rintro r w1 ⟨rfl, rfl⟩
  go_wp2_with fail
  refine (HAD.out _ HU.out).mono ?_
  rintro r w1 ⟨⟨⟨id', cls', born', slot', L', gone', H'⟩, A1, c1, B1, d1⟩, rfl, he, hN, hb1⟩
  injection he with e1 e2 e3 e4 e5 e6 e7
  subst e1 e2 e3 e4 e5 e6 e7
  dsimp only [Evt.val, Sta.paperE, Evt.zero]
  have h2 := HZ.out.below hb1 HZ.out.lt
  have hmv := (only7 w1 b0 (.string (S id')) (.int .i64 cls') (.int .i64 born') (.int .i64 slot') (.slice A1 L'.length c1) (.bool gone') (.slice B1 H'.length d1))
  have HH := Lib.hid (set7 h2 (.string (S id')) (.int .i64 cls') (.int .i64 born') (.int .i64 slot') (.slice A1 L'.length c1) (.bool gone') (.slice B1 H'.length d1))
  have HN := Lib.hid (hN.only hmv (by have := HS.out; have := HQ0.out; omega))
  have HB := Lib.hid (hmv.below (HU.out.trans (hb1.mono HU.out.size)) (Nat.le_trans HU.out.size hb1.size) (by have := HQ0.out; omega))
  clear x0 x1 x2 x3 x4 x5 x6 y0
  have z0 := h2.cell 0
  have z1 := h2.cell 1
  have z2 := h2.cell 2
  have z3 := h2.cell 3
  have z4 := h2.cell 4
  have z5 := h2.cell 5
  have z6 := h2.cell 6
  have f0 := h2.free 0
  have f1 := h2.free 1
  have f2 := h2.free 2
  have f3 := h2.free 3
  have f4 := h2.free 4
  have f5 := h2.free 5
  have f6 := h2.free 6
  clear h2 hmv hN hb1 HAD HW
  have hfd := run_efield (.int .i64 1) (.string (S id')) (.int .i64 cls') (.int .i64 born') (.int .i64 slot') (.slice A1 L'.length c1) (.bool gone') (.slice B1 H'.length d1) (.int .i64 0) (.int .i64 0) (.string (S [])) (.int .i64 0) (.string (S [])) (.int .i64 0)
  go_wp2_with fail
  refine ret_ent2 (p := 4) (u := 5) rfl b0 _ _ rfl rfl rfl HH.out rfl ?_
  refine ⟨⟨⟨id', cls', born', slot', L', gone', H'⟩, A1, c1, B1, d1⟩, rfl, rfl, HN.out.xin (fun z hz => ?_), HB.out⟩
  have h1 := HQ.out
  have h2 := HS.out
  have h3 := HQ0.out
  rcases List.mem_append.1 (show z ∈ (q :: s) ++ ot from hz) with hz | hz
  · rcases List.mem_cons.1 hz with rfl | hz
    · omega
    · have := h1.1.2 z hz; omega
  · have := h1.2 z hz; omega
set_option maxRecDepth 100000 in
theorem stEntry_no (h : StAt w q s ot st n) (hI : Sta.Inv st) (i : Int) (hi : i < 0 ∨ (st.P.length : Int) ≤ i) :
    Calls Try.prog 26 #[.pointer (some ⟨q, 0, none⟩), .int .i64 i] w fun r w' => ∃ x : EntX, r = .returned (.tuple #[x.val, .int .i64 7]) ∧ Below w.heap.size w w' := by
  obtain ⟨⟨M, hM, hr⟩, -⟩ := h
  have hl : M.length = st.P.length := by rw [← hM, List.length_map]
  obtain ⟨A, ca, mb, B, cb, h1, hca, -, -, -, -⟩ := hr.reads
  rw [← hl] at hi
  have hba : Below w.heap.size w (w.alloc (.cells entZ 33)) := (Below.refl _ w).alloc (Nat.le_refl _) _
  have HW := Lib.hid (works_has (h1.below hba h1.lt))
  have h1' := h1.below hba h1.lt
  have y0 := h1'.cell 0
  have hz := Has.made w 33 entZ
  have hcd : i < 0 ∨ (¬ i < 0 ∧ (M.length : Int) ≤ i) := by omega
  clear hr hM hl h1 hI h1' hi hca
  unfold entZ at *
  go_enter Try.func26, Try.ntmps26
  go_upto_region 1 with fail
  generalize w.alloc (.cells #[.string ⟨#[]⟩, .int .i64 0, .int .i64 0, .int .i64 0, .slice none 0 0, .bool false, .slice none 0 0] 33) = W0 at *
  obtain ⟨b0, hq0⟩ : ∃ b0, w.heap.size = b0 := ⟨_, rfl⟩
  rw [hq0] at hz ⊢
  have HZ := Lib.hid hz
  have HU := Lib.hid hba
  have HQ0 := Lib.hid hq0
  have HH := Lib.hid (set7 hz (.string ⟨#[]⟩) (.int .i64 0) (.int .i64 0) (.int .i64 0) (.slice none 0 0) (.bool false) (.slice none 0 0))
  have HB := Lib.hid ((only7 W0 b0 (.string ⟨#[]⟩) (.int .i64 0) (.int .i64 0) (.int .i64 0) (.slice none 0 0) (.bool false) (.slice none 0 0)).below hba hba.size (by omega))
  have z0 := hz.cell 0
  have f0 := hz.free 0
  have z1 := hz.cell 1
  have f1 := hz.free 1
  have z2 := hz.cell 2
  have f2 := hz.free 2
  have z3 := hz.cell 3
  have f3 := hz.free 3
  have z4 := hz.cell 4
  have f4 := hz.free 4
  have z5 := hz.cell 5
  have f5 := hz.free 5
  have z6 := hz.cell 6
  have f6 := hz.free 6
  clear hz hba hq0
  rcases hcd with hc0 | ⟨hc0, hc1⟩
  all_goals
    go_wp2_with fail
    refine HW.out.mono ?_
    rintro r w1 ⟨rfl, rfl⟩
    go_wp2_with fail
    refine ret_ent2 (p := 4) (u := 5) rfl b0 _ _ rfl rfl rfl HH.out rfl ?_
    exact ⟨⟨⟨[], 0, 0, 0, [], false, []⟩, none, 0, none, 0⟩, rfl, by rw [HQ0.out]; rw [HQ0.out] at HB; exact HB.out⟩
end
end Go.Proofs.Ytojemaaljjibiaa

namespace Go.Proofs.Ytojemaaljjibiaa
open Go.RowKit
set_option linter.unusedVariables false

theorem cpPtInfo : (Try.prog.info? 35).map (fun i => (i.zero, i.size, i.bytes)) = some (some (.agg #[.int .i64 0, .string ⟨#[]⟩]), 2, 24) := by kernel_rfl
theorem qcs_one (Q : List Pt) : ∀ u ∈ qcs Q, u.oneCell' = true := by
  intro u hu
  unfold qcs at hu
  obtain ⟨x, _, hx⟩ := List.mem_flatMap.1 hu
  unfold Pt.cs at hx
  simp only [List.mem_cons, List.not_mem_nil, or_false] at hx
  rcases hx with rfl | rfl <;> rfl
theorem qEqNil (a : Option Addr) (n c : Nat) (W : World) : (binOp .eql 27 (.slice a n c) (.slice none 0 0)).run Try.prog W = .ok (.bool a.isNone) W := Lib.run_eql_slice_nil W _ _ a n c 0 0 Try.underlying27
set_option maxRecDepth 100000 in
theorem cloneQ_any {w : World} {B : Option Addr} {cb : Nat} {Q : List Pt} (h : w.ownsRow 0 35 2 (.slice B Q.length cb) Q.length (qcs Q)) (hQ : Q.length ≤ 100000) :
    Calls Try.prog 45 #[.slice B Q.length cb] w fun r w' => ∃ v, r = .returned v ∧ w'.ownsRow w.heap.size 35 2 v Q.length (qcs Q) ∧ Below w.heap.size w w' := by
  obtain ⟨i0, hi0, hz0, hz1, hz2⟩ := info_parts cpPtInfo
  have HI := Lib.hid (And.intro hi0 (And.intro hz0 (And.intro hz1 hz2)))
  clear hi0 hz0 hz1 hz2
  have qT : ∀ (w : World) (r : Option Addr) (n c : Nat), (binOp .eql 27 (.slice r n c) (.slice none 0 0)).run Try.prog w = .ok (.bool r.isNone) w := fun w r n c => qEqNil r n c w
  by_cases hB : B = none
  · subst hB
    have h0 : Q.length = 0 := by
      by_cases h0 : Q.length = 0
      · exact h0
      · obtain ⟨b, e, -⟩ := (ownS_reads h).2 h0
        cases e
    have hQ0 : Q = [] := List.eq_nil_of_length_eq_zero h0
    subst hQ0
    go_enter Try.func45, Try.ntmps45
    go_wp2_with fail
    go_ret
    exact ⟨_, rfl, World.ownsRow_nil _ _ _ _, Below.refl _ _⟩
  · obtain ⟨a, rfl⟩ := Option.ne_none_iff_exists'.1 hB
    go_enter Try.func45, Try.ntmps45
    have ho : (w.alloc (.cells #[] 35)).ownsRow w.heap.size 35 2 (.slice (some ⟨w.heap.size, 0, none⟩) 0 0) 0 [] := ⟨rfl, .inr ⟨w.heap.size, 0, #[], rfl, Nat.le_refl _, Has.made w _ _, Nat.le_refl _, Nat.zero_le _, rfl, rfl⟩⟩
    have hr : RowC (w.alloc (.cells #[] 35)) [] (some a) (qcs Q) := (ownS_row h (s := []) (by simp)).below ((Below.refl _ w).alloc (Nat.le_refl _) _)
    have hc : ∀ j u, (qcs Q)[j]? = some u → (w.alloc (.cells #[] 35)).cell? (a.add j) = some u := fun j u hu => by
      obtain ⟨b, off, e, -, -, hg⟩ := hr (fun e => by rw [e] at hu; cases hu)
      injection e with e
      subst e
      rw [add_flat']
      exact hg j u hu
    have HO := Lib.hid (And.intro ho hc)
    have HQ := Lib.hid hQ
    have HB : Hid (Below w.heap.size w (w.alloc (.cells #[] 35))) := Lib.hid ((Below.refl _ w).alloc (Nat.le_refl _) _)
    clear ho hr hc hQ h
    go_wp2_with (at_builtin; (refine wpList_append_own _ rfl (.tmp 5) (.tmp 6) 27 rfl w.heap.size 35 i0 _ 2 24 Try.underlying27 HI.out.1 HI.out.2.1 HI.out.2.2.1 HI.out.2.2.2 rfl (by decide) (.slice (some ⟨w.heap.size, 0, none⟩) 0 0) 0 [] rfl HO.out.1 a Q.length cb (qcs Q) rfl (qcs_len Q) HO.out.2 (qcs_one Q) (by have := HQ.out; simp only [maxLen]; omega) (by have := HQ.out; omega) (by rw [asize]; omega) ?_))
    intro v' w1 h1 h2 h3
    have HR := Lib.hid (And.intro h1 (HB.out.grown h2 HB.out.size (fun j hj => by simp [Value.ownBlock] at hj; omega)))
    clear h1 h2 h3 HO HB
    go_wp2_with fail
    go_ret
    exact ⟨v', rfl, HR.out.1, HR.out.2⟩
section
variable {w : World} {q : Nat} {s ot : List Nat} {st : Sta} {n : Nat}
set_option maxRecDepth 100000 in
theorem stPoints (h : StAt w q s ot st n) (hQ : st.Q.length ≤ 1000) :
    Calls Try.prog 21 #[.pointer (some ⟨q, 0, none⟩)] w fun r w' => ∃ (A : Option Addr) (ca : Nat), r = .returned (.slice A st.Q.length ca) ∧ st.Q.length ≤ ca ∧ ca ≤ 9223372036854775807 ∧ RowQt w' ((q :: s) ++ ot) A st.Q ∧ Below w.heap.size w w' := by
  have hq := h.lt
  have hu := h.ul
  obtain ⟨⟨M, hM, hr⟩, -⟩ := h
  obtain ⟨A, ca, mb, B, cb, h1, -, h3, -⟩ := hr.ex
  have HW := Lib.hid (works_has h1)
  have HC := Lib.hid (cloneQ_any h3 (by omega))
  have y2 := h1.cell 2
  have HQ := Lib.hid (And.intro hq hu)
  clear hr hM h1 h3 hq hu
  go_enter Try.func21, Try.ntmps21
  go_wp2_with fail
  refine HW.out.mono ?_
  rintro r w1 ⟨rfl, rfl⟩
  go_wp2_with fail
  refine HC.out.mono ?_
  rintro r w1 ⟨v, rfl, ho, hb⟩
  obtain ⟨A1, c1, rfl⟩ := ownS_slice ho
  have HR := Lib.hid (And.intro ho hb)
  clear ho hb
  go_wp2_with fail
  go_ret
  refine ⟨A1, c1, rfl, (ownS_reads HR.out.1).1.1, (ownS_reads HR.out.1).1.2, ownS_row HR.out.1 (fun b hb hz => ?_), HR.out.2⟩
  have h1 := HQ.out
  have h2 := (HR.out.1.lt b hb).1
  rcases List.mem_append.1 (show b ∈ (q :: s) ++ ot from hz) with hz | hz
  · rcases List.mem_cons.1 hz with rfl | hz
    · omega
    · have := h1.1.2 b hz; omega
  · have := h1.2 b hz; omega
end
end Go.Proofs.Ytojemaaljjibiaa

namespace Go.Proofs.Ytojemaaljjibiaa
open Go.RowKit
set_option linter.unusedVariables false

theorem xcs_one (M : List EntX) : ∀ u ∈ xcs M, u.oneCell' = true := by
  intro u hu
  unfold xcs at hu
  obtain ⟨x, _, hx⟩ := List.mem_flatMap.1 hu
  unfold EntX.cs Ent.cs at hx
  simp only [List.mem_cons, List.not_mem_nil, or_false] at hx
  rcases hx with rfl | rfl | rfl | rfl | rfl | rfl | rfl <;> rfl
theorem xcs_one1 (x : EntX) : ∀ u ∈ x.cs, u.oneCell' = true := by
  have := xcs_one [x]
  unfold xcs at this
  rwa [List.flatMap_singleton] at this
section
variable {w : World} {q : Nat} {s ot : List Nat} {st : Sta} {n : Nat}
/-- The papers that were copied so far. -/
structure Cpd (w : World) (q : Nat) (t : List Nat) (P : List Ent) (k : Nat) (v : Value) (wr : World) : Prop where
  ex : ∃ out : List EntX, out.map EntX.e = P.take k ∧ wr.ownsRow w.heap.size 33 7 v k (xcs out) ∧ ∀ x ∈ out, XIn wr ((q :: v.ownBlock.toList) ++ t) x
  bl : Below w.heap.size w wr
theorem Cpd.start (w : World) (q : Nat) (t : List Nat) (P : List Ent) : Cpd w q t P 0 (.slice none 0 0) w := ⟨⟨[], rfl, World.ownsRow_nil _ _ _ _, fun x hx => by cases hx⟩, Below.refl _ _⟩
theorem take_one {α : Type} {L : List α} {k : Nat} {x : α} (h : L[k]? = some x) : L.take (k + 1) = L.take k ++ [x] := by
  rw [List.take_add_one, h]; rfl
theorem Cpd.more {t : List Nat} {P : List Ent} {k : Nat} {v : Value} {wr W2 w4 : World} {out : List EntX} {y : EntX} {B g cap : Nat} {o : Obj} (hlt : ∀ x ∈ q :: t, x < w.heap.size) (h1 : out.map EntX.e = P.take k) (h2 : wr.ownsRow w.heap.size 33 7 v k (xcs out)) (h3 : ∀ x ∈ out, XIn wr ((q :: v.ownBlock.toList) ++ t) x) (hb : Below w.heap.size w wr)
    (hb2 : Below wr.heap.size wr W2) (hN : NewX B W2 y) (hB : wr.heap.size ≤ B) (hy : P[k]? = some y.e) (ho : w4.ownsRow w.heap.size 33 7 (.slice (some ⟨g, 0, none⟩) (k + 1) cap) (k + 1) (xcs out ++ y.cs)) (hg : (W2.alloc o).grownBy w4 v.ownBlock) (hat : v.ownBlock = some g ∨ g = (W2.alloc o).heap.size) :
    Cpd w q t P (k + 1) (.slice (some ⟨g, 0, none⟩) (k + 1) cap) w4 := by
  have hba : Below W2.heap.size W2 (W2.alloc o) := (Below.refl _ W2).alloc (Nat.le_refl _) o
  have hrow : ∀ j, v.ownBlock = some j → w.heap.size ≤ j ∧ j < wr.heap.size := fun j hj => h2.lt j hj
  have hm : Mv (W2.alloc o) w4 (q :: v.ownBlock.toList) := Mv.of_grown hg (fun j hj => List.mem_cons_of_mem _ (Option.mem_toList.2 hj))
  have hs' : ∀ z ∈ [g], z ∈ v.ownBlock.toList ∨ (W2.alloc o).heap.size ≤ z := fun z hz => by
    rw [List.mem_singleton.1 hz]
    rcases hat with e | e
    · exact Or.inl (by rw [e]; simp)
    · exact Or.inr (Nat.le_of_eq e.symm)
  have hy' : XIn W2 ((q :: v.ownBlock.toList) ++ t) y := hN.xin (fun b hb' => by
    rcases List.mem_append.1 hb' with hb' | hb'
    · rcases List.mem_cons.1 hb' with rfl | hb'
      · have := hlt b (List.mem_cons_self ..); have := hb.size; omega
      · have := hrow b (Option.mem_toList.1 hb'); omega
    · have := hlt b (List.mem_cons_of_mem _ hb'); have := hb.size; omega)
  refine ⟨⟨out ++ [y], ?_, ?_, fun x hx => ?_⟩, ?_⟩
  · rw [List.map_append, h1, take_one hy]; rfl
  · rw [← xcs_snoc]; exact ho
  · show XIn w4 ((q :: [g]) ++ t) x
    rcases List.mem_append.1 hx with hx | hx
    · exact XIn.more (((h3 x hx).below hb2).below hba) hm hs'
    · rw [List.mem_singleton.1 hx]; exact XIn.more (hy'.below hba) hm hs'
  · exact (hb.trans ((hb2.trans (hba.mono hb2.size)).mono hb.size)).grown hg (by have := hb.size; have := hb2.size; have := hba.size; omega) (fun j hj => (hrow j hj).1)
theorem EntX.valE (id : List UInt8) (cls born slot : Int) (L : List Slp) (gone : Bool) (H : List (List UInt8)) (A : Option Addr) (ca : Nat) (B : Option Addr) (cb : Nat) : EntX.val ⟨⟨id, cls, born, slot, L, gone, H⟩, A, ca, B, cb⟩ = .agg #[.string (S id), .int .i64 cls, .int .i64 born, .int .i64 slot, .slice A L.length ca, .bool gone, .slice B H.length cb] := rfl
set_option maxRecDepth 100000 in
set_option maxHeartbeats 8000000 in
theorem stEntries (h : StAt w q s ot st n) (hI : Sta.Inv st) :
    Calls Try.prog 23 #[.pointer (some ⟨q, 0, none⟩)] w fun r w' => ∃ (A : Option Addr) (ca : Nat) (M : List EntX), r = .returned (.slice A M.length ca) ∧ M.map EntX.e = st.P ∧ M.length ≤ ca ∧ ca ≤ 9223372036854775807 ∧ RowX w' ((q :: s) ++ ot) A M ∧ Below w.heap.size w w' := by
  have hq := h.lt
  have hu := h.ul
  obtain ⟨⟨M, hM, hr⟩, -⟩ := h
  obtain ⟨A, ca, mb, B, cb, h1, hca, -, hP, -, -⟩ := hr.reads
  have HX := Lib.hid (fun (k : Nat) (hk : k < M.length) (W : World) (hb : Below w.heap.size w W) => (show Calls Try.prog 44 #[M[k].val] W (fun r w' => ∃ x : EntX, r = .returned ((Sta.paperE x.e).val x.A x.ca x.B x.cb) ∧ x.e = M[k].e ∧ NewX W.heap.size w' x ∧ Below W.heap.size W w') from (added_any (EntIn.at (hr.xin M[k] (List.getElem_mem hk)) hb (s := []) (fun x hx => by cases hx)) (hI.lens _ (by rw [← hM]; exact List.mem_map_of_mem (List.getElem_mem hk))).1 (hI.lens _ (by rw [← hM]; exact List.mem_map_of_mem (List.getElem_mem hk))).2).mono (fun r w' ⟨x, e1, e2, e3⟩ => ⟨x, by rw [e2]; exact e1, e2, e3⟩)))
  have hlen : M.length ≤ 1000 := by
    have := hI.few
    rw [← hM, List.length_map] at this
    omega
  have HW := Lib.hid (works_has h1)
  have y0 := h1.cell 0
  have HQ := Lib.hid (And.intro hq hu)
  have HP := Lib.hid hP
  have HM := Lib.hid hM
  have HCA := Lib.hid (And.intro hca.1 hlen)
  obtain ⟨i0, hi0, hz0, hz1, hz2⟩ := info_parts papInfo
  have HI := Lib.hid (And.intro hi0 (And.intro hz0 (And.intro hz1 hz2)))
  clear hr hM h1 hI hP hca hq hu hlen hi0 hz0 hz1 hz2
  have hl0 : (M.length : Int) ≤ 1000 := by have := HCA.out.2; omega
  go_enter Try.func23, Try.ntmps23
  go_wp2_with fail
  refine HW.out.mono ?_
  rintro r w1 ⟨rfl, hw1⟩
  subst w1
  go_wp2_with fail
  go_loopg [3, 14] M.length (fun m v3 v14 wr => ∃ k : Nat, k + m = M.length ∧ v14 = .int .i64 (k : Int) ∧ Cpd w q ((q :: s) ++ ot) st.P k v3 wr)
  case atStart => exact ⟨0, Nat.zero_add _, rfl, Cpd.start _ _ _ _⟩
  case round =>
    obtain ⟨k, hkm, rfl, hC⟩ := hrel
    cases gk with
    | zero =>
      have hlt : ¬ (k : Int) < (M.length : Int) := by omega
      obtain rfl : k = M.length := by omega
      have HC := Lib.hid hC
      clear hC
      go_wp2_with fail
      go_ret
      obtain ⟨out, e1, e2, e3⟩ := HC.out.ex
      obtain ⟨A1, c1, rfl⟩ := ownS_slice e2
      rw [show M.length = st.P.length by rw [← HM.out, List.length_map], List.take_length] at e1
      have el : out.length = M.length := by rw [← HM.out] at e1; have := congrArg List.length e1; simpa using this
      refine ⟨A1, c1, out, by rw [el]; rfl, e1, by rw [el]; exact (ownS_reads e2).1.1, (ownS_reads e2).1.2, ⟨ownS_row e2 (fun b hb hz => ?_), fun x hx => (e3 x hx).sub (fun z hz => List.mem_append_right _ hz)⟩, HC.out.bl⟩
      have h1 := HQ.out
      have h2 := (e2.lt b hb).1
      rcases List.mem_append.1 (show b ∈ (q :: s) ++ ot from hz) with hz | hz
      · rcases List.mem_cons.1 hz with rfl | hz
        · omega
        · have := h1.1.2 b hz; omega
      · have := h1.2 b hz; omega
    | succ m =>
      have hlt : (k : Int) < (M.length : Int) := by omega
      have hk : k < M.length := by omega
      have hk0 : (0 : Int) ≤ (k : Int) := by omega
      have hkc : (k : Int) < (ca : Int) := by have := HCA.out.1; omega
      have hinc : IntKind.i64.wrap ((k : Int) + 1) = (k : Int) + 1 := by rw [IntKind.wrap_i64]; omega
      obtain ⟨b, hA, hb, -, hX⟩ := HP.out k hk
      obtain ⟨x0, x1, x2, x3, x4, x5, x6⟩ := hX.below (hC.bl.mono (Nat.le_refl _)) hb
      have HXK := Lib.hid (HX.out k hk)
      have HEK : Hid (st.P[k]? = some M[k].e) := Lib.hid (by rw [← HM.out, List.getElem?_map, List.getElem?_eq_getElem hk]; rfl)
      subst hA
      clear hX
      generalize M[k]'hk = x at x0 x1 x2 x3 x4 x5 x6 HXK HEK
      obtain ⟨⟨id, cls, born, slot, L, gone, H⟩, xA, xca, xB, xcb⟩ := x
      rw [EntX.valE] at HXK
      dsimp only at x0 x1 x2 x3 x4 x5 x6 HEK HXK
      have hba : Below wr.heap.size wr (wr.alloc (.cells #[.string (S id), .int .i64 cls, .int .i64 born, .int .i64 slot, .slice xA L.length xca, .bool gone, .slice xB H.length xcb] 33)) := (Below.refl _ wr).alloc (Nat.le_refl _) _
      have HBA := Lib.hid hba
      have HC := Lib.hid hC
      have HKM := Lib.hid hkm
      clear hC hkm hba
      go_wp2_with fail
      refine (HXK.out _ (HC.out.bl.trans (HBA.out.mono HC.out.bl.size))).mono ?_
      rintro r w2 ⟨⟨⟨id', cls', born', slot', L', gone', H'⟩, A1, c1, B1, d1⟩, rfl, he, hN, hb2⟩
      injection he with e1 e2 e3 e4 e5 e6 e7
      subst e1 e2 e3 e4 e5 e6 e7
      dsimp only [Evt.val, Sta.paperE, Evt.zero]
      have hfd := run_efield (.int .i64 1) (.string (S id')) (.int .i64 cls') (.int .i64 born') (.int .i64 slot') (.slice A1 L'.length c1) (.bool gone') (.slice B1 H'.length d1) (.int .i64 0) (.int .i64 0) (.string (S [])) (.int .i64 0) (.string (S [])) (.int .i64 0)
      have HB2 := Lib.hid (HBA.out.trans (hb2.mono HBA.out.size))
      have HN := Lib.hid hN
      have HMD := Lib.hid (papMade w2 ⟨⟨id', cls', born', slot', L', gone', H'⟩, A1, c1, B1, d1⟩)
      obtain ⟨out, e1, e2, e3⟩ := HC.out.ex
      have HO := Lib.hid (And.intro e1 (And.intro e2 e3))
      have HO2 := Lib.hid (own_keepB (w' := w2.alloc (.cells #[.string (S id'), .int .i64 cls', .int .i64 born', .int .i64 slot', .slice A1 L'.length c1, .bool gone', .slice B1 H'.length d1] 33)) e2 (fun g hg => (HB2.out.trans (((Below.refl _ w2).alloc (Nat.le_refl _) _).mono HB2.out.size)).block g (e2.lt g hg).2))
      clear e1 e2 e3 hN hb2 HX x0 x1 x2 x3 x4 x5 x6
      have hk2 : k ≤ 1000 := by omega
      go_wp2_with (at_builtin; (refine wpList_append_lies _ rfl (.tmp 18) (.tmp 22) 26 rfl w.heap.size 33 i0 _ 7 96 Try.underlying26 HI.out.1 HI.out.2.1 HI.out.2.2.1 HI.out.2.2.2 rfl (by decide) u3 k (xcs out) rfl HO2.out ⟨w2.heap.size, 0, none⟩ 1 1 (EntX.cs ⟨⟨id', cls', born', slot', L', gone', H'⟩, A1, c1, B1, d1⟩) rfl rfl HMD.out (xcs_one1 _) (by decide) (by simp only [maxLen]; omega) (by omega) (by have := HB2.out.size; have := HC.out.bl.size; rw [asize]; omega) _ rfl ?_))
      intro g cap w4 hown4 hg4 hat4 hlt4
      have HCN := Lib.hid (Cpd.more (w := w) (t := (q :: s) ++ ot) (fun x hx => by
        rcases List.mem_cons.1 hx with rfl | hx
        · exact HQ.out.1.1
        rcases List.mem_append.1 hx with hx | hx
        · rcases List.mem_cons.1 hx with rfl | hx
          · exact HQ.out.1.1
          · exact HQ.out.1.2 x hx
        · exact HQ.out.2 x hx) HO.out.1 HO.out.2.1 HO.out.2.2 HC.out.bl HB2.out HN.out HBA.out.size HEK.out hown4 hg4 (by rw [asize]; exact hat4))
      clear hown4 hg4 hat4 hlt4
      go_wp2_with fail
      go_roundg m
      case measure => omega
      case rel => exact ⟨k + 1, by have := HKM.out; omega, by go_num, HCN.out⟩
end
end Go.Proofs.Ytojemaaljjibiaa
