/-
  Event's Read.
-/
import Derived.Test.YtihhgingdgepcaaEvS
import Derived.Test.YtihhgingdgepcaaEvC
import Derived.Test.YtihhgingdgepcaaEvLd
namespace Go.Proofs.Ytihhgingdgepcaa
open Go.RowKit
set_option linter.unusedVariables false

namespace Ev
theorem text_len (m : Int) (hm : 0 ≤ m) (st : R.St) : ((R.text m st).1.length : Int) ≤ m := by
  have h1 := num_le m hm st
  have h2 := R.next_len (R.num m st).1 (R.num m st).2
  show ((R.next (R.num m st).1 (R.num m st).2).1.length : Int) ≤ m
  omega
theorem textsK_short : ∀ (k : Nat) (m : Int) (hm : 0 ≤ m) (st : R.St) (acc : List (List UInt8)), (∀ x ∈ acc, (x.length : Int) ≤ m) → ∀ x ∈ (R.textsK k m st acc).1, (x.length : Int) ≤ m
  | 0, m, hm, st, acc, h => h
  | k + 1, m, hm, st, acc, h => by
    unfold R.textsK
    split
    · exact textsK_short k m hm _ _ (fun x hx => by
        rcases List.mem_append.1 hx with hx | hx
        · exact h x hx
        · rw [List.mem_singleton.1 hx]; exact text_len m hm st)
    · intro x hx; cases hx
theorem rS_short (st : R.St) : (rS st).1.n.length ≤ 16 ∧ (rS st).1.p.length ≤ 32 ∧ (rS st).1.c.length ≤ 224 := by
  have h1 := text_len 16 (by decide) st
  have h2 := text_len 32 (by decide) (R.text 16 st).2
  have h3 := text_len 224 (by decide) (R.flag (R.text 32 (R.text 16 st).2).2).2
  have e : rS st = if (R.flag (R.text 32 (R.text 16 st).2).2).1 = true then (⟨(R.text 16 st).1, (R.text 32 (R.text 16 st).2).1, [], true⟩, (R.flag (R.text 32 (R.text 16 st).2).2).2)
      else (⟨(R.text 16 st).1, (R.text 32 (R.text 16 st).2).1, (R.text 224 (R.flag (R.text 32 (R.text 16 st).2).2).2).1, false⟩, (R.text 224 (R.flag (R.text 32 (R.text 16 st).2).2).2).2) := rfl
  rw [e]
  split
  · dsimp only; exact ⟨by omega, by omega, Nat.zero_le _⟩
  · dsimp only; exact ⟨by omega, by omega, by omega⟩
theorem rSs_short : ∀ (k : Nat) (st : R.St) (acc : List Slp), (∀ x ∈ acc, x.n.length ≤ 16 ∧ x.p.length ≤ 32 ∧ x.c.length ≤ 224) → ∀ x ∈ (rSs k st acc).1, x.n.length ≤ 16 ∧ x.p.length ≤ 32 ∧ x.c.length ≤ 224
  | 0, st, acc, h => h
  | k + 1, st, acc, h => by
    unfold rSs
    exact rSs_short k _ _ (fun x hx => by
      rcases List.mem_append.1 hx with hx | hx
      · exact h x hx
      · rw [List.mem_singleton.1 hx]; exact rS_short st)
end Ev
theorem Ev.texts_short (many m : Int) (hm : 0 ≤ m) (st : R.St) : ∀ x ∈ (R.texts many m st).1, (x.length : Int) ≤ m := by
  unfold R.texts
  exact Ev.textsK_short _ m hm _ [] (fun y hy => by cases hy)
theorem rE_few (st : R.St) : EntFew (Ev.rE st).1 := by
  unfold Ev.rE
  dsimp only
  have h1 := Ev.text_len 24 (by decide) st
  generalize R.text 24 st = x1 at *
  generalize R.num 7 x1.2 = x2
  generalize R.num 1099511627776 x2.2 = x3
  generalize R.num 63 x3.2 = x4
  generalize R.flag x4.2 = x5
  have h2 := Ev.texts_short 4 16 (by decide) x5.2
  generalize R.texts 4 16 x5.2 = x6 at *
  generalize R.num 12 x6.2 = x7
  have h3 := Ev.rSs_short x7.1.toNat x7.2 [] (fun y hy => by cases hy)
  generalize Ev.rSs x7.1.toNat x7.2 [] = x8 at *
  exact ⟨by dsimp only; omega, fun x hx => by have := h2 x hx; omega, fun x hx => by have := (h3 x hx).1; omega, fun x hx => by have := (h3 x hx).2.1; omega, fun x hx => by have := (h3 x hx).2.2; omega⟩
theorem zero_few : EntFew Ent.zero := ⟨Nat.zero_le _, fun x hx => (by cases hx), fun x hx => (by cases hx), fun x hx => (by cases hx), fun x hx => (by cases hx)⟩
theorem rV_few (st : R.St) : EvtFew (Ev.rV st).1 := by
  unfold Ev.rV
  dsimp only
  split
  · exact ⟨rE_few _, Nat.zero_le _, Nat.zero_le _⟩
  split
  · exact ⟨zero_few, Nat.zero_le _, Nat.zero_le _⟩
  split
  · exact ⟨zero_few, Nat.zero_le _, Nat.zero_le _⟩
  split
  · exact ⟨zero_few, by have := Ev.text_len 16 (by decide) (R.num 63 (R.num 7 st).2).2; dsimp only; omega, Nat.zero_le _⟩
  split
  · exact ⟨zero_few, Nat.zero_le _, by have := Ev.text_len 32 (by decide) (R.num 64 (R.num 7 st).2).2; dsimp only; omega⟩
  split
  · exact ⟨zero_few, Nat.zero_le _, Nat.zero_le _⟩
  · exact ⟨zero_few, Nat.zero_le _, Nat.zero_le _⟩
theorem ret_evt2 {fn : Func} {p u : Tmp} {R : Ending → World → Prop} {a : Act} {w : World} (h : fn.results = #[.cell p 29, .tmp u]) (g : Nat) (cs : Array Value) (v : Value)
    (hp : a.tmps.getD p undef = .pointer (some ⟨g, 0, none⟩)) (hu : a.tmps.getD u undef = v) (hd : a.defers = []) (hh : Has w g 29 cs) (hcs : cs.size = 14) (hR : R (.returned (.tuple #[.agg cs, v])) w) : bodyPost Try.prog fn R .ret a w :=
  bodyPost_ret (v := .tuple #[.agg cs, v]) (by
    have h1 : (loadVar 29 ⟨g, 0, none⟩).run Try.prog w = .ok (.agg cs) w := run_loadVar_row w g 29 29 cs (0, 0) _ hh Try.underlying29 rfl (by rw [hcs]; exact evtSize)
    rw [results_cell_tmp h, hp, hu]
    simp [asAddr, h1, Result.andThen]) hd hR
namespace Ev
theorem rV_at {st st1 : R.St} {k : Int} (h : R.num 7 st = (k, st1)) : rV st =
    (if k = 1 then ({ Evt.zero with kind := 1, ent := (rE st1).1 }, (rE st1).2)
    else if k = 2 then ({ Evt.zero with kind := 2, seq := (R.num 63 st1).1, idx := (R.num 11 (R.num 63 st1).2).1 }, (R.num 11 (R.num 63 st1).2).2)
    else if k = 3 then ({ Evt.zero with kind := 3, seq := (R.num 63 st1).1 }, (R.num 63 st1).2)
    else if k = 4 ∨ k = 5 then ({ Evt.zero with kind := k, seq := (R.num 63 st1).1, name := (R.text 16 (R.num 63 st1).2).1 }, (R.text 16 (R.num 63 st1).2).2)
    else if k = 6 then ({ Evt.zero with kind := 6, size := (R.num 64 st1).1, root := (R.text 32 (R.num 64 st1).2).1 }, (R.text 32 (R.num 64 st1).2).2)
    else if k = 7 then ({ Evt.zero with kind := 7, now := (R.num 1099511627776 st1).1 }, (R.num 1099511627776 st1).2)
    else ({ Evt.zero with kind := k }, st1)) := by
  unfold rV
  rw [h]
end Ev
theorem EntIn.zero0 (w : World) (s : List Nat) : EntIn w s Ent.zero none 0 none 0 := ⟨RowC.nil _ _ _, RowC.nil _ _ _, Nat.le_refl _, Nat.zero_le _, Nat.le_refl _, Nat.zero_le _⟩
set_option maxRecDepth 100000 in
set_option maxHeartbeats 16000000 in
theorem readV_any (s : List UInt8) (hs : s.length ≤ 4000000000) (w : World) :
    Calls Try.prog 11 #[.string (S s)] w fun r w' => ∃ (A B : Option Addr) (ca cb : Nat), r = .returned (.tuple #[(Ev.readV s).1.val A ca B cb, .int .i64 (Ev.readV s).2]) ∧ EntIn w' [] (Ev.readV s).1.ent A ca B cb ∧ Below w.heap.size w w' := by
  have hRV : Ev.readV s = if (R.fin (Ev.rV (s, 0)).2).2 ≠ 0 then (Evt.zero, (R.fin (Ev.rV (s, 0)).2).2) else if Ev.right (Ev.rV (s, 0)).1 = true then ((Ev.rV (s, 0)).1, 0) else (Evt.zero, 4) := rfl
  have HFEW := Lib.hid (rV_few (s, 0))
  obtain ⟨⟨k, st1⟩, hk⟩ : ∃ x, R.num 7 (s, 0) = x := ⟨_, rfl⟩
  have hk7 := Ev.num_le 7 (by decide) (s, 0)
  have hr1 := R.num_rest 7 (s, 0)
  have H1 := Lib.hid (fun W g b hW => num_rd 7 g b (s, 0) W hW (by show s.length ≤ _; omega))
  rw [hk] at H1 hk7 hr1
  dsimp only at H1 hk7 hr1
  have hc1 : st1.1.length ≤ 4000000000 := by omega
  have HV := Lib.hid (Ev.rV_at hk)
  clear hk hr1
  obtain ⟨⟨x, st'⟩, hx⟩ : ∃ x, Ev.rV (s, 0) = x := ⟨_, rfl⟩
  rw [hx] at HV hRV HFEW
  clear hx
  dsimp only at hRV HFEW
  obtain ⟨⟨y, yc⟩, hy⟩ : ∃ x, Ev.readV s = x := ⟨_, rfl⟩
  rw [hy] at hRV ⊢
  clear hy
  have HRV := Lib.hid hRV
  clear hRV
  dsimp only
  have hb0 : Below w.heap.size w (w.alloc (.cells #[.int .i64 0, .string ⟨#[]⟩, .int .i64 0, .int .i64 0, .int .i64 0, .slice none 0 0, .bool false, .slice none 0 0, .int .i64 0, .int .i64 0, .string ⟨#[]⟩, .int .i64 0, .string ⟨#[]⟩, .int .i64 0] 29)) := (Below.refl _ w).alloc (Nat.le_refl _) _
  have hq0 := Has.made w 29 #[.int .i64 0, .string ⟨#[]⟩, .int .i64 0, .int .i64 0, .int .i64 0, .slice none 0 0, .bool false, .slice none 0 0, .int .i64 0, .int .i64 0, .string ⟨#[]⟩, .int .i64 0, .string ⟨#[]⟩, .int .i64 0]
  have hs0 : (w.alloc (.cells #[.int .i64 0, .string ⟨#[]⟩, .int .i64 0, .int .i64 0, .int .i64 0, .slice none 0 0, .bool false, .slice none 0 0, .int .i64 0, .int .i64 0, .string ⟨#[]⟩, .int .i64 0, .string ⟨#[]⟩, .int .i64 0] 29)).heap.size = w.heap.size + 1 := asize _ _
  go_enter Try.func11, Try.ntmps11
  go_upto_region 1 with fail
  generalize w.alloc (.cells #[.int .i64 0, .string ⟨#[]⟩, .int .i64 0, .int .i64 0, .int .i64 0, .slice none 0 0, .bool false, .slice none 0 0, .int .i64 0, .int .i64 0, .string ⟨#[]⟩, .int .i64 0, .string ⟨#[]⟩, .int .i64 0] 29) = W0 at hb0 hq0 hs0 ⊢
  obtain ⟨q, hq⟩ : ∃ q, w.heap.size = q := ⟨_, rfl⟩
  rw [hq] at hq0 hs0 ⊢
  have HQ0 := Lib.hid hq0
  have HWQ := Lib.hid hq
  have HB0 := Lib.hid hb0
  clear hq0 hq hb0
  go_wp2_with fail
  refine (octRead_any s W0).mono ?_
  rintro r w1 ⟨rfl, hr1, hb1, hs1⟩
  have HQ1 := Lib.hid (HQ0.out.below hb1 (by omega))
  have HB1 := Lib.hid (HB0.out.trans (hb1.mono HB0.out.size))
  have hqb : q < W0.heap.size := by omega
  clear hb1 HQ0 HB0
  obtain ⟨b, hb⟩ : ∃ b, W0.heap.size = b := ⟨_, rfl⟩
  rw [hb] at hr1 hs1 hqb ⊢
  clear hb hs0
  obtain ⟨g, hg⟩ : ∃ g, b + 1 = g := ⟨_, rfl⟩
  rw [hg] at hr1 ⊢
  have hbg : b < g := by omega
  have hg1 : g < w1.heap.size := by omega
  clear hg hs1
  go_wp2_with fail
  refine (H1.out _ _ _ hr1).mono ?_
  rintro r w2 ⟨rfl, hr2, ho2⟩
  have HQ2 := Lib.hid (ho2.has HQ1.out (by omega : q ≠ g))
  have HB2 := Lib.hid (ho2.below HB1.out HB1.out.size (by have := HWQ.out; omega))
  have hg2 : g < w2.heap.size := Nat.lt_of_lt_of_le hg1 ho2.size
  clear ho2 hr1 HQ1 HB1 hg1 H1
  go_upto_region 3 with fail
  have hb3 : Below w2.heap.size w2 (w2.alloc (.cells #[.int .i64 k, .string ⟨#[]⟩, .int .i64 0, .int .i64 0, .int .i64 0, .slice none 0 0, .bool false, .slice none 0 0, .int .i64 0, .int .i64 0, .string ⟨#[]⟩, .int .i64 0, .string ⟨#[]⟩, .int .i64 0] 29)) := (Below.refl _ w2).alloc (Nat.le_refl _) _
  have hr3 := hr2.below hb3 (Nat.le_refl _)
  have ht3 := Has.made w2 29 #[.int .i64 k, .string ⟨#[]⟩, .int .i64 0, .int .i64 0, .int .i64 0, .slice none 0 0, .bool false, .slice none 0 0, .int .i64 0, .int .i64 0, .string ⟨#[]⟩, .int .i64 0, .string ⟨#[]⟩, .int .i64 0]
  have hq3 := HQ2.out.below hb3 (by omega)
  have HB3 := Lib.hid (HB2.out.trans (hb3.mono HB2.out.size))
  have hs3 : w2.heap.size < (w2.alloc (.cells #[.int .i64 k, .string ⟨#[]⟩, .int .i64 0, .int .i64 0, .int .i64 0, .slice none 0 0, .bool false, .slice none 0 0, .int .i64 0, .int .i64 0, .string ⟨#[]⟩, .int .i64 0, .string ⟨#[]⟩, .int .i64 0] 29)).heap.size := by rw [asize]; omega
  clear hb3 hr2 HQ2 HB2
  generalize w2.alloc (.cells #[.int .i64 k, .string ⟨#[]⟩, .int .i64 0, .int .i64 0, .int .i64 0, .slice none 0 0, .bool false, .slice none 0 0, .int .i64 0, .int .i64 0, .string ⟨#[]⟩, .int .i64 0, .string ⟨#[]⟩, .int .i64 0] 29) = W3 at hr3 ht3 hq3 HB3 hs3 ⊢
  generalize w2.heap.size = t at ht3 hg2 hs3 ⊢
  have HT3 := Lib.hid ht3
  have HQ3 := Lib.hid hq3
  have y0 : W3.cell? ⟨t, 0, none⟩ = some (.int .i64 k) := ht3.cell 0
  clear ht3 hq3
  go_upto_block 0 with fail
  clear y0
  go_cut [] (fun W => ∃ (A B : Option Addr) (ca cb : Nat) (CS : Array Value), Hid (x.val A ca B cb = .agg CS ∧ CS.size = 14 ∧ CS.all (·.oneCell') = true ∧ Has W t 29 CS ∧ Has W q 29 #[.int .i64 0, .string ⟨#[]⟩, .int .i64 0, .int .i64 0, .int .i64 0, .slice none 0 0, .bool false, .slice none 0 0, .int .i64 0, .int .i64 0, .string ⟨#[]⟩, .int .i64 0, .string ⟨#[]⟩, .int .i64 0] ∧ EntIn W [q, g] x.ent A ca B cb ∧ Rd W g b st' ∧ Below w.heap.size w W))
  case first =>
    by_cases c1 : k = 1
    · subst c1
      have hx := HV.out
      rw [if_pos rfl] at hx
      have HRE := Lib.hid (rentry_any g b st1 W3 hr3 hc1 (by omega) [q, t, g] (by intro z hz; simp at hz; omega))
      generalize Ev.rE st1 = z at hx HRE
      obtain ⟨e, ste⟩ := z
      dsimp only at hx HRE
      injection hx with e1 e2
      subst e1
      subst e2
      clear HV HRV HFEW
      go_wp2_with fail
      refine HRE.out.mono ?_
      rintro r w4 ⟨A, B, ca, cb, rfl, hin4, hr4, ho4⟩
      have hO := ho4
      have HT := Lib.hid (hO.has HT3.out (by omega : t ≠ g))
      have HQ := Lib.hid (hO.has HQ3.out (by omega : q ≠ g))
      have HB := Lib.hid (hO.below HB3.out HB3.out.size (by have := HWQ.out; omega))
      clear HT3 HQ3 HB3
      have d1 : w4.cell? ⟨t, 1, none⟩ = some (.string ⟨#[]⟩) := HT.out.cell 1
      have f1 := HT.out.free 1
      have d2 : w4.cell? ⟨t, 2, none⟩ = some (.int .i64 0) := HT.out.cell 2
      have f2 := HT.out.free 2
      have d3 : w4.cell? ⟨t, 3, none⟩ = some (.int .i64 0) := HT.out.cell 3
      have f3 := HT.out.free 3
      have d4 : w4.cell? ⟨t, 4, none⟩ = some (.int .i64 0) := HT.out.cell 4
      have f4 := HT.out.free 4
      have d5 : w4.cell? ⟨t, 5, none⟩ = some (.slice none 0 0) := HT.out.cell 5
      have f5 := HT.out.free 5
      have d6 : w4.cell? ⟨t, 6, none⟩ = some (.bool false) := HT.out.cell 6
      have f6 := HT.out.free 6
      have d7 : w4.cell? ⟨t, 7, none⟩ = some (.slice none 0 0) := HT.out.cell 7
      have f7 := HT.out.free 7
      have hon : Only w4 (((((((w4.setCell ⟨t, 1, none⟩ (.string (S e.id))).setCell ⟨t, 2, none⟩ (.int .i64 e.cls)).setCell ⟨t, 3, none⟩ (.int .i64 e.born)).setCell ⟨t, 4, none⟩ (.int .i64 e.slot)).setCell ⟨t, 5, none⟩ (.slice A e.L.length ca)).setCell ⟨t, 6, none⟩ (.bool e.gone)).setCell ⟨t, 7, none⟩ (.slice B e.H.length cb)) t := (((((((Only.set w4 t 1 (.string (S e.id))).trans (Only.set _ t 2 (.int .i64 e.cls))).trans (Only.set _ t 3 (.int .i64 e.born))).trans (Only.set _ t 4 (.int .i64 e.slot))).trans (Only.set _ t 5 (.slice A e.L.length ca))).trans (Only.set _ t 6 (.bool e.gone))).trans (Only.set _ t 7 (.slice B e.H.length cb)))
      have HTN : Hid (Has (((((((w4.setCell ⟨t, 1, none⟩ (.string (S e.id))).setCell ⟨t, 2, none⟩ (.int .i64 e.cls)).setCell ⟨t, 3, none⟩ (.int .i64 e.born)).setCell ⟨t, 4, none⟩ (.int .i64 e.slot)).setCell ⟨t, 5, none⟩ (.slice A e.L.length ca)).setCell ⟨t, 6, none⟩ (.bool e.gone)).setCell ⟨t, 7, none⟩ (.slice B e.H.length cb)) t 29 #[.int .i64 1, .string (S e.id), .int .i64 e.cls, .int .i64 e.born, .int .i64 e.slot, .slice A e.L.length ca, .bool e.gone, .slice B e.H.length cb, .int .i64 0, .int .i64 0, .string ⟨#[]⟩, .int .i64 0, .string ⟨#[]⟩, .int .i64 0]) := Lib.hid (by simpa using (((((((HT.out.set 1 (.string (S e.id))).set 2 (.int .i64 e.cls)).set 3 (.int .i64 e.born)).set 4 (.int .i64 e.slot)).set 5 (.slice A e.L.length ca)).set 6 (.bool e.gone)).set 7 (.slice B e.H.length cb)))
      have HQN := Lib.hid (hon.has HQ.out (by omega : q ≠ t))
      have hrn := hr4.only hon (by omega) (by omega)
      have HBN := Lib.hid (hon.below HB.out HB.out.size (by have := HWQ.out; omega))
      have HIN := Lib.hid ((hin4.mv (Mv.of_only hon (s := [t]) (by simp)) (by simp)).sub (t := [q, g]) (by simp))
      clear hon hin4
      go_wp2_with fail
      go_meet
      exact ⟨A, B, ca, cb, #[.int .i64 1, .string (S e.id), .int .i64 e.cls, .int .i64 e.born, .int .i64 e.slot, .slice A e.L.length ca, .bool e.gone, .slice B e.H.length cb, .int .i64 0, .int .i64 0, .string ⟨#[]⟩, .int .i64 0, .string ⟨#[]⟩, .int .i64 0], Lib.hid ⟨rfl, rfl, by simp [Value.oneCell'], HTN.out, HQN.out, HIN.out, hrn, HBN.out⟩⟩
    have n1 : (k == 1) = false := by rw [beq_eq_false_iff_ne]; exact c1
    have HV1 : Hid _ := Lib.hid (HV.out.trans (if_neg c1))
    clear HV
    by_cases c2 : k = 2
    · have hx := HV1.out
      rw [if_pos c2] at hx
      have HC1 := Lib.hid (fun W hW => num_rd 63 g b st1 W hW (by omega))
      have hl1 := R.num_rest 63 st1
      generalize R.num 63 st1 = z1 at *
      obtain ⟨a1, sz1⟩ := z1
      dsimp only at *
      have HC2 := Lib.hid (fun W hW => num_rd 11 g b sz1 W hW (by omega))
      have hl2 := R.num_rest 11 sz1
      generalize R.num 11 sz1 = z2 at *
      obtain ⟨a2, sz2⟩ := z2
      dsimp only at *
      injection hx with e1 e2
      subst e1
      subst e2
      clear HV1 HRV HFEW
      subst c2
      go_wp2_with fail
      refine (HC1.out _ hr3).mono ?_
      rintro r w4 ⟨rfl, hr4, ho4⟩
      go_wp2_with fail
      refine (HC2.out _ hr4).mono ?_
      rintro r w5 ⟨rfl, hr5, ho5⟩
      have hO := (ho4.trans ho5)
      have HT := Lib.hid (hO.has HT3.out (by omega : t ≠ g))
      have HQ := Lib.hid (hO.has HQ3.out (by omega : q ≠ g))
      have HB := Lib.hid (hO.below HB3.out HB3.out.size (by have := HWQ.out; omega))
      clear HT3 HQ3 HB3
      have d8 : w5.cell? ⟨t, 8, none⟩ = some (.int .i64 0) := HT.out.cell 8
      have f8 := HT.out.free 8
      have d9 : w5.cell? ⟨t, 9, none⟩ = some (.int .i64 0) := HT.out.cell 9
      have f9 := HT.out.free 9
      have hon : Only w5 ((w5.setCell ⟨t, 8, none⟩ (.int .i64 a1)).setCell ⟨t, 9, none⟩ (.int .i64 a2)) t := ((Only.set w5 t 8 (.int .i64 a1)).trans (Only.set _ t 9 (.int .i64 a2)))
      have HTN : Hid (Has ((w5.setCell ⟨t, 8, none⟩ (.int .i64 a1)).setCell ⟨t, 9, none⟩ (.int .i64 a2)) t 29 #[.int .i64 2, .string ⟨#[]⟩, .int .i64 0, .int .i64 0, .int .i64 0, .slice none 0 0, .bool false, .slice none 0 0, .int .i64 a1, .int .i64 a2, .string ⟨#[]⟩, .int .i64 0, .string ⟨#[]⟩, .int .i64 0]) := Lib.hid (by simpa using ((HT.out.set 8 (.int .i64 a1)).set 9 (.int .i64 a2)))
      have HQN := Lib.hid (hon.has HQ.out (by omega : q ≠ t))
      have hrn := hr5.only hon (by omega) (by omega)
      have HBN := Lib.hid (hon.below HB.out HB.out.size (by have := HWQ.out; omega))
      clear hon
      go_wp2_with fail
      go_meet
      exact ⟨none, none, 0, 0, #[.int .i64 2, .string ⟨#[]⟩, .int .i64 0, .int .i64 0, .int .i64 0, .slice none 0 0, .bool false, .slice none 0 0, .int .i64 a1, .int .i64 a2, .string ⟨#[]⟩, .int .i64 0, .string ⟨#[]⟩, .int .i64 0], Lib.hid ⟨rfl, rfl, by simp [Value.oneCell'], HTN.out, HQN.out, EntIn.zero0 _ _, hrn, HBN.out⟩⟩
    have n2 : (k == 2) = false := by rw [beq_eq_false_iff_ne]; exact c2
    have HV2 : Hid _ := Lib.hid (HV1.out.trans (if_neg c2))
    clear HV1
    by_cases c3 : k = 3
    · have hx := HV2.out
      rw [if_pos c3] at hx
      have HC1 := Lib.hid (fun W hW => num_rd 63 g b st1 W hW (by omega))
      have hl1 := R.num_rest 63 st1
      generalize R.num 63 st1 = z1 at *
      obtain ⟨a1, sz1⟩ := z1
      dsimp only at *
      injection hx with e1 e2
      subst e1
      subst e2
      clear HV2 HRV HFEW
      subst c3
      go_wp2_with fail
      refine (HC1.out _ hr3).mono ?_
      rintro r w4 ⟨rfl, hr4, ho4⟩
      have hO := ho4
      have HT := Lib.hid (hO.has HT3.out (by omega : t ≠ g))
      have HQ := Lib.hid (hO.has HQ3.out (by omega : q ≠ g))
      have HB := Lib.hid (hO.below HB3.out HB3.out.size (by have := HWQ.out; omega))
      clear HT3 HQ3 HB3
      have d8 : w4.cell? ⟨t, 8, none⟩ = some (.int .i64 0) := HT.out.cell 8
      have f8 := HT.out.free 8
      have hon : Only w4 (w4.setCell ⟨t, 8, none⟩ (.int .i64 a1)) t := (Only.set w4 t 8 (.int .i64 a1))
      have HTN : Hid (Has (w4.setCell ⟨t, 8, none⟩ (.int .i64 a1)) t 29 #[.int .i64 3, .string ⟨#[]⟩, .int .i64 0, .int .i64 0, .int .i64 0, .slice none 0 0, .bool false, .slice none 0 0, .int .i64 a1, .int .i64 0, .string ⟨#[]⟩, .int .i64 0, .string ⟨#[]⟩, .int .i64 0]) := Lib.hid (by simpa using (HT.out.set 8 (.int .i64 a1)))
      have HQN := Lib.hid (hon.has HQ.out (by omega : q ≠ t))
      have hrn := hr4.only hon (by omega) (by omega)
      have HBN := Lib.hid (hon.below HB.out HB.out.size (by have := HWQ.out; omega))
      clear hon
      go_wp2_with fail
      go_meet
      exact ⟨none, none, 0, 0, #[.int .i64 3, .string ⟨#[]⟩, .int .i64 0, .int .i64 0, .int .i64 0, .slice none 0 0, .bool false, .slice none 0 0, .int .i64 a1, .int .i64 0, .string ⟨#[]⟩, .int .i64 0, .string ⟨#[]⟩, .int .i64 0], Lib.hid ⟨rfl, rfl, by simp [Value.oneCell'], HTN.out, HQN.out, EntIn.zero0 _ _, hrn, HBN.out⟩⟩
    have n3 : (k == 3) = false := by rw [beq_eq_false_iff_ne]; exact c3
    have HV3 : Hid _ := Lib.hid (HV2.out.trans (if_neg c3))
    clear HV2
    by_cases c4 : k = 4 ∨ k = 5
    · have hx := HV3.out
      rw [if_pos c4] at hx
      have HC1 := Lib.hid (fun W hW => num_rd 63 g b st1 W hW (by omega))
      have hl1 := R.num_rest 63 st1
      generalize R.num 63 st1 = z1 at *
      obtain ⟨a1, sz1⟩ := z1
      dsimp only at *
      have HC2 := Lib.hid (fun W hW => text_rd 16 g b sz1 W hW (by omega))
      skip
      generalize R.text 16 sz1 = z2 at *
      obtain ⟨a2, sz2⟩ := z2
      dsimp only at *
      injection hx with e1 e2
      subst e1
      subst e2
      clear HV3 HRV HFEW
      rcases c4 with rfl | rfl
      · go_wp2_with fail
        refine (HC1.out _ hr3).mono ?_
        rintro r w4 ⟨rfl, hr4, ho4⟩
        go_wp2_with fail
        refine (HC2.out _ hr4).mono ?_
        rintro r w5 ⟨rfl, hr5, ho5⟩
        have hO := (ho4.trans ho5)
        have HT := Lib.hid (hO.has HT3.out (by omega : t ≠ g))
        have HQ := Lib.hid (hO.has HQ3.out (by omega : q ≠ g))
        have HB := Lib.hid (hO.below HB3.out HB3.out.size (by have := HWQ.out; omega))
        clear HT3 HQ3 HB3
        have d8 : w5.cell? ⟨t, 8, none⟩ = some (.int .i64 0) := HT.out.cell 8
        have f8 := HT.out.free 8
        have d10 : w5.cell? ⟨t, 10, none⟩ = some (.string ⟨#[]⟩) := HT.out.cell 10
        have f10 := HT.out.free 10
        have hon : Only w5 ((w5.setCell ⟨t, 8, none⟩ (.int .i64 a1)).setCell ⟨t, 10, none⟩ (.string (S a2))) t := ((Only.set w5 t 8 (.int .i64 a1)).trans (Only.set _ t 10 (.string (S a2))))
        have HTN : Hid (Has ((w5.setCell ⟨t, 8, none⟩ (.int .i64 a1)).setCell ⟨t, 10, none⟩ (.string (S a2))) t 29 #[.int .i64 4, .string ⟨#[]⟩, .int .i64 0, .int .i64 0, .int .i64 0, .slice none 0 0, .bool false, .slice none 0 0, .int .i64 a1, .int .i64 0, .string (S a2), .int .i64 0, .string ⟨#[]⟩, .int .i64 0]) := Lib.hid (by simpa using ((HT.out.set 8 (.int .i64 a1)).set 10 (.string (S a2))))
        have HQN := Lib.hid (hon.has HQ.out (by omega : q ≠ t))
        have hrn := hr5.only hon (by omega) (by omega)
        have HBN := Lib.hid (hon.below HB.out HB.out.size (by have := HWQ.out; omega))
        clear hon
        go_wp2_with fail
        go_meet
        exact ⟨none, none, 0, 0, #[.int .i64 4, .string ⟨#[]⟩, .int .i64 0, .int .i64 0, .int .i64 0, .slice none 0 0, .bool false, .slice none 0 0, .int .i64 a1, .int .i64 0, .string (S a2), .int .i64 0, .string ⟨#[]⟩, .int .i64 0], Lib.hid ⟨rfl, rfl, by simp [Value.oneCell'], HTN.out, HQN.out, EntIn.zero0 _ _, hrn, HBN.out⟩⟩
      · go_wp2_with fail
        refine (HC1.out _ hr3).mono ?_
        rintro r w4 ⟨rfl, hr4, ho4⟩
        go_wp2_with fail
        refine (HC2.out _ hr4).mono ?_
        rintro r w5 ⟨rfl, hr5, ho5⟩
        have hO := (ho4.trans ho5)
        have HT := Lib.hid (hO.has HT3.out (by omega : t ≠ g))
        have HQ := Lib.hid (hO.has HQ3.out (by omega : q ≠ g))
        have HB := Lib.hid (hO.below HB3.out HB3.out.size (by have := HWQ.out; omega))
        clear HT3 HQ3 HB3
        have d8 : w5.cell? ⟨t, 8, none⟩ = some (.int .i64 0) := HT.out.cell 8
        have f8 := HT.out.free 8
        have d10 : w5.cell? ⟨t, 10, none⟩ = some (.string ⟨#[]⟩) := HT.out.cell 10
        have f10 := HT.out.free 10
        have hon : Only w5 ((w5.setCell ⟨t, 8, none⟩ (.int .i64 a1)).setCell ⟨t, 10, none⟩ (.string (S a2))) t := ((Only.set w5 t 8 (.int .i64 a1)).trans (Only.set _ t 10 (.string (S a2))))
        have HTN : Hid (Has ((w5.setCell ⟨t, 8, none⟩ (.int .i64 a1)).setCell ⟨t, 10, none⟩ (.string (S a2))) t 29 #[.int .i64 5, .string ⟨#[]⟩, .int .i64 0, .int .i64 0, .int .i64 0, .slice none 0 0, .bool false, .slice none 0 0, .int .i64 a1, .int .i64 0, .string (S a2), .int .i64 0, .string ⟨#[]⟩, .int .i64 0]) := Lib.hid (by simpa using ((HT.out.set 8 (.int .i64 a1)).set 10 (.string (S a2))))
        have HQN := Lib.hid (hon.has HQ.out (by omega : q ≠ t))
        have hrn := hr5.only hon (by omega) (by omega)
        have HBN := Lib.hid (hon.below HB.out HB.out.size (by have := HWQ.out; omega))
        clear hon
        go_wp2_with fail
        go_meet
        exact ⟨none, none, 0, 0, #[.int .i64 5, .string ⟨#[]⟩, .int .i64 0, .int .i64 0, .int .i64 0, .slice none 0 0, .bool false, .slice none 0 0, .int .i64 a1, .int .i64 0, .string (S a2), .int .i64 0, .string ⟨#[]⟩, .int .i64 0], Lib.hid ⟨rfl, rfl, by simp [Value.oneCell'], HTN.out, HQN.out, EntIn.zero0 _ _, hrn, HBN.out⟩⟩
    have n4 : (k == 4) = false := by rw [beq_eq_false_iff_ne]; exact fun e => c4 (Or.inl e)
    have n5 : (k == 5) = false := by rw [beq_eq_false_iff_ne]; exact fun e => c4 (Or.inr e)
    have HV4 : Hid _ := Lib.hid (HV3.out.trans (if_neg c4))
    clear HV3
    by_cases c6 : k = 6
    · have hx := HV4.out
      rw [if_pos c6] at hx
      have HC1 := Lib.hid (fun W hW => num_rd 64 g b st1 W hW (by omega))
      have hl1 := R.num_rest 64 st1
      generalize R.num 64 st1 = z1 at *
      obtain ⟨a1, sz1⟩ := z1
      dsimp only at *
      have HC2 := Lib.hid (fun W hW => text_rd 32 g b sz1 W hW (by omega))
      skip
      generalize R.text 32 sz1 = z2 at *
      obtain ⟨a2, sz2⟩ := z2
      dsimp only at *
      injection hx with e1 e2
      subst e1
      subst e2
      clear HV4 HRV HFEW
      subst c6
      go_wp2_with fail
      refine (HC1.out _ hr3).mono ?_
      rintro r w4 ⟨rfl, hr4, ho4⟩
      go_wp2_with fail
      refine (HC2.out _ hr4).mono ?_
      rintro r w5 ⟨rfl, hr5, ho5⟩
      have hO := (ho4.trans ho5)
      have HT := Lib.hid (hO.has HT3.out (by omega : t ≠ g))
      have HQ := Lib.hid (hO.has HQ3.out (by omega : q ≠ g))
      have HB := Lib.hid (hO.below HB3.out HB3.out.size (by have := HWQ.out; omega))
      clear HT3 HQ3 HB3
      have d11 : w5.cell? ⟨t, 11, none⟩ = some (.int .i64 0) := HT.out.cell 11
      have f11 := HT.out.free 11
      have d12 : w5.cell? ⟨t, 12, none⟩ = some (.string ⟨#[]⟩) := HT.out.cell 12
      have f12 := HT.out.free 12
      have hon : Only w5 ((w5.setCell ⟨t, 11, none⟩ (.int .i64 a1)).setCell ⟨t, 12, none⟩ (.string (S a2))) t := ((Only.set w5 t 11 (.int .i64 a1)).trans (Only.set _ t 12 (.string (S a2))))
      have HTN : Hid (Has ((w5.setCell ⟨t, 11, none⟩ (.int .i64 a1)).setCell ⟨t, 12, none⟩ (.string (S a2))) t 29 #[.int .i64 6, .string ⟨#[]⟩, .int .i64 0, .int .i64 0, .int .i64 0, .slice none 0 0, .bool false, .slice none 0 0, .int .i64 0, .int .i64 0, .string ⟨#[]⟩, .int .i64 a1, .string (S a2), .int .i64 0]) := Lib.hid (by simpa using ((HT.out.set 11 (.int .i64 a1)).set 12 (.string (S a2))))
      have HQN := Lib.hid (hon.has HQ.out (by omega : q ≠ t))
      have hrn := hr5.only hon (by omega) (by omega)
      have HBN := Lib.hid (hon.below HB.out HB.out.size (by have := HWQ.out; omega))
      clear hon
      go_wp2_with fail
      go_meet
      exact ⟨none, none, 0, 0, #[.int .i64 6, .string ⟨#[]⟩, .int .i64 0, .int .i64 0, .int .i64 0, .slice none 0 0, .bool false, .slice none 0 0, .int .i64 0, .int .i64 0, .string ⟨#[]⟩, .int .i64 a1, .string (S a2), .int .i64 0], Lib.hid ⟨rfl, rfl, by simp [Value.oneCell'], HTN.out, HQN.out, EntIn.zero0 _ _, hrn, HBN.out⟩⟩
    have n6 : (k == 6) = false := by rw [beq_eq_false_iff_ne]; exact c6
    have HV6 : Hid _ := Lib.hid (HV4.out.trans (if_neg c6))
    clear HV4
    by_cases c7 : k = 7
    · have hx := HV6.out
      rw [if_pos c7] at hx
      have HC1 := Lib.hid (fun W hW => num_rd 1099511627776 g b st1 W hW (by omega))
      have hl1 := R.num_rest 1099511627776 st1
      generalize R.num 1099511627776 st1 = z1 at *
      obtain ⟨a1, sz1⟩ := z1
      dsimp only at *
      injection hx with e1 e2
      subst e1
      subst e2
      clear HV6 HRV HFEW
      subst c7
      go_wp2_with fail
      refine (HC1.out _ hr3).mono ?_
      rintro r w4 ⟨rfl, hr4, ho4⟩
      have hO := ho4
      have HT := Lib.hid (hO.has HT3.out (by omega : t ≠ g))
      have HQ := Lib.hid (hO.has HQ3.out (by omega : q ≠ g))
      have HB := Lib.hid (hO.below HB3.out HB3.out.size (by have := HWQ.out; omega))
      clear HT3 HQ3 HB3
      have d13 : w4.cell? ⟨t, 13, none⟩ = some (.int .i64 0) := HT.out.cell 13
      have f13 := HT.out.free 13
      have hon : Only w4 (w4.setCell ⟨t, 13, none⟩ (.int .i64 a1)) t := (Only.set w4 t 13 (.int .i64 a1))
      have HTN : Hid (Has (w4.setCell ⟨t, 13, none⟩ (.int .i64 a1)) t 29 #[.int .i64 7, .string ⟨#[]⟩, .int .i64 0, .int .i64 0, .int .i64 0, .slice none 0 0, .bool false, .slice none 0 0, .int .i64 0, .int .i64 0, .string ⟨#[]⟩, .int .i64 0, .string ⟨#[]⟩, .int .i64 a1]) := Lib.hid (by simpa using (HT.out.set 13 (.int .i64 a1)))
      have HQN := Lib.hid (hon.has HQ.out (by omega : q ≠ t))
      have hrn := hr4.only hon (by omega) (by omega)
      have HBN := Lib.hid (hon.below HB.out HB.out.size (by have := HWQ.out; omega))
      clear hon
      go_wp2_with fail
      go_meet
      exact ⟨none, none, 0, 0, #[.int .i64 7, .string ⟨#[]⟩, .int .i64 0, .int .i64 0, .int .i64 0, .slice none 0 0, .bool false, .slice none 0 0, .int .i64 0, .int .i64 0, .string ⟨#[]⟩, .int .i64 0, .string ⟨#[]⟩, .int .i64 a1], Lib.hid ⟨rfl, rfl, by simp [Value.oneCell'], HTN.out, HQN.out, EntIn.zero0 _ _, hrn, HBN.out⟩⟩
    have n7 : (k == 7) = false := by rw [beq_eq_false_iff_ne]; exact c7
    have HV7 : Hid _ := Lib.hid (HV6.out.trans (if_neg c7))
    clear HV6
    have hx := HV7.out
    injection hx with e1 e2
    subst e1
    subst e2
    clear HV7 HRV HFEW c1 c2 c3 c4 c6 c7
    have HTN := HT3
    have HQN := HQ3
    have hrn := hr3
    have HBN := HB3
    go_wp2_with fail
    go_meet
    exact ⟨none, none, 0, 0, #[.int .i64 k, .string ⟨#[]⟩, .int .i64 0, .int .i64 0, .int .i64 0, .slice none 0 0, .bool false, .slice none 0 0, .int .i64 0, .int .i64 0, .string ⟨#[]⟩, .int .i64 0, .string ⟨#[]⟩, .int .i64 0], Lib.hid ⟨rfl, rfl, by simp [Value.oneCell'], HTN.out, HQN.out, EntIn.zero0 _ _, hrn, HBN.out⟩⟩
  case rest =>
    obtain ⟨A, B, ca, cb, CS, hc⟩ := hcut
    obtain ⟨hCS, hsz, hone, hT, hQ, hin, hrd, hbl⟩ := hc.out
    have HND := Lib.hid (end_rd g b st' wc hrd)
    have HT := Lib.hid hT
    have HQ := Lib.hid hQ
    have HB := Lib.hid hbl
    have HIN := Lib.hid hin
    have HCS := Lib.hid (And.intro hCS (And.intro hsz hone))
    clear hc hCS hsz hone hT hQ hin hrd hbl HT3 HQ3 HB3 hr3 HV
    generalize R.fin st' = z at HRV HND
    obtain ⟨zl, ze⟩ := z
    dsimp only at HRV HND
    go_wp2_with fail
    refine HND.out.mono ?_
    rintro r w5 ⟨rfl, -, ho5⟩
    have HT5 := Lib.hid (ho5.has HT.out (by omega : t ≠ g))
    have HQ5 := Lib.hid (ho5.has HQ.out (by omega : q ≠ g))
    have HB5 := Lib.hid (ho5.below HB.out HB.out.size (by have := HWQ.out; omega))
    have hin5 : EntIn w5 [q] x.ent A ca B cb := (HIN.out.mv (Mv.of_only ho5 (s := [g]) (by simp)) (by simp)).sub (t := [q]) (by simp)
    have HR5 := Lib.hid (rightV_any (w := w5) (v := x) (hin5.sub (t := []) (by simp)) HFEW.out)
    rw [HCS.out.1] at HR5
    have HIN5 := Lib.hid hin5
    clear hin5 ho5 HT HQ HB HIN HND HFEW
    by_cases hze : ze = 0
    · subst hze
      have hrv := HRV.out
      rw [if_neg (by decide)] at hrv
      generalize Ev.right x = rr at hrv HR5
      have HY := Lib.hid hrv
      clear hrv HRV
      go_wp2_with (refine wpList_evLoad (by rfl) (.tmp 5) rfl t CS ?e1 HT5.out HCS.out.2.1 ?_; (case e1 => rfl))
      refine HR5.out.mono ?_
      rintro r w6 ⟨rfl, hb6⟩
      have HT6 := Lib.hid (HT5.out.below hb6 HT5.out.lt)
      have HQ6 := Lib.hid (HQ5.out.below hb6 HQ5.out.lt)
      have HB6 := Lib.hid (HB5.out.trans (hb6.mono HB5.out.size))
      have HIN6 := Lib.hid (HIN5.out.below hb6)
      clear hb6 HT5 HQ5 HB5 HIN5 HR5
      cases rr with
      | false =>
        have hy := HY.out
        rw [if_neg (by decide)] at hy
        injection hy with a1 a2
        subst a1
        subst a2
        go_wp2_with (refine wpList_store_row rfl 29 (.tmp 2) (.tmp 63) rfl q #[.int .i64 0, .string ⟨#[]⟩, .int .i64 0, .int .i64 0, .int .i64 0, .slice none 0 0, .bool false, .slice none 0 0, .int .i64 0, .int .i64 0, .string ⟨#[]⟩, .int .i64 0, .string ⟨#[]⟩, .int .i64 0] ?e2 ?e3 _ _ HQ6.out evtSize rfl (by simp [Value.oneCell']) ?_; (case e2 => rfl); (case e3 => rfl))
        refine ret_evt2 (p := 2) (u := 3) rfl q #[.int .i64 0, .string ⟨#[]⟩, .int .i64 0, .int .i64 0, .int .i64 0, .slice none 0 0, .bool false, .slice none 0 0, .int .i64 0, .int .i64 0, .string ⟨#[]⟩, .int .i64 0, .string ⟨#[]⟩, .int .i64 0] (.int .i64 4) rfl rfl rfl (setRow_heap _ _ _ _ _ _ HQ6.out) rfl ⟨none, none, 0, 0, rfl, EntIn.zero0 _ _, below_setRow HB6.out (by have := HWQ.out; omega) _⟩
      | true =>
        have hy := HY.out
        rw [if_pos (by rfl)] at hy
        injection hy with a1 a2
        subst a1
        subst a2
        go_upto_region 22 with fail
        refine wp_region_lit ?_
        refine wpList_evLoad (by rfl) (.tmp 5) rfl t CS ?e1 HT6.out HCS.out.2.1 ?_
        case e1 => rfl
        refine wpList_store_row rfl 29 (.tmp 2) (.tmp 64) rfl q CS ?e2 ?e3 _ _ HQ6.out (by rw [HCS.out.2.1]; exact evtSize) (by rw [HCS.out.2.1]; rfl) HCS.out.2.2 ?_
        case e2 => rfl
        case e3 => rfl
        go_wp2_with fail
        refine ret_evt2 (p := 2) (u := 3) rfl q CS (.int .i64 0) rfl rfl rfl (setRow_heap _ _ _ _ _ _ HQ6.out) HCS.out.2.1 ⟨A, B, ca, cb, by rw [HCS.out.1], (HIN6.out.mv (Mv.of_only (evOnlyRow _ _ _) (s := [q]) (by simp)) (fun z hz => hz)).sub (t := []) (by simp), below_setRow HB6.out (by have := HWQ.out; omega) _⟩
    · have hzb : (ze != 0) = true := by rw [bne_iff_ne]; exact hze
      have hy := HRV.out
      rw [if_pos hze] at hy
      injection hy with a1 a2
      subst a1
      subst a2
      clear HRV hze
      go_wp2_with (refine wpList_store_row rfl 29 (.tmp 2) (.tmp 58) rfl q #[.int .i64 0, .string ⟨#[]⟩, .int .i64 0, .int .i64 0, .int .i64 0, .slice none 0 0, .bool false, .slice none 0 0, .int .i64 0, .int .i64 0, .string ⟨#[]⟩, .int .i64 0, .string ⟨#[]⟩, .int .i64 0] ?e2 ?e3 _ _ HQ5.out evtSize rfl (by simp [Value.oneCell']) ?_; (case e2 => rfl); (case e3 => rfl))
      refine ret_evt2 (p := 2) (u := 3) rfl q #[.int .i64 0, .string ⟨#[]⟩, .int .i64 0, .int .i64 0, .int .i64 0, .slice none 0 0, .bool false, .slice none 0 0, .int .i64 0, .int .i64 0, .string ⟨#[]⟩, .int .i64 0, .string ⟨#[]⟩, .int .i64 0] _ rfl rfl rfl (setRow_heap _ _ _ _ _ _ HQ5.out) rfl ⟨none, none, 0, 0, rfl, EntIn.zero0 _ _, below_setRow HB5.out (by have := HWQ.out; omega) _⟩
end Go.Proofs.Ytihhgingdgepcaa
