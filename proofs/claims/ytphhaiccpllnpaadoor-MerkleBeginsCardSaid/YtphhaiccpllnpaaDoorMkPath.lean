/-
  What a call on a mill leaves that answers a row of texts; the contracts of the program's path and of the seventh layer's statements' own Path.
-/
import Derived.Test.YtphhaiccpllnpaaDoorMkRootL
import Derived.Laws.AppendOwn
import Derived.OwnWalk
namespace Go.Proofs.YtphhaiccpllnpaaDoor
open Go.RowKit
set_option linter.unusedVariables false

theorem mkinfo : (Tryd.prog.info? 9).map (fun i => (i.zero, i.size, i.bytes)) = some (some (.string ⟨#[]⟩), 1, 16) := by kernel_rfl
/-- Texts as values. -/
def tvs (L : List (List UInt8)) : List Value := L.map fun s => .string (S s)
theorem tvs_snoc (L : List (List UInt8)) (x : List UInt8) : tvs L ++ [.string (S x)] = tvs (L ++ [x]) := by simp [tvs]
theorem own_mv {w w' : World} {B e s n : Nat} {v : Value} {xs : List Value} {t : List Nat} (h : w.ownsRow B e s v n xs) (hm : Mv w w' t) (ht : ∀ x ∈ t, x < B) : w'.ownsRow B e s v n xs := by
  refine ⟨h.1, ?_⟩
  rcases h.2 with hn | ⟨g, cap, cur, rfl, hb, hgg, rest⟩
  · exact .inl hn
  · exact .inr ⟨g, cap, cur, rfl, hb, (hm.block g (Array.getElem?_eq_some_iff.1 hgg).1 (fun hx => by have := ht g hx; omega)).trans hgg, rest⟩
theorem own_low {w : World} {B B' e s n : Nat} {v : Value} {xs : List Value} (h : w.ownsRow B e s v n xs) (hb : B' ≤ B) : w.ownsRow B' e s v n xs := by
  refine ⟨h.1, ?_⟩
  rcases h.2 with hn | ⟨g, cap, cur, rfl, hg, rest⟩
  · exact .inl hn
  · exact .inr ⟨g, cap, cur, rfl, Nat.le_trans hb hg, rest⟩
theorem Mv.of_grown {w w' : World} {row : Option Nat} (h : w.grownBy w' row) {s : List Nat} (hs : ∀ k, row = some k → k ∈ s) : Mv w w' s :=
  ⟨h.os, h.tape, h.output, h.size, fun i hi hn => h.block i hi (fun e => hn (hs i e.symm))⟩
theorem Mv.own {w w3 w5 : World} {s : List Nat} {row : Option Nat} (h : Mv w w3 s) (hg : w3.grownBy w5 row) (hr : ∀ k, row = some k → w.heap.size ≤ k) : Mv w w5 s :=
  ⟨hg.os.trans h.os, hg.tape.trans h.tape, hg.output.trans h.output, Nat.le_trans h.size hg.size, fun i hi hn => (hg.block i (Nat.lt_of_lt_of_le hi h.size) (fun e => by have := hr i e.symm; omega)).trans (h.block i hi hn)⟩
theorem grown_alloc {w w' : World} {row : Option Nat} (o : Obj) (h : (w.alloc o).grownBy w' row) : w.grownBy w' row :=
  ⟨h.os, h.tape, h.output, Nat.le_trans (by simp) h.size, fun i hi hn => (h.block i (by simp; omega) hn).trans (Below.heap_alloc w o i hi)⟩
/-- A mill beside a row of the call's own that grows. -/
theorem MkW.own {w w3 w5 : World} {g nb : Nat} {tv : Option Nat} {l : List Mill.En} {st0 st : Mill.St} {row : Option Nat} (h0 : MkW w g nb tv l st0) (h : MkW w3 g nb tv l st) (hg : w3.grownBy w5 row) (hr : ∀ k, row = some k → w.heap.size ≤ k) : MkW w5 g nb tv l st := by
  have hm : Mv w3 w5 row.toList := Mv.of_grown hg (fun k e => by rw [e]; simp)
  have h1 := h0.m.lt
  have hx : ∀ x ∈ row.toList, w.heap.size ≤ x := fun x hx => hr x (by simpa using hx)
  have h2 := h0.t.2.2
  refine ⟨h.m.mv hm (fun e => by have := hx g e; omega) (fun e => by have := hx nb e; omega) (fun b hb e => ?_), hm.tabs h.t (fun x e => Nat.le_trans h2 (hx x e)), h.g2, h.n2⟩
  subst hb
  have := h0.m.2.1.lt
  have := hx b e
  omega
/-- What a call on a mill leaves that answers a new row of texts. -/
def RowPost (w : World) (g nb : Nat) (tv : Option Nat) (l : List Mill.En) (st : Mill.St) (R : List (List UInt8)) (bnd : Nat) (e : Ending) (w' : World) : Prop :=
  ∃ (v : Value) (ts : List (List UInt8)), e = .returned v ∧ w'.ownsRow w.heap.size 9 1 v R.length (tvs R) ∧ ts.length ≤ bnd ∧ MkW w' g nb tv l (Mill.steps l ts st) ∧ Mv w w' [g, nb]
/-- A row of the call's own, read. -/
theorem own_row {w : World} {B n : Nat} {v : Value} {R : List (List UInt8)} (h : w.ownsRow B 9 1 v n (tvs R)) (hn : R.length = n) : ∃ A cap, v = .slice A n cap ∧ n ≤ cap ∧ cap ≤ maxLen ∧ (n = 0 → A = none ∧ cap = 0 ∨ True) ∧
    (R ≠ [] → ∃ b, A = some ⟨b, 0, none⟩ ∧ b < w.heap.size ∧ B ≤ b ∧ TRow w b 0 R) := by
  rcases h.2 with ⟨rfl, rfl⟩ | ⟨b, cap, cur, rfl, hb, hgg, hc, hcm, _⟩
  · exact ⟨none, 0, rfl, Nat.le_refl _, Nat.zero_le _, (fun _ => Or.inr trivial), fun hr => absurd (List.length_eq_zero_iff.mp hn) hr⟩
  · refine ⟨some ⟨b, 0, none⟩, cap, rfl, hc, hcm, (fun _ => Or.inr trivial), fun hr => ⟨b, rfl, (Array.getElem?_eq_some_iff.1 hgg).1, hb, fun i hi => ?_⟩⟩
    have := h.cells (g := b) rfl i (.string (S (R[i]'hi))) (by unfold tvs; rw [List.getElem?_map, List.getElem?_eq_getElem hi]; rfl)
    have hadd : (⟨b, 0, none⟩ : Addr).add i = ⟨b, 0 + i, none⟩ := by unfold Addr.add; split <;> simp_all
    rw [← hadd]
    exact this

theorem made_one (w : World) (x : List UInt8) : ∀ (j : Nat) (u : Value), [Value.string (S x)][j]? = some u → (w.alloc (.cells #[.string (S x)] 9)).cell? ((⟨w.heap.size, 0, none⟩ : Addr).add j) = some u := by
  intro j u hu
  cases j with
  | zero => rw [show (⟨w.heap.size, 0, none⟩ : Addr).add 0 = ⟨w.heap.size, 0, none⟩ from rfl, World.cell?_alloc_at _ _ _ _ rfl]; simpa using hu
  | succ j => simp at hu

section
variable (g nb : Nat) (tv : Option Nat) (l : List Mill.En)

set_option maxRecDepth 100000 in
set_option maxHeartbeats 4000000 in
theorem path_any (hr : Mill.right l = true) (b : Nat) (hbs : b ∉ [g, nb]) : ∀ (n : Nat) (L : List (List UInt8)) (i off cap : Nat) (st : Mill.St) (w : World), L.length = n → 1 ≤ n → n ≤ 65536 → i < n → n ≤ cap → cap ≤ 9223372036854775807 →
    TRow w b off L → b < w.heap.size → (∀ s, s ∈ L → s.length ≤ 1000000) → st.sums + 4 * n ≤ 4000000000000000000 → MkW w g nb tv l st →
    Calls Tryd.prog 43 #[.pointer (some ⟨g, 0, none⟩), .int .i64 (i : Int), .slice (some ⟨b, off, none⟩) n cap] w (RowPost w g nb tv l st (Mk.path l L i) (2 * n)) := by
  obtain ⟨i0, hi0, hz0, hz1, hz2⟩ := info_parts mkinfo
  have HIN := Lib.hid (And.intro hi0 (And.intro hz0 (And.intro hz1 hz2))); clear hi0 hz0 hz1 hz2
  intro n
  induction n using Nat.strongRecOn with
  | ind n ih =>
    intro L i off cap st w hn h1 hn6 hi hcap hcm hrow hb hs hsum hm
    by_cases h2 : 2 ≤ n
    · have hlt := Mk.below_lt h2
      have hpos := Mk.below_pos n
      have hB := fun W => halves_any b off cap n W h2 hn6 hcap hcm
      have hl1 : (L.take (Mk.below n)).length = Mk.below n := by rw [List.length_take]; omega
      have hl2 : (L.drop (Mk.below n)).length = n - Mk.below n := by rw [List.length_drop]; omega
      have hb1 : ((n : Int) == 1) = false := by simpa using (show ¬ (n : Int) = 1 by omega)
      by_cases hik : i < Mk.below n
      · rw [Mk.path_left l L i (by omega) (by rw [hn]; exact hik), hn]
        have hI := fun w1 (hv : Mv w w1 [g, nb]) hm1 => ih (Mk.below n) hlt (L.take (Mk.below n)) i off (Mk.below n) st w1 hl1 hpos (by omega) hik (Nat.le_refl _) (by omega) ((hrow.mv hv hb hbs).take _) (Nat.lt_of_lt_of_le hb hv.size) (fun s hx => hs s (List.mem_of_mem_take hx)) (by omega) hm1
        have hRT := fun st' w2 (hv : Mv w w2 [g, nb]) (hm2 : MkW w2 g nb tv l st') (hst : st'.sums ≤ st.sums + 2 * Mk.below n) => root_any g nb tv l hr (some ⟨b, off + Mk.below n, none⟩) (L.drop (Mk.below n)) (n - Mk.below n) st' w2 (by rw [hl2]; omega) (by rw [hl2]; omega) (by omega) (RowS.of (Nat.lt_of_lt_of_le hb hv.size) hbs ((hrow.mv hv hb hbs).drop _)) (fun s hx => hs s (List.mem_of_mem_drop hx)) (by rw [hl2]; omega) hm2
        have hal := (Mk.rootAsks_len l _ (L.drop (Mk.below n)) hl2).2 (by omega)
        have hpl := Mk.path_len l _ (L.take (Mk.below n)) i hl1
        have hdp := Mk.depth_le 16 (Mk.below n) i (by omega) hik
        rw [← hpl] at hdp
        rw [hl2] at hRT
        skip
        have HM := Lib.hid hm
        unfold MkPost at hRT
        unfold RowPost at hI ⊢
        clear ih hrow hs hsum hm hpl hn hl1 hl2
        generalize Mk.path l (L.take (Mk.below n)) i = R at *
        generalize Mk.root l (L.drop (Mk.below n)) = x at *
        generalize Mk.rootAsks l (L.drop (Mk.below n)) = ts2 at *
        generalize Mk.below n = k at *
        have HI := Lib.hid hI; clear hI
        have HRT := Lib.hid hRT; clear hRT
        have HB := Lib.hid hB; clear hB
        have HAL := Lib.hid (And.intro hal hdp)
        have hik' : (i : Int) < (k : Int) := by omega
        have hkc : k ≤ cap := by omega
        have hkn : k ≤ n := by omega
        have hne : ¬ cap = k := by omega
        go_enter Tryd.func43, Tryd.ntmps43
        go_wp2_with fail
        refine (HB.out _).mono ?_
        rintro e w0 ⟨rfl, hb0w⟩
        have hv0 := Mv.of_below hb0w [g, nb]
        have hm0 := HM.out.below hb0w
        go_wp2_with fail
        refine (HI.out w0 hv0 hm0).mono ?_
        rintro e w2 ⟨v, ts, rfl, hown, hts, hm2, hv2⟩
        have hst2 : (Mill.steps l ts st).sums ≤ st.sums + 2 * k := by rw [Mill.steps_sums]; omega
        have h2s := hv0.size
        have hgn := HM.out.m.lt
        go_wp2_with fail
        refine (HRT.out _ w2 (hv0.trans hv2) hm2 hst2).mono ?_
        rintro e w3 ⟨rfl, hm3, hv3⟩
        have hown3 := own_mv (own_low hown h2s) hv3 (by intro y hy; simp only [List.mem_cons, List.not_mem_nil, or_false] at hy; omega)
        have hv03 := (hv0.trans hv2).trans hv3
        have hs3 := hv03.size
        have HOWN := Lib.hid (hown3.alloc (.cells #[.string (S x)] 9))
        have HMADE := Lib.hid (made_one w3 x)
        clear hown
        go_wp2_with (at_builtin; refine wpList_append_own _ rfl (.tmp 24) (.tmp 28) 22 rfl w.heap.size 9 i0 (.string ⟨#[]⟩) 1 16 Tryd.underlying22 HIN.out.1 HIN.out.2.1 HIN.out.2.2.1 HIN.out.2.2.2 rfl (by decide) v R.length (tvs R) rfl HOWN.out ⟨w3.heap.size, 0, none⟩ 1 1 [.string (S x)] rfl rfl HMADE.out (by simp [Value.oneCell']) (by simp only [maxLen]; omega) (by omega) (by simp; omega) ?_; intro v8 w5 hown5 hg5 hnil5)
        have hg5' := grown_alloc _ hg5
        have hrw5 : ∀ q, v.ownBlock = some q → w.heap.size ≤ q := fun q hq => (hown3.lt q hq).1
        have hv5 := hv03.own hg5' hrw5
        have hm5 := MkW.own HM.out hm3 hg5' hrw5
        have hown6 : w5.ownsRow w.heap.size 9 1 v8 (R ++ [x]).length (tvs (R ++ [x])) := by rw [← tvs_snoc, List.length_append]; exact hown5
        clear hown5 hg5 hnil5 hg5' hown3
        go_wp2_with fail
        go_ret
        refine ⟨v8, ts ++ ts2, rfl, hown6, ?_, ?_, hv5⟩
        · rw [List.length_append]; have := HAL.out.1; omega
        · rw [Mill.steps_app]; exact hm5
      · rw [Mk.path_right l L i (by omega) (by rw [hn]; exact hik), hn]
        have hI := fun w1 (hv : Mv w w1 [g, nb]) hm1 => ih (n - Mk.below n) (by omega) (L.drop (Mk.below n)) (i - Mk.below n) (off + Mk.below n) (n - Mk.below n) st w1 hl2 (by omega) (by omega) (by omega) (Nat.le_refl _) (by omega) ((hrow.mv hv hb hbs).drop _) (Nat.lt_of_lt_of_le hb hv.size) (fun s hx => hs s (List.mem_of_mem_drop hx)) (by omega) hm1
        have hRT := fun st' w2 (hv : Mv w w2 [g, nb]) (hm2 : MkW w2 g nb tv l st') (hst : st'.sums ≤ st.sums + 2 * (n - Mk.below n)) => root_any g nb tv l hr (some ⟨b, off, none⟩) (L.take (Mk.below n)) (Mk.below n) st' w2 (by rw [hl1]; omega) (by rw [hl1]; omega) (by omega) (RowS.of (Nat.lt_of_lt_of_le hb hv.size) hbs ((hrow.mv hv hb hbs).take _)) (fun s hx => hs s (List.mem_of_mem_take hx)) (by rw [hl1]; omega) hm2
        have hal := (Mk.rootAsks_len l _ (L.take (Mk.below n)) hl1).2 (by omega)
        have hpl := Mk.path_len l _ (L.drop (Mk.below n)) (i - Mk.below n) hl2
        have hdp := Mk.depth_le 16 (n - Mk.below n) (i - Mk.below n) (by omega) (by omega)
        rw [← hpl] at hdp
        rw [show ((i - Mk.below n : Nat) : Int) = (i : Int) - (Mk.below n : Int) from by omega] at hI
        rw [hl1] at hRT
        skip
        have HM := Lib.hid hm
        unfold MkPost at hRT
        unfold RowPost at hI ⊢
        clear ih hrow hs hsum hm hpl hn hl1 hl2
        generalize Mk.path l (L.drop (Mk.below n)) (i - Mk.below n) = R at *
        generalize Mk.root l (L.take (Mk.below n)) = x at *
        generalize Mk.rootAsks l (L.take (Mk.below n)) = ts2 at *
        generalize Mk.below n = k at *
        have HI := Lib.hid hI; clear hI
        have HRT := Lib.hid hRT; clear hRT
        have HB := Lib.hid hB; clear hB
        have HAL := Lib.hid (And.intro hal hdp)
        have hik' : ¬ (i : Int) < (k : Int) := by omega
        have hkc : k ≤ cap := by omega
        have hkn : k ≤ n := by omega
        have hne : ¬ cap = k := by omega
        go_enter Tryd.func43, Tryd.ntmps43
        go_wp2_with fail
        refine (HB.out _).mono ?_
        rintro e w0 ⟨rfl, hb0w⟩
        have hv0 := Mv.of_below hb0w [g, nb]
        have hm0 := HM.out.below hb0w
        go_wp2_with fail
        refine (HI.out w0 hv0 hm0).mono ?_
        rintro e w2 ⟨v, ts, rfl, hown, hts, hm2, hv2⟩
        have hst2 : (Mill.steps l ts st).sums ≤ st.sums + 2 * (n - k) := by rw [Mill.steps_sums]; omega
        have h2s := hv0.size
        have hgn := HM.out.m.lt
        go_wp2_with fail
        refine (HRT.out _ w2 (hv0.trans hv2) hm2 hst2).mono ?_
        rintro e w3 ⟨rfl, hm3, hv3⟩
        have hown3 := own_mv (own_low hown h2s) hv3 (by intro y hy; simp only [List.mem_cons, List.not_mem_nil, or_false] at hy; omega)
        have hv03 := (hv0.trans hv2).trans hv3
        have hs3 := hv03.size
        have HOWN := Lib.hid (hown3.alloc (.cells #[.string (S x)] 9))
        have HMADE := Lib.hid (made_one w3 x)
        clear hown
        go_wp2_with (at_builtin; refine wpList_append_own _ rfl (.tmp 36) (.tmp 40) 22 rfl w.heap.size 9 i0 (.string ⟨#[]⟩) 1 16 Tryd.underlying22 HIN.out.1 HIN.out.2.1 HIN.out.2.2.1 HIN.out.2.2.2 rfl (by decide) v R.length (tvs R) rfl HOWN.out ⟨w3.heap.size, 0, none⟩ 1 1 [.string (S x)] rfl rfl HMADE.out (by simp [Value.oneCell']) (by simp only [maxLen]; omega) (by omega) (by simp; omega) ?_; intro v8 w5 hown5 hg5 hnil5)
        have hg5' := grown_alloc _ hg5
        have hrw5 : ∀ q, v.ownBlock = some q → w.heap.size ≤ q := fun q hq => (hown3.lt q hq).1
        have hv5 := hv03.own hg5' hrw5
        have hm5 := MkW.own HM.out hm3 hg5' hrw5
        have hown6 : w5.ownsRow w.heap.size 9 1 v8 (R ++ [x]).length (tvs (R ++ [x])) := by rw [← tvs_snoc, List.length_append]; exact hown5
        clear hown5 hg5 hnil5 hg5' hown3
        go_wp2_with fail
        go_ret
        refine ⟨v8, ts ++ ts2, rfl, hown6, ?_, ?_, hv5⟩
        · rw [List.length_append]; have := HAL.out.1; omega
        · rw [Mill.steps_app]; exact hm5
    · have h1n : n = 1 := by omega
      subst h1n
      rw [Mk.path_none l L i (by omega)]
      have HM := Lib.hid hm; clear hm ih hrow
      go_enter Tryd.func43, Tryd.ntmps43
      go_wp2_with fail
      go_ret
      exact ⟨_, [], rfl, World.ownsRow_nil _ _ _ _, Nat.zero_le _, HM.out, Mv.refl _ _⟩

set_option maxRecDepth 100000 in
set_option maxHeartbeats 4000000 in
theorem mkPath_any (hr : Mill.right l = true) (b : Nat) (hbs : b ∉ [g, nb]) : ∀ (n : Nat) (L : List (List UInt8)) (i off cap : Nat) (st : Mill.St) (w : World), L.length = n → 1 ≤ n → n ≤ 65536 → i < n → n ≤ cap → cap ≤ 9223372036854775807 →
    TRow w b off L → b < w.heap.size → (∀ s, s ∈ L → s.length ≤ 1000000) → st.sums + 4 * n ≤ 4000000000000000000 → MkW w g nb tv l st →
    Calls Tryd.prog 24 #[.pointer (some ⟨g, 0, none⟩), .slice (some ⟨b, off, none⟩) n cap, .int .i64 (i : Int)] w (RowPost w g nb tv l st (Mk.path l L i) (2 * n)) := by
  obtain ⟨i0, hi0, hz0, hz1, hz2⟩ := info_parts mkinfo
  have HIN := Lib.hid (And.intro hi0 (And.intro hz0 (And.intro hz1 hz2))); clear hi0 hz0 hz1 hz2
  intro n
  induction n using Nat.strongRecOn with
  | ind n ih =>
    intro L i off cap st w hn h1 hn6 hi hcap hcm hrow hb hs hsum hm
    by_cases h2 : 2 ≤ n
    · have hlt := Mk.below_lt h2
      have hpos := Mk.below_pos n
      have hB := fun W => mkBelow_any n h2 (by omega) W
      have hl1 : (L.take (Mk.below n)).length = Mk.below n := by rw [List.length_take]; omega
      have hl2 : (L.drop (Mk.below n)).length = n - Mk.below n := by rw [List.length_drop]; omega
      have hb1 : ¬ (n : Int) < 2 := by omega
      by_cases hik : i < Mk.below n
      · rw [Mk.path_left l L i (by omega) (by rw [hn]; exact hik), hn]
        have hI := fun w1 (hv : Mv w w1 [g, nb]) hm1 => ih (Mk.below n) hlt (L.take (Mk.below n)) i off cap st w1 hl1 hpos (by omega) hik (by omega) hcm ((hrow.mv hv hb hbs).take _) (Nat.lt_of_lt_of_le hb hv.size) (fun s hx => hs s (List.mem_of_mem_take hx)) (by omega) hm1
        have hRT := fun st' w2 (hv : Mv w w2 [g, nb]) (hm2 : MkW w2 g nb tv l st') (hst : st'.sums ≤ st.sums + 2 * Mk.below n) => mkRoot_any g nb tv l hr (some ⟨b, off + Mk.below n, none⟩) (L.drop (Mk.below n)) (cap - Mk.below n) st' w2 (by rw [hl2]; omega) (by rw [hl2]; omega) (by omega) (RowS.of (Nat.lt_of_lt_of_le hb hv.size) hbs ((hrow.mv hv hb hbs).drop _)) (fun s hx => hs s (List.mem_of_mem_drop hx)) (by rw [hl2]; omega) hm2
        have hal := (Mk.rootAsks_len l _ (L.drop (Mk.below n)) hl2).2 (by omega)
        have hpl := Mk.path_len l _ (L.take (Mk.below n)) i hl1
        have hdp := Mk.depth_le 16 (Mk.below n) i (by omega) hik
        rw [← hpl] at hdp
        rw [hl2] at hRT
        skip
        have HM := Lib.hid hm
        unfold MkPost at hRT
        unfold RowPost at hI ⊢
        clear ih hrow hs hsum hm hpl hn hl1 hl2
        generalize Mk.path l (L.take (Mk.below n)) i = R at *
        generalize Mk.root l (L.drop (Mk.below n)) = x at *
        generalize Mk.rootAsks l (L.drop (Mk.below n)) = ts2 at *
        generalize Mk.below n = k at *
        have HI := Lib.hid hI; clear hI
        have HRT := Lib.hid hRT; clear hRT
        have HB := Lib.hid hB; clear hB
        have HAL := Lib.hid (And.intro hal hdp)
        have hik' : (i : Int) < (k : Int) := by omega
        have hkc : k ≤ cap := by omega
        have hkn : k ≤ n := by omega
        have hne : ¬ cap = k := by omega
        go_enter Tryd.func24, Tryd.ntmps24
        go_wp2_with fail
        refine (HB.out _).mono ?_
        rintro e w0 ⟨rfl, rfl⟩
        have hv0 := Mv.refl w0 [g, nb]
        have hm0 := HM.out
        go_wp2_with fail
        refine (HI.out w0 hv0 hm0).mono ?_
        rintro e w2 ⟨v, ts, rfl, hown, hts, hm2, hv2⟩
        have hst2 : (Mill.steps l ts st).sums ≤ st.sums + 2 * k := by rw [Mill.steps_sums]; omega
        have h2s := hv0.size
        have hgn := HM.out.m.lt
        go_wp2_with fail
        refine (HRT.out _ w2 (hv0.trans hv2) hm2 hst2).mono ?_
        rintro e w3 ⟨rfl, hm3, hv3⟩
        have hown3 := own_mv (own_low hown h2s) hv3 (by intro y hy; simp only [List.mem_cons, List.not_mem_nil, or_false] at hy; omega)
        have hv03 := (hv0.trans hv2).trans hv3
        have hs3 := hv03.size
        have HOWN := Lib.hid (hown3.alloc (.cells #[.string (S x)] 9))
        have HMADE := Lib.hid (made_one w3 x)
        clear hown
        go_wp2_with (at_builtin; refine wpList_append_own _ rfl (.tmp 25) (.tmp 31) 22 rfl w0.heap.size 9 i0 (.string ⟨#[]⟩) 1 16 Tryd.underlying22 HIN.out.1 HIN.out.2.1 HIN.out.2.2.1 HIN.out.2.2.2 rfl (by decide) v R.length (tvs R) rfl HOWN.out ⟨w3.heap.size, 0, none⟩ 1 1 [.string (S x)] rfl rfl HMADE.out (by simp [Value.oneCell']) (by simp only [maxLen]; omega) (by omega) (by simp; omega) ?_; intro v8 w5 hown5 hg5 hnil5)
        have hg5' := grown_alloc _ hg5
        have hrw5 : ∀ q, v.ownBlock = some q → w0.heap.size ≤ q := fun q hq => (hown3.lt q hq).1
        have hv5 := hv03.own hg5' hrw5
        have hm5 := MkW.own HM.out hm3 hg5' hrw5
        have hown6 : w5.ownsRow w0.heap.size 9 1 v8 (R ++ [x]).length (tvs (R ++ [x])) := by rw [← tvs_snoc, List.length_append]; exact hown5
        clear hown5 hg5 hnil5 hg5' hown3
        go_wp2_with fail
        go_ret
        refine ⟨v8, ts ++ ts2, rfl, hown6, ?_, ?_, hv5⟩
        · rw [List.length_append]; have := HAL.out.1; omega
        · rw [Mill.steps_app]; exact hm5
      · rw [Mk.path_right l L i (by omega) (by rw [hn]; exact hik), hn]
        have hI := fun w1 (hv : Mv w w1 [g, nb]) hm1 => ih (n - Mk.below n) (by omega) (L.drop (Mk.below n)) (i - Mk.below n) (off + Mk.below n) (cap - Mk.below n) st w1 hl2 (by omega) (by omega) (by omega) (by omega) (by omega) ((hrow.mv hv hb hbs).drop _) (Nat.lt_of_lt_of_le hb hv.size) (fun s hx => hs s (List.mem_of_mem_drop hx)) (by omega) hm1
        have hRT := fun st' w2 (hv : Mv w w2 [g, nb]) (hm2 : MkW w2 g nb tv l st') (hst : st'.sums ≤ st.sums + 2 * (n - Mk.below n)) => mkRoot_any g nb tv l hr (some ⟨b, off, none⟩) (L.take (Mk.below n)) cap st' w2 (by rw [hl1]; omega) (by rw [hl1]; omega) (by omega) (RowS.of (Nat.lt_of_lt_of_le hb hv.size) hbs ((hrow.mv hv hb hbs).take _)) (fun s hx => hs s (List.mem_of_mem_take hx)) (by rw [hl1]; omega) hm2
        have hal := (Mk.rootAsks_len l _ (L.take (Mk.below n)) hl1).2 (by omega)
        have hpl := Mk.path_len l _ (L.drop (Mk.below n)) (i - Mk.below n) hl2
        have hdp := Mk.depth_le 16 (n - Mk.below n) (i - Mk.below n) (by omega) (by omega)
        rw [← hpl] at hdp
        rw [show ((i - Mk.below n : Nat) : Int) = (i : Int) - (Mk.below n : Int) from by omega] at hI
        rw [hl1] at hRT
        skip
        have HM := Lib.hid hm
        unfold MkPost at hRT
        unfold RowPost at hI ⊢
        clear ih hrow hs hsum hm hpl hn hl1 hl2
        generalize Mk.path l (L.drop (Mk.below n)) (i - Mk.below n) = R at *
        generalize Mk.root l (L.take (Mk.below n)) = x at *
        generalize Mk.rootAsks l (L.take (Mk.below n)) = ts2 at *
        generalize Mk.below n = k at *
        have HI := Lib.hid hI; clear hI
        have HRT := Lib.hid hRT; clear hRT
        have HB := Lib.hid hB; clear hB
        have HAL := Lib.hid (And.intro hal hdp)
        have hik' : ¬ (i : Int) < (k : Int) := by omega
        have hkc : k ≤ cap := by omega
        have hkn : k ≤ n := by omega
        have hne : ¬ cap = k := by omega
        go_enter Tryd.func24, Tryd.ntmps24
        go_wp2_with fail
        refine (HB.out _).mono ?_
        rintro e w0 ⟨rfl, rfl⟩
        have hv0 := Mv.refl w0 [g, nb]
        have hm0 := HM.out
        go_wp2_with fail
        refine (HI.out w0 hv0 hm0).mono ?_
        rintro e w2 ⟨v, ts, rfl, hown, hts, hm2, hv2⟩
        have hst2 : (Mill.steps l ts st).sums ≤ st.sums + 2 * (n - k) := by rw [Mill.steps_sums]; omega
        have h2s := hv0.size
        have hgn := HM.out.m.lt
        go_wp2_with fail
        refine (HRT.out _ w2 (hv0.trans hv2) hm2 hst2).mono ?_
        rintro e w3 ⟨rfl, hm3, hv3⟩
        have hown3 := own_mv (own_low hown h2s) hv3 (by intro y hy; simp only [List.mem_cons, List.not_mem_nil, or_false] at hy; omega)
        have hv03 := (hv0.trans hv2).trans hv3
        have hs3 := hv03.size
        have HOWN := Lib.hid (hown3.alloc (.cells #[.string (S x)] 9))
        have HMADE := Lib.hid (made_one w3 x)
        clear hown
        go_wp2_with (at_builtin; refine wpList_append_own _ rfl (.tmp 41) (.tmp 47) 22 rfl w0.heap.size 9 i0 (.string ⟨#[]⟩) 1 16 Tryd.underlying22 HIN.out.1 HIN.out.2.1 HIN.out.2.2.1 HIN.out.2.2.2 rfl (by decide) v R.length (tvs R) rfl HOWN.out ⟨w3.heap.size, 0, none⟩ 1 1 [.string (S x)] rfl rfl HMADE.out (by simp [Value.oneCell']) (by simp only [maxLen]; omega) (by omega) (by simp; omega) ?_; intro v8 w5 hown5 hg5 hnil5)
        have hg5' := grown_alloc _ hg5
        have hrw5 : ∀ q, v.ownBlock = some q → w0.heap.size ≤ q := fun q hq => (hown3.lt q hq).1
        have hv5 := hv03.own hg5' hrw5
        have hm5 := MkW.own HM.out hm3 hg5' hrw5
        have hown6 : w5.ownsRow w0.heap.size 9 1 v8 (R ++ [x]).length (tvs (R ++ [x])) := by rw [← tvs_snoc, List.length_append]; exact hown5
        clear hown5 hg5 hnil5 hg5' hown3
        go_wp2_with fail
        go_ret
        refine ⟨v8, ts ++ ts2, rfl, hown6, ?_, ?_, hv5⟩
        · rw [List.length_append]; have := HAL.out.1; omega
        · rw [Mill.steps_app]; exact hm5
    · have h1n : n = 1 := by omega
      subst h1n
      rw [Mk.path_none l L i (by omega)]
      have HM := Lib.hid hm; clear hm ih hrow
      go_enter Tryd.func24, Tryd.ntmps24
      go_wp2_with fail
      go_ret
      exact ⟨_, [], rfl, World.ownsRow_nil _ _ _ _, Nat.zero_le _, HM.out, Mv.refl _ _⟩
end
end Go.Proofs.YtphhaiccpllnpaaDoor
