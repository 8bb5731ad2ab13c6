/-
  The contracts of the program's growth and of the seventh layer's statements' own proof.
-/
import Derived.Test.YtphhaiccpllnpaaDoorMkPath
namespace Go.Proofs.YtphhaiccpllnpaaDoor
open Go.RowKit
set_option linter.unusedVariables false

theorem own_one (w : World) (x : List UInt8) (B : Nat) (hB : B ≤ w.heap.size) : (w.alloc (.cells #[.string (S x)] 9)).ownsRow B 9 1 (.slice (some ⟨w.heap.size, 0, none⟩) 1 1) 1 (tvs [x]) :=
  ⟨rfl, .inr ⟨w.heap.size, 1, #[.string (S x)], rfl, hB, heap_alloc_new w _, Nat.le_refl _, by decide, rfl, rfl⟩⟩

section
variable (g nb : Nat) (tv : Option Nat) (l : List Mill.En)

set_option maxRecDepth 100000 in
set_option maxHeartbeats 4000000 in
theorem growth_any (hr : Mill.right l = true) (b : Nat) (hbs : b ∉ [g, nb]) : ∀ (n : Nat) (L : List (List UInt8)) (a : Nat) (whole : Bool) (off cap : Nat) (st : Mill.St) (w : World), L.length = n → 1 ≤ a → a ≤ n → n ≤ 65536 → n ≤ cap → cap ≤ 9223372036854775807 →
    TRow w b off L → b < w.heap.size → (∀ s, s ∈ L → s.length ≤ 1000000) → st.sums + 4 * n ≤ 4000000000000000000 → MkW w g nb tv l st →
    Calls Tryd.prog 47 #[.pointer (some ⟨g, 0, none⟩), .int .i64 (a : Int), .bool whole, .slice (some ⟨b, off, none⟩) n cap] w (RowPost w g nb tv l st (Mk.prf l L a whole) (2 * n)) := by
  obtain ⟨i0, hi0, hz0, hz1, hz2⟩ := info_parts mkinfo
  have HIN := Lib.hid (And.intro hi0 (And.intro hz0 (And.intro hz1 hz2))); clear hi0 hz0 hz1 hz2
  intro n
  induction n using Nat.strongRecOn with
  | ind n ih =>
    intro L a whole off cap st w hn h1 han hn6 hcap hcm hrow hb hs hsum hm
    by_cases he : a = n
    · subst he
      rw [Mk.prf_all l L a whole hn.symm]
      clear ih
      cases whole with
      | true =>
        have HM := Lib.hid hm; clear hm hrow
        go_enter Tryd.func47, Tryd.ntmps47
        go_wp2_with fail
        go_ret
        exact ⟨_, [], rfl, World.ownsRow_nil _ _ _ _, Nat.zero_le _, HM.out, Mv.refl _ _⟩
      | false =>
        have hRT := root_any g nb tv l hr (some ⟨b, off, none⟩) L cap st w (by omega) (by omega) hcm (RowS.of hb hbs hrow) hs (by omega) hm
        have hal := (Mk.rootAsks_len l _ L hn).2 (by omega)
        rw [hn] at hRT
        unfold MkPost at hRT
        generalize Mk.root l L = x at *
        generalize Mk.rootAsks l L = ts at *
        have HRT := Lib.hid hRT; clear hRT hm hrow hs hsum
        go_enter Tryd.func47, Tryd.ntmps47
        go_wp2_with fail
        refine (HRT.out).mono ?_
        rintro e w3 ⟨rfl, hm3, hv3⟩
        go_wp2_with fail
        go_ret
        exact ⟨_, ts, rfl, own_one w3 x w.heap.size hv3.size, by omega, hm3.below ((Below.refl _ w3).alloc (Nat.le_refl _) _), hv3.alloc _⟩
    · have h2 : 2 ≤ n := by omega
      have hlt := Mk.below_lt h2
      have hpos := Mk.below_pos n
      have hB := fun W => halves_any b off cap n W h2 hn6 hcap hcm
      have hl1 : (L.take (Mk.below n)).length = Mk.below n := by rw [List.length_take]; omega
      have hl2 : (L.drop (Mk.below n)).length = n - Mk.below n := by rw [List.length_drop]; omega
      have hb1 : ((a : Int) == (n : Int)) = false := by simpa using (show ¬ (a : Int) = (n : Int) by omega)
      by_cases hik : a ≤ Mk.below n
      · rw [Mk.prf_left l L a whole (by omega) (by omega) (by rw [hn]; exact hik), hn]
        have hI := fun w1 (hv : Mv w w1 [g, nb]) hm1 => ih (Mk.below n) hlt (L.take (Mk.below n)) a whole off (Mk.below n) st w1 hl1 h1 hik (by omega) (Nat.le_refl _) (by omega) ((hrow.mv hv hb hbs).take _) (Nat.lt_of_lt_of_le hb hv.size) (fun s hx => hs s (List.mem_of_mem_take hx)) (by omega) hm1
        have hRT := fun st' w2 (hv : Mv w w2 [g, nb]) (hm2 : MkW w2 g nb tv l st') (hst : st'.sums ≤ st.sums + 2 * Mk.below n) => root_any g nb tv l hr (some ⟨b, off + Mk.below n, none⟩) (L.drop (Mk.below n)) (n - Mk.below n) st' w2 (by rw [hl2]; omega) (by rw [hl2]; omega) (by omega) (RowS.of (Nat.lt_of_lt_of_le hb hv.size) hbs ((hrow.mv hv hb hbs).drop _)) (fun s hx => hs s (List.mem_of_mem_drop hx)) (by rw [hl2]; omega) hm2
        have hal := (Mk.rootAsks_len l _ (L.drop (Mk.below n)) hl2).2 (by omega)
        have hpl := Mk.prf_len l _ (L.take (Mk.below n)) a whole hl1 h1 hik
        have hdp := Mk.long_le 16 (Mk.below n) a whole (by omega) h1 hik
        rw [← hpl] at hdp
        rw [hl2] at hRT
        have HM := Lib.hid hm
        unfold MkPost at hRT
        unfold RowPost at hI ⊢
        clear ih hrow hs hsum hm hpl hn hl1 hl2 he
        generalize Mk.prf l (L.take (Mk.below n)) a whole = R at *
        generalize Mk.root l (L.drop (Mk.below n)) = x at *
        generalize Mk.rootAsks l (L.drop (Mk.below n)) = ts2 at *
        generalize Mk.below n = k at *
        have HI := Lib.hid hI; clear hI
        have HRT := Lib.hid hRT; clear hRT
        have HB := Lib.hid hB; clear hB
        have HAL := Lib.hid (And.intro hal hdp)
        have hik' : (a : Int) ≤ (k : Int) := by omega
        have hkc : k ≤ cap := by omega
        have hkn : k ≤ n := by omega
        have hne : ¬ cap = k := by omega
        go_enter Tryd.func47, Tryd.ntmps47
        go_wp2_with fail
        refine (HB.out _).mono ?_
        rintro e w0 ⟨rfl, hb0w⟩
        have hv0 := Mv.of_below hb0w [g, nb]
        have hm0 := HM.out.below hb0w
        go_wp2_with fail
        refine (HI.out w0 hv0 hm0).mono ?_
        rintro e w2 ⟨v, ts, rfl, hown, hts, hm2, hv2⟩
        have hst2 : (Mill.steps l ts st).sums ≤ st.sums + 2 * k := by rw [Mill.steps_sums]; omega
        have h2s := hv0.size
        have hgn := HM.out.m.lt
        go_wp2_with fail
        refine (HRT.out _ w2 (hv0.trans hv2) hm2 hst2).mono ?_
        rintro e w3 ⟨rfl, hm3, hv3⟩
        have hown3 := own_mv (own_low hown h2s) hv3 (by intro y hy; simp only [List.mem_cons, List.not_mem_nil, or_false] at hy; omega)
        have hv03 := (hv0.trans hv2).trans hv3
        have hs3 := hv03.size
        have HOWN := Lib.hid (hown3.alloc (.cells #[.string (S x)] 9))
        have HMADE := Lib.hid (made_one w3 x)
        clear hown
        go_wp2_with (at_builtin; refine wpList_append_own _ rfl (.tmp 39) (.tmp 43) 22 rfl w.heap.size 9 i0 (.string ⟨#[]⟩) 1 16 Tryd.underlying22 HIN.out.1 HIN.out.2.1 HIN.out.2.2.1 HIN.out.2.2.2 rfl (by decide) v R.length (tvs R) rfl HOWN.out ⟨w3.heap.size, 0, none⟩ 1 1 [.string (S x)] rfl rfl HMADE.out (by simp [Value.oneCell']) (by simp only [maxLen]; omega) (by omega) (by simp; omega) ?_; intro v8 w5 hown5 hg5 hnil5)
        have hg5' := grown_alloc _ hg5
        have hrw5 : ∀ q, v.ownBlock = some q → w.heap.size ≤ q := fun q hq => (hown3.lt q hq).1
        have hv5 := hv03.own hg5' hrw5
        have hm5 := MkW.own HM.out hm3 hg5' hrw5
        have hown6 : w5.ownsRow w.heap.size 9 1 v8 (R ++ [x]).length (tvs (R ++ [x])) := by rw [← tvs_snoc, List.length_append]; exact hown5
        clear hown5 hg5 hnil5 hg5' hown3
        go_wp2_with fail
        go_ret
        refine ⟨v8, ts ++ ts2, rfl, hown6, ?_, ?_, hv5⟩
        · rw [List.length_append]; have := HAL.out.1; omega
        · rw [Mill.steps_app]; exact hm5
      · rw [Mk.prf_right l L a whole (by omega) (by omega) (by rw [hn]; exact hik), hn]
        have hI := fun w1 (hv : Mv w w1 [g, nb]) hm1 => ih (n - Mk.below n) (by omega) (L.drop (Mk.below n)) (a - Mk.below n) false (off + Mk.below n) (n - Mk.below n) st w1 hl2 (by omega) (by omega) (by omega) (Nat.le_refl _) (by omega) ((hrow.mv hv hb hbs).drop _) (Nat.lt_of_lt_of_le hb hv.size) (fun s hx => hs s (List.mem_of_mem_drop hx)) (by omega) hm1
        have hRT := fun st' w2 (hv : Mv w w2 [g, nb]) (hm2 : MkW w2 g nb tv l st') (hst : st'.sums ≤ st.sums + 2 * (n - Mk.below n)) => root_any g nb tv l hr (some ⟨b, off, none⟩) (L.take (Mk.below n)) (Mk.below n) st' w2 (by rw [hl1]; omega) (by rw [hl1]; omega) (by omega) (RowS.of (Nat.lt_of_lt_of_le hb hv.size) hbs ((hrow.mv hv hb hbs).take _)) (fun s hx => hs s (List.mem_of_mem_take hx)) (by rw [hl1]; omega) hm2
        have hal := (Mk.rootAsks_len l _ (L.take (Mk.below n)) hl1).2 (by omega)
        have hpl := Mk.prf_len l _ (L.drop (Mk.below n)) (a - Mk.below n) false hl2 (by omega) (by omega)
        have hdp := Mk.long_le 16 (n - Mk.below n) (a - Mk.below n) false (by omega) (by omega) (by omega)
        rw [← hpl] at hdp
        rw [show ((a - Mk.below n : Nat) : Int) = (a : Int) - (Mk.below n : Int) from by omega] at hI
        rw [hl1] at hRT
        have HM := Lib.hid hm
        unfold MkPost at hRT
        unfold RowPost at hI ⊢
        clear ih hrow hs hsum hm hpl hn hl1 hl2 he
        generalize Mk.prf l (L.drop (Mk.below n)) (a - Mk.below n) false = R at *
        generalize Mk.root l (L.take (Mk.below n)) = x at *
        generalize Mk.rootAsks l (L.take (Mk.below n)) = ts2 at *
        generalize Mk.below n = k at *
        have HI := Lib.hid hI; clear hI
        have HRT := Lib.hid hRT; clear hRT
        have HB := Lib.hid hB; clear hB
        have HAL := Lib.hid (And.intro hal hdp)
        have hik' : ¬ (a : Int) ≤ (k : Int) := by omega
        have hkc : k ≤ cap := by omega
        have hkn : k ≤ n := by omega
        have hne : ¬ cap = k := by omega
        go_enter Tryd.func47, Tryd.ntmps47
        go_wp2_with fail
        refine (HB.out _).mono ?_
        rintro e w0 ⟨rfl, hb0w⟩
        have hv0 := Mv.of_below hb0w [g, nb]
        have hm0 := HM.out.below hb0w
        go_wp2_with fail
        refine (HI.out w0 hv0 hm0).mono ?_
        rintro e w2 ⟨v, ts, rfl, hown, hts, hm2, hv2⟩
        have hst2 : (Mill.steps l ts st).sums ≤ st.sums + 2 * (n - k) := by rw [Mill.steps_sums]; omega
        have h2s := hv0.size
        have hgn := HM.out.m.lt
        go_wp2_with fail
        refine (HRT.out _ w2 (hv0.trans hv2) hm2 hst2).mono ?_
        rintro e w3 ⟨rfl, hm3, hv3⟩
        have hown3 := own_mv (own_low hown h2s) hv3 (by intro y hy; simp only [List.mem_cons, List.not_mem_nil, or_false] at hy; omega)
        have hv03 := (hv0.trans hv2).trans hv3
        have hs3 := hv03.size
        have HOWN := Lib.hid (hown3.alloc (.cells #[.string (S x)] 9))
        have HMADE := Lib.hid (made_one w3 x)
        clear hown
        go_wp2_with (at_builtin; refine wpList_append_own _ rfl (.tmp 51) (.tmp 55) 22 rfl w.heap.size 9 i0 (.string ⟨#[]⟩) 1 16 Tryd.underlying22 HIN.out.1 HIN.out.2.1 HIN.out.2.2.1 HIN.out.2.2.2 rfl (by decide) v R.length (tvs R) rfl HOWN.out ⟨w3.heap.size, 0, none⟩ 1 1 [.string (S x)] rfl rfl HMADE.out (by simp [Value.oneCell']) (by simp only [maxLen]; omega) (by omega) (by simp; omega) ?_; intro v8 w5 hown5 hg5 hnil5)
        have hg5' := grown_alloc _ hg5
        have hrw5 : ∀ q, v.ownBlock = some q → w.heap.size ≤ q := fun q hq => (hown3.lt q hq).1
        have hv5 := hv03.own hg5' hrw5
        have hm5 := MkW.own HM.out hm3 hg5' hrw5
        have hown6 : w5.ownsRow w.heap.size 9 1 v8 (R ++ [x]).length (tvs (R ++ [x])) := by rw [← tvs_snoc, List.length_append]; exact hown5
        clear hown5 hg5 hnil5 hg5' hown3
        go_wp2_with fail
        go_ret
        refine ⟨v8, ts ++ ts2, rfl, hown6, ?_, ?_, hv5⟩
        · rw [List.length_append]; have := HAL.out.1; omega
        · rw [Mill.steps_app]; exact hm5

set_option maxRecDepth 100000 in
set_option maxHeartbeats 4000000 in
theorem mkProof_any (hr : Mill.right l = true) (b : Nat) (hbs : b ∉ [g, nb]) : ∀ (n : Nat) (L : List (List UInt8)) (a : Nat) (whole : Bool) (off cap : Nat) (st : Mill.St) (w : World), L.length = n → 1 ≤ a → a ≤ n → n ≤ 65536 → n ≤ cap → cap ≤ 9223372036854775807 →
    TRow w b off L → b < w.heap.size → (∀ s, s ∈ L → s.length ≤ 1000000) → st.sums + 4 * n ≤ 4000000000000000000 → MkW w g nb tv l st →
    Calls Tryd.prog 48 #[.pointer (some ⟨g, 0, none⟩), .slice (some ⟨b, off, none⟩) n cap, .int .i64 (a : Int), .bool whole] w (RowPost w g nb tv l st (Mk.prf l L a whole) (2 * n)) := by
  obtain ⟨i0, hi0, hz0, hz1, hz2⟩ := info_parts mkinfo
  have HIN := Lib.hid (And.intro hi0 (And.intro hz0 (And.intro hz1 hz2))); clear hi0 hz0 hz1 hz2
  intro n
  induction n using Nat.strongRecOn with
  | ind n ih =>
    intro L a whole off cap st w hn h1 han hn6 hcap hcm hrow hb hs hsum hm
    by_cases he : a = n
    · subst he
      rw [Mk.prf_all l L a whole hn.symm]
      clear ih
      cases whole with
      | true =>
        have HM := Lib.hid hm; clear hm hrow
        go_enter Tryd.func48, Tryd.ntmps48
        go_wp2_with fail
        go_ret
        exact ⟨_, [], rfl, World.ownsRow_nil _ _ _ _, Nat.zero_le _, HM.out, Mv.refl _ _⟩
      | false =>
        have hRT := mkRoot_any g nb tv l hr (some ⟨b, off, none⟩) L cap st w (by omega) (by omega) hcm (RowS.of hb hbs hrow) hs (by omega) hm
        have hal := (Mk.rootAsks_len l _ L hn).2 (by omega)
        rw [hn] at hRT
        unfold MkPost at hRT
        generalize Mk.root l L = x at *
        generalize Mk.rootAsks l L = ts at *
        have HRT := Lib.hid hRT; clear hRT hm hrow hs hsum
        go_enter Tryd.func48, Tryd.ntmps48
        go_wp2_with fail
        refine (HRT.out).mono ?_
        rintro e w3 ⟨rfl, hm3, hv3⟩
        go_wp2_with fail
        go_ret
        exact ⟨_, ts, rfl, own_one w3 x w.heap.size hv3.size, by omega, hm3.below ((Below.refl _ w3).alloc (Nat.le_refl _) _), hv3.alloc _⟩
    · have h2 : 2 ≤ n := by omega
      have hlt := Mk.below_lt h2
      have hpos := Mk.below_pos n
      have hB := fun W => mkBelow_any n h2 (by omega) W
      have hl1 : (L.take (Mk.below n)).length = Mk.below n := by rw [List.length_take]; omega
      have hl2 : (L.drop (Mk.below n)).length = n - Mk.below n := by rw [List.length_drop]; omega
      have hb1 : ((a : Int) == (n : Int)) = false := by simpa using (show ¬ (a : Int) = (n : Int) by omega)
      by_cases hik : a ≤ Mk.below n
      · rw [Mk.prf_left l L a whole (by omega) (by omega) (by rw [hn]; exact hik), hn]
        have hI := fun w1 (hv : Mv w w1 [g, nb]) hm1 => ih (Mk.below n) hlt (L.take (Mk.below n)) a whole off cap st w1 hl1 h1 hik (by omega) (by omega) hcm ((hrow.mv hv hb hbs).take _) (Nat.lt_of_lt_of_le hb hv.size) (fun s hx => hs s (List.mem_of_mem_take hx)) (by omega) hm1
        have hRT := fun st' w2 (hv : Mv w w2 [g, nb]) (hm2 : MkW w2 g nb tv l st') (hst : st'.sums ≤ st.sums + 2 * Mk.below n) => mkRoot_any g nb tv l hr (some ⟨b, off + Mk.below n, none⟩) (L.drop (Mk.below n)) (cap - Mk.below n) st' w2 (by rw [hl2]; omega) (by rw [hl2]; omega) (by omega) (RowS.of (Nat.lt_of_lt_of_le hb hv.size) hbs ((hrow.mv hv hb hbs).drop _)) (fun s hx => hs s (List.mem_of_mem_drop hx)) (by rw [hl2]; omega) hm2
        have hal := (Mk.rootAsks_len l _ (L.drop (Mk.below n)) hl2).2 (by omega)
        have hpl := Mk.prf_len l _ (L.take (Mk.below n)) a whole hl1 h1 hik
        have hdp := Mk.long_le 16 (Mk.below n) a whole (by omega) h1 hik
        rw [← hpl] at hdp
        rw [hl2] at hRT
        have HM := Lib.hid hm
        unfold MkPost at hRT
        unfold RowPost at hI ⊢
        clear ih hrow hs hsum hm hpl hn hl1 hl2 he
        generalize Mk.prf l (L.take (Mk.below n)) a whole = R at *
        generalize Mk.root l (L.drop (Mk.below n)) = x at *
        generalize Mk.rootAsks l (L.drop (Mk.below n)) = ts2 at *
        generalize Mk.below n = k at *
        have HI := Lib.hid hI; clear hI
        have HRT := Lib.hid hRT; clear hRT
        have HB := Lib.hid hB; clear hB
        have HAL := Lib.hid (And.intro hal hdp)
        have hik' : (a : Int) ≤ (k : Int) := by omega
        have hkc : k ≤ cap := by omega
        have hkn : k ≤ n := by omega
        have hne : ¬ cap = k := by omega
        go_enter Tryd.func48, Tryd.ntmps48
        go_wp2_with fail
        refine (HB.out _).mono ?_
        rintro e w0 ⟨rfl, rfl⟩
        have hv0 := Mv.refl w0 [g, nb]
        have hm0 := HM.out
        go_wp2_with fail
        refine (HI.out w0 hv0 hm0).mono ?_
        rintro e w2 ⟨v, ts, rfl, hown, hts, hm2, hv2⟩
        have hst2 : (Mill.steps l ts st).sums ≤ st.sums + 2 * k := by rw [Mill.steps_sums]; omega
        have h2s := hv0.size
        have hgn := HM.out.m.lt
        go_wp2_with fail
        refine (HRT.out _ w2 (hv0.trans hv2) hm2 hst2).mono ?_
        rintro e w3 ⟨rfl, hm3, hv3⟩
        have hown3 := own_mv (own_low hown h2s) hv3 (by intro y hy; simp only [List.mem_cons, List.not_mem_nil, or_false] at hy; omega)
        have hv03 := (hv0.trans hv2).trans hv3
        have hs3 := hv03.size
        have HOWN := Lib.hid (hown3.alloc (.cells #[.string (S x)] 9))
        have HMADE := Lib.hid (made_one w3 x)
        clear hown
        go_wp2_with (at_builtin; refine wpList_append_own _ rfl (.tmp 40) (.tmp 46) 22 rfl w0.heap.size 9 i0 (.string ⟨#[]⟩) 1 16 Tryd.underlying22 HIN.out.1 HIN.out.2.1 HIN.out.2.2.1 HIN.out.2.2.2 rfl (by decide) v R.length (tvs R) rfl HOWN.out ⟨w3.heap.size, 0, none⟩ 1 1 [.string (S x)] rfl rfl HMADE.out (by simp [Value.oneCell']) (by simp only [maxLen]; omega) (by omega) (by simp; omega) ?_; intro v8 w5 hown5 hg5 hnil5)
        have hg5' := grown_alloc _ hg5
        have hrw5 : ∀ q, v.ownBlock = some q → w0.heap.size ≤ q := fun q hq => (hown3.lt q hq).1
        have hv5 := hv03.own hg5' hrw5
        have hm5 := MkW.own HM.out hm3 hg5' hrw5
        have hown6 : w5.ownsRow w0.heap.size 9 1 v8 (R ++ [x]).length (tvs (R ++ [x])) := by rw [← tvs_snoc, List.length_append]; exact hown5
        clear hown5 hg5 hnil5 hg5' hown3
        go_wp2_with fail
        go_ret
        refine ⟨v8, ts ++ ts2, rfl, hown6, ?_, ?_, hv5⟩
        · rw [List.length_append]; have := HAL.out.1; omega
        · rw [Mill.steps_app]; exact hm5
      · rw [Mk.prf_right l L a whole (by omega) (by omega) (by rw [hn]; exact hik), hn]
        have hI := fun w1 (hv : Mv w w1 [g, nb]) hm1 => ih (n - Mk.below n) (by omega) (L.drop (Mk.below n)) (a - Mk.below n) false (off + Mk.below n) (cap - Mk.below n) st w1 hl2 (by omega) (by omega) (by omega) (by omega) (by omega) ((hrow.mv hv hb hbs).drop _) (Nat.lt_of_lt_of_le hb hv.size) (fun s hx => hs s (List.mem_of_mem_drop hx)) (by omega) hm1
        have hRT := fun st' w2 (hv : Mv w w2 [g, nb]) (hm2 : MkW w2 g nb tv l st') (hst : st'.sums ≤ st.sums + 2 * (n - Mk.below n)) => mkRoot_any g nb tv l hr (some ⟨b, off, none⟩) (L.take (Mk.below n)) cap st' w2 (by rw [hl1]; omega) (by rw [hl1]; omega) (by omega) (RowS.of (Nat.lt_of_lt_of_le hb hv.size) hbs ((hrow.mv hv hb hbs).take _)) (fun s hx => hs s (List.mem_of_mem_take hx)) (by rw [hl1]; omega) hm2
        have hal := (Mk.rootAsks_len l _ (L.take (Mk.below n)) hl1).2 (by omega)
        have hpl := Mk.prf_len l _ (L.drop (Mk.below n)) (a - Mk.below n) false hl2 (by omega) (by omega)
        have hdp := Mk.long_le 16 (n - Mk.below n) (a - Mk.below n) false (by omega) (by omega) (by omega)
        rw [← hpl] at hdp
        rw [show ((a - Mk.below n : Nat) : Int) = (a : Int) - (Mk.below n : Int) from by omega] at hI
        rw [hl1] at hRT
        have HM := Lib.hid hm
        unfold MkPost at hRT
        unfold RowPost at hI ⊢
        clear ih hrow hs hsum hm hpl hn hl1 hl2 he
        generalize Mk.prf l (L.drop (Mk.below n)) (a - Mk.below n) false = R at *
        generalize Mk.root l (L.take (Mk.below n)) = x at *
        generalize Mk.rootAsks l (L.take (Mk.below n)) = ts2 at *
        generalize Mk.below n = k at *
        have HI := Lib.hid hI; clear hI
        have HRT := Lib.hid hRT; clear hRT
        have HB := Lib.hid hB; clear hB
        have HAL := Lib.hid (And.intro hal hdp)
        have hik' : ¬ (a : Int) ≤ (k : Int) := by omega
        have hkc : k ≤ cap := by omega
        have hkn : k ≤ n := by omega
        have hne : ¬ cap = k := by omega
        go_enter Tryd.func48, Tryd.ntmps48
        go_wp2_with fail
        refine (HB.out _).mono ?_
        rintro e w0 ⟨rfl, rfl⟩
        have hv0 := Mv.refl w0 [g, nb]
        have hm0 := HM.out
        go_wp2_with fail
        refine (HI.out w0 hv0 hm0).mono ?_
        rintro e w2 ⟨v, ts, rfl, hown, hts, hm2, hv2⟩
        have hst2 : (Mill.steps l ts st).sums ≤ st.sums + 2 * (n - k) := by rw [Mill.steps_sums]; omega
        have h2s := hv0.size
        have hgn := HM.out.m.lt
        go_wp2_with fail
        refine (HRT.out _ w2 (hv0.trans hv2) hm2 hst2).mono ?_
        rintro e w3 ⟨rfl, hm3, hv3⟩
        have hown3 := own_mv (own_low hown h2s) hv3 (by intro y hy; simp only [List.mem_cons, List.not_mem_nil, or_false] at hy; omega)
        have hv03 := (hv0.trans hv2).trans hv3
        have hs3 := hv03.size
        have HOWN := Lib.hid (hown3.alloc (.cells #[.string (S x)] 9))
        have HMADE := Lib.hid (made_one w3 x)
        clear hown
        go_wp2_with (at_builtin; refine wpList_append_own _ rfl (.tmp 56) (.tmp 62) 22 rfl w0.heap.size 9 i0 (.string ⟨#[]⟩) 1 16 Tryd.underlying22 HIN.out.1 HIN.out.2.1 HIN.out.2.2.1 HIN.out.2.2.2 rfl (by decide) v R.length (tvs R) rfl HOWN.out ⟨w3.heap.size, 0, none⟩ 1 1 [.string (S x)] rfl rfl HMADE.out (by simp [Value.oneCell']) (by simp only [maxLen]; omega) (by omega) (by simp; omega) ?_; intro v8 w5 hown5 hg5 hnil5)
        have hg5' := grown_alloc _ hg5
        have hrw5 : ∀ q, v.ownBlock = some q → w0.heap.size ≤ q := fun q hq => (hown3.lt q hq).1
        have hv5 := hv03.own hg5' hrw5
        have hm5 := MkW.own HM.out hm3 hg5' hrw5
        have hown6 : w5.ownsRow w0.heap.size 9 1 v8 (R ++ [x]).length (tvs (R ++ [x])) := by rw [← tvs_snoc, List.length_append]; exact hown5
        clear hown5 hg5 hnil5 hg5' hown3
        go_wp2_with fail
        go_ret
        refine ⟨v8, ts ++ ts2, rfl, hown6, ?_, ?_, hv5⟩
        · rw [List.length_append]; have := HAL.out.1; omega
        · rw [Mill.steps_app]; exact hm5
end
end Go.Proofs.YtphhaiccpllnpaaDoor
