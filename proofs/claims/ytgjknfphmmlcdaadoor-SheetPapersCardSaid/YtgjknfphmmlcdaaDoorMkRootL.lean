/-
  The contract of the seventh layer's statements' own Root.
-/
import Derived.Test.YtgjknfphmmlcdaaDoorMkCall
import Derived.Test.YtgjknfphmmlcdaaDoorSwap
namespace Go.Proofs.YtgjknfphmmlcdaaDoor
open Go.RowKit
set_option linter.unusedVariables false

section
variable (g nb : Nat) (tv : Option Nat) (l : List Mill.En)

set_option maxHeartbeats 2000000 in
theorem mkRoot_nil (hr : Mill.right l = true) (A : Option Addr) (cap : Nat) (st : Mill.St) (w : World) (h : MkW w g nb tv l st) (hsum : st.sums ≤ 4000000000000000000) :
    Calls Tryd.prog 12 #[.pointer (some ⟨g, 0, none⟩), .slice A 0 cap] w (MkPost w g nb tv l st [[]] (.string (S (Mk.nil l)))) := by
  have HS := Lib.hid (mkNone_any g nb tv l hr st w h hsum)
  unfold MkPost at HS ⊢
  generalize Mk.nil l = x at HS ⊢
  generalize Mill.steps l [[]] st = st' at HS ⊢
  clear h hsum hr
  go_enter Tryd.func12, Tryd.ntmps12
  go_wp2_with fail
  refine (HS.out).mono ?_
  rintro e w5 ⟨rfl, hm5, hv5⟩
  go_wp2_with fail
  go_ret
  exact ⟨rfl, hm5, hv5⟩

set_option maxHeartbeats 2000000 in
theorem mkRoot_one (a : List UInt8) (b off cap : Nat) (st : Mill.St) (w : World) (h : MkW w g nb tv l st) (hrow : TRow w b off [a]) :
    Calls Tryd.prog 12 #[.pointer (some ⟨g, 0, none⟩), .slice (some ⟨b, off, none⟩) 1 cap] w (MkPost w g nb tv l st [] (.string (S a))) := by
  have hc : w.cell? ⟨b, off + 0, none⟩ = some (.string (S a)) := hrow 0 (by simp)
  have hc0 : w.cell? ⟨b, off, none⟩ = some (.string (S a)) := hc
  have HM := Lib.hid h; clear h hrow
  go_enter Tryd.func12, Tryd.ntmps12
  go_wp2_with fail
  go_ret
  exact ⟨rfl, HM.out, Mv.refl _ _⟩

set_option maxRecDepth 100000 in
set_option maxHeartbeats 4000000 in
theorem mkRoot_more (hr : Mill.right l = true) (b : Nat) (hbs : b ∉ [g, nb]) : ∀ (n : Nat) (L : List (List UInt8)) (off cap : Nat) (st : Mill.St) (w : World), L.length = n → 1 ≤ n → n ≤ 65536 → n ≤ cap → cap ≤ 9223372036854775807 →
    TRow w b off L → b < w.heap.size → (∀ s, s ∈ L → s.length ≤ 1000000) → st.sums + 2 * n ≤ 4000000000000000000 → MkW w g nb tv l st →
    Calls Tryd.prog 12 #[.pointer (some ⟨g, 0, none⟩), .slice (some ⟨b, off, none⟩) n cap] w (MkPost w g nb tv l st (Mk.rootAsks l L) (.string (S (Mk.root l L)))) := by
  intro n
  induction n using Nat.strongRecOn with
  | ind n ih =>
    intro L off cap st w hn h1 hn6 hcap hcm hrow hb hs hsum hm
    by_cases h2 : 2 ≤ n
    · have hlt := Mk.below_lt h2
      have hpos := Mk.below_pos n
      have hB := fun W => mkBelow_any n h2 (by omega) W
      have hl1 : (L.take (Mk.below n)).length = Mk.below n := by rw [List.length_take]; omega
      have hl2 : (L.drop (Mk.below n)).length = n - Mk.below n := by rw [List.length_drop]; omega
      have k1 := (Mk.rootAsks_len l _ (L.take (Mk.below n)) hl1).2 (by omega)
      have k2 := (Mk.rootAsks_len l _ (L.drop (Mk.below n)) hl2).2 (by omega)
      have r1 := Mk.root_short l hr (L.take (Mk.below n)) 1000000 (by omega) (fun s hx => hs s (List.mem_of_mem_take hx))
      have r2 := Mk.root_short l hr (L.drop (Mk.below n)) 1000000 (by omega) (fun s hx => hs s (List.mem_of_mem_drop hx))
      have c1 := fun w1 (hv : Mv w w1 [g, nb]) (hm1 : MkW w1 g nb tv l st) => ih (Mk.below n) hlt (L.take (Mk.below n)) off cap st w1 hl1 hpos (by omega) (by omega) hcm ((hrow.mv hv hb hbs).take _) (Nat.lt_of_lt_of_le hb hv.size) (fun s hx => hs s (List.mem_of_mem_take hx)) (by omega) hm1
      have c2 := fun w1 (hv : Mv w w1 [g, nb]) hm1 => ih (n - Mk.below n) (by omega) (L.drop (Mk.below n)) (off + Mk.below n) (cap - Mk.below n) (Mill.steps l (Mk.rootAsks l (L.take (Mk.below n))) st) w1 hl2 (by omega) (by omega) (by omega) (by omega) ((hrow.mv hv hb hbs).drop _) (Nat.lt_of_lt_of_le hb hv.size) (fun s hx => hs s (List.mem_of_mem_drop hx)) (by rw [Mill.steps_sums]; omega) hm1
      have c3 := fun w2 hm2 => mkNode_any g nb tv l hr (Mill.steps l (Mk.rootAsks l (L.drop (Mk.below n))) (Mill.steps l (Mk.rootAsks l (L.take (Mk.below n))) st)) w2 (Mk.root l (L.take (Mk.below n))) (Mk.root l (L.drop (Mk.below n))) hm2 (by omega) (by omega) (by rw [Mill.steps_sums, Mill.steps_sums]; omega)
      have e1 : Mk.root l L = Mk.node l (Mk.root l (L.take (Mk.below n))) (Mk.root l (L.drop (Mk.below n))) := by rw [Mk.root_more l L (by omega), hn]
      have e2 : Mill.steps l (Mk.rootAsks l L) st = Mill.steps l [(1 :: Mk.root l (L.take (Mk.below n))) ++ Mk.root l (L.drop (Mk.below n))] (Mill.steps l (Mk.rootAsks l (L.drop (Mk.below n))) (Mill.steps l (Mk.rootAsks l (L.take (Mk.below n))) st)) := by
        rw [Mk.rootAsks_more l L (by omega), hn, Mill.steps_app, Mill.steps_app]
      have HM := Lib.hid hm
      unfold MkPost at c1 c2 c3 ⊢
      rw [e1, e2]
      generalize Mk.root l (L.take (Mk.below n)) = ra at *
      generalize Mk.root l (L.drop (Mk.below n)) = rb at *
      generalize Mk.node l ra rb = x at *
      generalize Mk.rootAsks l (L.take (Mk.below n)) = qa at *
      generalize Mk.rootAsks l (L.drop (Mk.below n)) = qb at *
      generalize [(1 :: ra) ++ rb] = qc at *
      generalize Mk.below n = k at *
      generalize Mill.steps l qc (Mill.steps l qb (Mill.steps l qa st)) = st3 at *
      generalize Mill.steps l qb (Mill.steps l qa st) = st2 at *
      generalize Mill.steps l qa st = st1 at *
      have HB := Lib.hid hB; clear hB
      have HC1 := Lib.hid c1; clear c1
      have HC2 := Lib.hid c2; clear c2
      have HC3 := Lib.hid c3; clear c3
      clear ih hrow hs hm hsum r1 r2 k1 k2 hl1 hl2 hn e1 e2
      have hb0 : ((n : Int) == 0) = false := by simpa using (show ¬ (n : Int) = 0 by omega)
      have hb1 : ((n : Int) == 1) = false := by simpa using (show ¬ (n : Int) = 1 by omega)
      have hkc : k ≤ cap := by omega
      have hkn : k ≤ n := by omega
      have hne : ¬ cap = k := by omega
      go_enter Tryd.func12, Tryd.ntmps12
      go_wp2_with fail
      refine (HB.out _).mono ?_
      rintro e w0 ⟨rfl, rfl⟩
      go_upto_region 6 with (fail)
      have hv0 := (Mv.refl w0 [g, nb]).drew
      have hM0 := HM.out.below ((Below.refl w0.heap.size w0).drew)
      refine wp_region_any (by kernel_rfl) ?_
      change wpAny _ _ _ _ _ _ _ (World.drew _)
      (refine grab (i := 0) (v := ?_) rfl rfl (by kernel_rfl) (by kernel_rfl) (by kernel_rfl) (fun _ _ _ h => h) (by rfl) ?_ ?_; rotate_left; (focus (intro w; go_simp; first | done | with_reducible rfl)); (simp only [Act.at, List.setIfInBounds_toArray, List.set_cons_zero, List.set_cons_succ]))
      (refine grab (i := 1) (v := ?_) rfl rfl (by kernel_rfl) (by kernel_rfl) (by kernel_rfl) (fun _ _ _ h => h) (by rfl) ?_ ?_; rotate_left; (focus (intro w; go_simp; first | done | with_reducible rfl)); (simp only [Act.at, List.setIfInBounds_toArray, List.set_cons_zero, List.set_cons_succ]))
      (refine grab (i := 2) (v := ?_) rfl rfl (by kernel_rfl) (by kernel_rfl) (by kernel_rfl) (fun _ _ _ h => h) (by rfl) ?_ ?_; rotate_left; (focus (intro w; go_simp; first | done | with_reducible rfl)); (simp only [Act.at, List.setIfInBounds_toArray, List.set_cons_zero, List.set_cons_succ]))
      (refine grab (i := 3) (v := ?_) rfl rfl (by kernel_rfl) (by kernel_rfl) (by kernel_rfl) (fun _ _ _ h => h) (by rfl) ?_ ?_; rotate_left; (focus (intro w; go_simp; first | done | with_reducible rfl)); (simp only [Act.at, List.setIfInBounds_toArray, List.set_cons_zero, List.set_cons_succ]))
      (refine grab (i := 4) (v := ?_) rfl rfl (by kernel_rfl) (by kernel_rfl) (by kernel_rfl) (fun _ _ _ h => h) (by rfl) ?_ ?_; rotate_left; (focus (intro w; go_simp; (try simp only [hkc, if_true, if_false, Result.andThen_ok]); first | done | with_reducible rfl)); (simp only [Act.at, List.setIfInBounds_toArray, List.set_cons_zero, List.set_cons_succ]))
      (refine grab (i := 6) (v := ?_) rfl rfl (by kernel_rfl) (by kernel_rfl) (by kernel_rfl) (fun _ _ _ h => h) (by rfl) ?_ ?_; rotate_left; (focus (intro w; go_simp; first | done | with_reducible rfl)); (simp only [Act.at, List.setIfInBounds_toArray, List.set_cons_zero, List.set_cons_succ]))
      (refine grab (i := 7) (v := ?_) rfl rfl (by kernel_rfl) (by kernel_rfl) (by kernel_rfl) (fun _ _ _ h => h) (by rfl) ?_ ?_; rotate_left; (focus (intro w; go_simp; first | done | with_reducible rfl)); (simp only [Act.at, List.setIfInBounds_toArray, List.set_cons_zero, List.set_cons_succ]))
      (refine grab (i := 8) (v := ?_) rfl rfl (by kernel_rfl) (by kernel_rfl) (by kernel_rfl) (fun _ _ _ h => h) (by rfl) ?_ ?_; rotate_left; (focus (intro w; go_simp; first | done | with_reducible rfl)); (simp only [Act.at, List.setIfInBounds_toArray, List.set_cons_zero, List.set_cons_succ]))
      (refine grab (i := 9) (v := ?_) rfl rfl (by kernel_rfl) (by kernel_rfl) (by kernel_rfl) (fun _ _ _ h => h) (by rfl) ?_ ?_; rotate_left; (focus (intro w; go_simp; (try simp only [hkn, hkc, hne, if_true, if_false, Result.andThen_ok]); first | done | with_reducible rfl)); (simp only [Act.at, List.setIfInBounds_toArray, List.set_cons_zero, List.set_cons_succ]))
      refine wpOne (i := 5) (by kernel_rfl) rfl (by rfl) (fun K hK => ?_)
      go_simp
      refine (HC1.out _ hv0 hM0).mono ?_
      rintro e w1 ⟨rfl, hm1, hv1⟩
      refine hK _ _ ?_
      clear hK K
      try simp only [Act.put, List.setIfInBounds_toArray, List.set_cons_zero, List.set_cons_succ]
      refine wpOne (i := 10) (by kernel_rfl) rfl (by rfl) (fun K hK => ?_)
      go_simp
      refine (HC2.out w1 (hv0.trans hv1) hm1).mono ?_
      rintro e w2 ⟨rfl, hm2, hv2⟩
      refine hK _ _ ?_
      clear hK K
      try simp only [Act.put, List.setIfInBounds_toArray, List.set_cons_zero, List.set_cons_succ]
      refine wpOne (i := 11) (by kernel_rfl) rfl (by rfl) (fun K hK => ?_)
      go_simp
      refine (HC3.out w2 hm2).mono ?_
      rintro e w3 ⟨rfl, hm3, hv3⟩
      refine hK _ _ ?_
      clear hK K
      try simp only [Act.put, List.setIfInBounds_toArray, List.set_cons_zero, List.set_cons_succ]
      (refine grab (i := 12) (v := ?_) rfl rfl (by kernel_rfl) (by kernel_rfl) (by kernel_rfl) (fun _ _ _ h => h) (by rfl) ?_ ?_; rotate_left; (focus (intro w; go_simp; first | done | with_reducible rfl)); (simp only [Act.at, List.setIfInBounds_toArray, List.set_cons_zero, List.set_cons_succ]))
      refine wpAny_done (by kernel_rfl) ?_ _
      go_wp2_with fail
      go_ret
      exact ⟨rfl, hm3, ((hv0.trans hv1).trans hv2).trans hv3⟩
    · have h1n : n = 1 := by omega
      subst h1n
      match L, hn with
      | [a], _ =>
        rw [Mk.root_one, Mk.rootAsks_one]
        exact mkRoot_one g nb tv l a b off cap st w hm hrow

/-- The root of a slice of texts, whatever it is. -/
theorem mkRoot_any (hr : Mill.right l = true) (A : Option Addr) (L : List (List UInt8)) (cap : Nat) (st : Mill.St) (w : World) (hn6 : L.length ≤ 65536) (hcap : L.length ≤ cap) (hcm : cap ≤ 9223372036854775807)
    (hrow : RowS w [g, nb] A L) (hs : ∀ s, s ∈ L → s.length ≤ 1000000) (hsum : st.sums + 2 * L.length ≤ 4000000000000000000) (hm : MkW w g nb tv l st) :
    Calls Tryd.prog 12 #[.pointer (some ⟨g, 0, none⟩), .slice A L.length cap] w (MkPost w g nb tv l st (Mk.rootAsks l L) (.string (S (Mk.root l L)))) := by
  by_cases he : L = []
  · subst he
    rw [Mk.rootAsks_nil, Mk.root_nil]
    exact mkRoot_nil g nb tv l hr A cap st w hm (by omega)
  · obtain ⟨b, off, rfl, hb, hn, hr'⟩ := hrow he
    exact mkRoot_more g nb tv l hr b hn L.length L off cap st w rfl (List.length_pos_iff.mpr he) hn6 hcap hcm hr' hb hs hsum hm
end
end Go.Proofs.YtgjknfphmmlcdaaDoor
