/-
  What a call on a mill leaves; the contracts of the program's root and Root.
-/
import Derived.Test.YtgjknfphmmlcdaaDoorMkLens
import Derived.Test.YtgjknfphmmlcdaaDoorMkPures
import Derived.Test.YtgjknfphmmlcdaaDoorPlgTree
namespace Go.Proofs.YtgjknfphmmlcdaaDoor
open Go.RowKit
set_option linter.unusedVariables false

theorem Mv.tabs2 {w w' : World} {g nb : Nat} (h : Mv w w' [g, nb]) (hT : Tabs w) (hg : 2 ≤ g) (hn : 2 ≤ nb) : Tabs w' := h.tabs hT (by
  intro x hx
  simp only [List.mem_cons, List.not_mem_nil, or_false] at hx
  omega)
theorem slip_tied {g nb n : Nat} {w w' : World} (hv : Mv w w' [g, nb]) (hn1 : n ≤ g) (hn2 : n ≤ nb) (hb : n ≤ w.heap.size) {w0 : World} (h0 : Below n w0 w) : Below n w0 w' :=
  hv.below h0 hb (by intro x hx; simp only [List.mem_cons, List.not_mem_nil, or_false] at hx; omega)
/-- A mill in block g, its notes in block nb, with all that a call on it asks. -/
structure MkW (w : World) (g nb : Nat) (tv : Option Nat) (l : List Mill.En) (st : Mill.St) : Prop where
  m : MillTv w g nb tv l st
  t : Tabs w
  g2 : 2 ≤ g
  n2 : 2 ≤ nb
theorem MkW.below {w w' : World} {g nb : Nat} {tv : Option Nat} {l : List Mill.En} {st : Mill.St} (h : MkW w g nb tv l st) (hb : Below w.heap.size w w') : MkW w' g nb tv l st := ⟨h.m.below hb, h.t.below hb h.t.2.2, h.g2, h.n2⟩
theorem MkW.step {w w' : World} {g nb : Nat} {tv : Option Nat} {l : List Mill.En} {st st' : Mill.St} (h : MkW w g nb tv l st) (hm : MillTv w' g nb tv l st') (hv : Mv w w' [g, nb]) : MkW w' g nb tv l st' := ⟨hm, hv.tabs2 h.t h.g2 h.n2, h.g2, h.n2⟩
/-- What a call on a mill leaves: what it answers, and which texts were summed. -/
def MkPost (w : World) (g nb : Nat) (tv : Option Nat) (l : List Mill.En) (st : Mill.St) (ts : List (List UInt8)) (v : Value) (e : Ending) (w' : World) : Prop :=
  e = .returned v ∧ MkW w' g nb tv l (Mill.steps l ts st) ∧ Mv w w' [g, nb]
theorem MkPost.after {w w1 : World} {g nb : Nat} {tv : Option Nat} {l : List Mill.En} {st : Mill.St} {ts : List (List UInt8)} {v : Value} {e : Ending} {w' : World} (hb : Below w.heap.size w w1) (h : MkPost w1 g nb tv l st ts v e w') : MkPost w g nb tv l st ts v e w' :=
  ⟨h.1, h.2.1, (Mv.of_below hb _).trans h.2.2⟩
namespace Mk
theorem root_short (l : List Mill.En) (hr : Mill.right l = true) (L : List T) (B : Nat) (hB : 32 ≤ B) (h : ∀ s, s ∈ L → s.length ≤ B) : (root l L).length ≤ B := by
  by_cases h2 : 2 ≤ L.length
  · rw [root_more l L h2, node_len l hr]; exact hB
  · match L, h2 with
    | [], _ => rw [root_nil]; unfold nil; rw [Mill.hash_len l hr]; exact hB
    | [a], _ => rw [root_one]; exact h a (by simp)
    | _ :: _ :: _, h2 => exact absurd (by simp) h2
theorem rootAsks_one (l : List Mill.En) (a : T) : rootAsks l [a] = [] := by rw [rootAsks]; rfl
theorem rootAsks_nil (l : List Mill.En) : rootAsks l [] = [[]] := by rw [rootAsks]; rfl
end Mk

section
variable (g nb : Nat) (tv : Option Nat) (l : List Mill.En)

theorem mkNode_any (hr : Mill.right l = true) (st : Mill.St) (w : World) (a b : List UInt8) (h : MkW w g nb tv l st) (h1 : a.length ≤ 100000000) (h2 : b.length ≤ 100000000) (hsum : st.sums ≤ 4000000000000000000) :
    Calls Tryd.prog 31 #[.pointer (some ⟨g, 0, none⟩), .string (S a), .string (S b)] w (MkPost w g nb tv l st [(1 :: a) ++ b] (.string (S (Mk.node l a b)))) :=
  (plgNode_any g nb tv l st w a b h.m h1 h2 hsum hr h.t h.g2).mono fun e w' ⟨he, hm, hv⟩ => ⟨he, h.step hm hv, hv⟩
theorem mkNone_any (hr : Mill.right l = true) (st : Mill.St) (w : World) (h : MkW w g nb tv l st) (hsum : st.sums ≤ 4000000000000000000) :
    Calls Tryd.prog 29 #[.pointer (some ⟨g, 0, none⟩)] w (MkPost w g nb tv l st [[]] (.string (S (Mk.nil l)))) :=
  (plgNone_any g nb tv l st w h.m hsum hr h.t h.g2).mono fun e w' ⟨he, hm, hv⟩ => ⟨he, h.step hm hv, hv⟩
theorem mkLeaf_any (hr : Mill.right l = true) (st : Mill.St) (w : World) (a : List UInt8) (h : MkW w g nb tv l st) (h1 : a.length ≤ 100000000) (hsum : st.sums ≤ 4000000000000000000) :
    Calls Tryd.prog 19 #[.pointer (some ⟨g, 0, none⟩), .string (S a)] w (MkPost w g nb tv l st [0 :: a] (.string (S (Mill.hash l (0 :: a))))) :=
  (plgLeaf_any g nb tv l st w a h.m h1 hsum hr h.t h.g2).mono fun e w' ⟨he, hm, hv⟩ => ⟨he, h.step hm hv, hv⟩

set_option maxHeartbeats 2000000 in
theorem root_nil (hr : Mill.right l = true) (A : Option Addr) (cap : Nat) (st : Mill.St) (w : World) (h : MkW w g nb tv l st) (hsum : st.sums ≤ 4000000000000000000) :
    Calls Tryd.prog 42 #[.pointer (some ⟨g, 0, none⟩), .slice A 0 cap] w (MkPost w g nb tv l st [[]] (.string (S (Mk.nil l)))) := by
  have HS := Lib.hid (mkNone_any g nb tv l hr st w h hsum)
  unfold MkPost at HS ⊢
  generalize Mk.nil l = x at HS ⊢
  generalize Mill.steps l [[]] st = st' at HS ⊢
  clear h hsum hr
  go_enter Tryd.func42, Tryd.ntmps42
  go_wp2_with fail
  refine (HS.out).mono ?_
  rintro e w5 ⟨rfl, hm5, hv5⟩
  go_wp2_with fail
  go_ret
  exact ⟨rfl, hm5, hv5⟩

set_option maxHeartbeats 2000000 in
theorem root_one (a : List UInt8) (b off cap : Nat) (st : Mill.St) (w : World) (h : MkW w g nb tv l st) (hrow : TRow w b off [a]) :
    Calls Tryd.prog 42 #[.pointer (some ⟨g, 0, none⟩), .slice (some ⟨b, off, none⟩) 1 cap] w (MkPost w g nb tv l st [] (.string (S a))) := by
  have hc : w.cell? ⟨b, off + 0, none⟩ = some (.string (S a)) := hrow 0 (by simp)
  have hc0 : w.cell? ⟨b, off, none⟩ = some (.string (S a)) := hc
  have HM := Lib.hid h; clear h hrow
  go_enter Tryd.func42, Tryd.ntmps42
  go_wp2_with fail
  go_ret
  exact ⟨rfl, HM.out, Mv.refl _ _⟩

set_option maxRecDepth 100000 in
set_option maxHeartbeats 4000000 in
theorem root_more (hr : Mill.right l = true) (b : Nat) (hbs : b ∉ [g, nb]) : ∀ (n : Nat) (L : List (List UInt8)) (off cap : Nat) (st : Mill.St) (w : World), L.length = n → 1 ≤ n → n ≤ 65536 → n ≤ cap → cap ≤ 9223372036854775807 →
    TRow w b off L → b < w.heap.size → (∀ s, s ∈ L → s.length ≤ 1000000) → st.sums + 2 * n ≤ 4000000000000000000 → MkW w g nb tv l st →
    Calls Tryd.prog 42 #[.pointer (some ⟨g, 0, none⟩), .slice (some ⟨b, off, none⟩) n cap] w (MkPost w g nb tv l st (Mk.rootAsks l L) (.string (S (Mk.root l L)))) := by
  intro n
  induction n using Nat.strongRecOn with
  | ind n ih =>
    intro L off cap st w hn h1 hn6 hcap hcm hrow hb hs hsum hm
    by_cases h2 : 2 ≤ n
    · have hlt := Mk.below_lt h2
      have hpos := Mk.below_pos n
      have hB := fun W => halves_any b off cap n W h2 hn6 hcap hcm
      have hl1 : (L.take (Mk.below n)).length = Mk.below n := by rw [List.length_take]; omega
      have hl2 : (L.drop (Mk.below n)).length = n - Mk.below n := by rw [List.length_drop]; omega
      have k1 := (Mk.rootAsks_len l _ (L.take (Mk.below n)) hl1).2 (by omega)
      have k2 := (Mk.rootAsks_len l _ (L.drop (Mk.below n)) hl2).2 (by omega)
      have r1 := Mk.root_short l hr (L.take (Mk.below n)) 1000000 (by omega) (fun s hx => hs s (List.mem_of_mem_take hx))
      have r2 := Mk.root_short l hr (L.drop (Mk.below n)) 1000000 (by omega) (fun s hx => hs s (List.mem_of_mem_drop hx))
      have c1 := fun w1 (hv : Mv w w1 [g, nb]) (hm1 : MkW w1 g nb tv l st) => ih (Mk.below n) hlt (L.take (Mk.below n)) off (Mk.below n) st w1 hl1 hpos (by omega) (Nat.le_refl _) (by omega) ((hrow.mv hv hb hbs).take _) (Nat.lt_of_lt_of_le hb hv.size) (fun s hx => hs s (List.mem_of_mem_take hx)) (by omega) hm1
      have c2 := fun w1 (hv : Mv w w1 [g, nb]) hm1 => ih (n - Mk.below n) (by omega) (L.drop (Mk.below n)) (off + Mk.below n) (n - Mk.below n) (Mill.steps l (Mk.rootAsks l (L.take (Mk.below n))) st) w1 hl2 (by omega) (by omega) (Nat.le_refl _) (by omega) ((hrow.mv hv hb hbs).drop _) (Nat.lt_of_lt_of_le hb hv.size) (fun s hx => hs s (List.mem_of_mem_drop hx)) (by rw [Mill.steps_sums]; omega) hm1
      have c3 := fun w2 hm2 => mkNode_any g nb tv l hr (Mill.steps l (Mk.rootAsks l (L.drop (Mk.below n))) (Mill.steps l (Mk.rootAsks l (L.take (Mk.below n))) st)) w2 (Mk.root l (L.take (Mk.below n))) (Mk.root l (L.drop (Mk.below n))) hm2 (by omega) (by omega) (by rw [Mill.steps_sums, Mill.steps_sums]; omega)
      have e1 : Mk.root l L = Mk.node l (Mk.root l (L.take (Mk.below n))) (Mk.root l (L.drop (Mk.below n))) := by rw [Mk.root_more l L (by omega), hn]
      have e2 : Mill.steps l (Mk.rootAsks l L) st = Mill.steps l [(1 :: Mk.root l (L.take (Mk.below n))) ++ Mk.root l (L.drop (Mk.below n))] (Mill.steps l (Mk.rootAsks l (L.drop (Mk.below n))) (Mill.steps l (Mk.rootAsks l (L.take (Mk.below n))) st)) := by
        rw [Mk.rootAsks_more l L (by omega), hn, Mill.steps_app, Mill.steps_app]
      have HM := Lib.hid hm
      unfold MkPost at c1 c2 c3 ⊢
      rw [e1, e2]
      generalize Mk.root l (L.take (Mk.below n)) = ra at *
      generalize Mk.root l (L.drop (Mk.below n)) = rb at *
      generalize Mk.node l ra rb = x at *
      generalize Mk.rootAsks l (L.take (Mk.below n)) = qa at *
      generalize Mk.rootAsks l (L.drop (Mk.below n)) = qb at *
      generalize [(1 :: ra) ++ rb] = qc at *
      generalize Mk.below n = k at *
      generalize Mill.steps l qc (Mill.steps l qb (Mill.steps l qa st)) = st3 at *
      generalize Mill.steps l qb (Mill.steps l qa st) = st2 at *
      generalize Mill.steps l qa st = st1 at *
      have HB := Lib.hid hB; clear hB
      have HC1 := Lib.hid c1; clear c1
      have HC2 := Lib.hid c2; clear c2
      have HC3 := Lib.hid c3; clear c3
      clear ih hrow hs hm hsum r1 r2 k1 k2 hl1 hl2 hn e1 e2
      have hb0 : ((n : Int) == 0) = false := by simpa using (show ¬ (n : Int) = 0 by omega)
      have hb1 : ((n : Int) == 1) = false := by simpa using (show ¬ (n : Int) = 1 by omega)
      go_enter Tryd.func42, Tryd.ntmps42
      go_wp2_with fail
      refine (HB.out _).mono ?_
      rintro e w0 ⟨rfl, hb0w⟩
      have hv0 := Mv.of_below hb0w [g, nb]
      go_wp2_with fail
      refine (HC1.out w0 hv0 (HM.out.below hb0w)).mono ?_
      rintro e w1 ⟨rfl, hm1, hv1⟩
      go_wp2_with fail
      refine (HC2.out w1 (hv0.trans hv1) hm1).mono ?_
      rintro e w2 ⟨rfl, hm2, hv2⟩
      go_wp2_with fail
      refine (HC3.out w2 hm2).mono ?_
      rintro e w3 ⟨rfl, hm3, hv3⟩
      go_wp2_with fail
      go_ret
      exact ⟨rfl, hm3, ((hv0.trans hv1).trans hv2).trans hv3⟩
    · have h1n : n = 1 := by omega
      subst h1n
      match L, hn with
      | [a], _ =>
        rw [Mk.root_one, Mk.rootAsks_one]
        exact root_one g nb tv l a b off cap st w hm hrow

/-- The root of a slice of texts, whatever it is. -/
theorem root_any (hr : Mill.right l = true) (A : Option Addr) (L : List (List UInt8)) (cap : Nat) (st : Mill.St) (w : World) (hn6 : L.length ≤ 65536) (hcap : L.length ≤ cap) (hcm : cap ≤ 9223372036854775807)
    (hrow : RowS w [g, nb] A L) (hs : ∀ s, s ∈ L → s.length ≤ 1000000) (hsum : st.sums + 2 * L.length ≤ 4000000000000000000) (hm : MkW w g nb tv l st) :
    Calls Tryd.prog 42 #[.pointer (some ⟨g, 0, none⟩), .slice A L.length cap] w (MkPost w g nb tv l st (Mk.rootAsks l L) (.string (S (Mk.root l L)))) := by
  by_cases he : L = []
  · subst he
    rw [Mk.rootAsks_nil, Mk.root_nil]
    exact root_nil g nb tv l hr A cap st w hm (by omega)
  · obtain ⟨b, off, rfl, hb, hn, hr'⟩ := hrow he
    exact root_more g nb tv l hr b hn L.length L off cap st w rfl (List.length_pos_iff.mpr he) hn6 hcap hcm hr' hb hs hsum hm
set_option maxHeartbeats 2000000 in
theorem mRoot_any (hr : Mill.right l = true) (A : Option Addr) (L : List (List UInt8)) (cap : Nat) (st : Mill.St) (w : World) (hn6 : L.length ≤ 65536) (hcap : L.length ≤ cap) (hcm : cap ≤ 9223372036854775807)
    (hrow : RowS w [g, nb] A L) (hs : ∀ s, s ∈ L → s.length ≤ 1000000) (hsum : st.sums + 2 * L.length ≤ 4000000000000000000) (hm : MkW w g nb tv l st) :
    Calls Tryd.prog 32 #[.pointer (some ⟨g, 0, none⟩), .slice A L.length cap] w (MkPost w g nb tv l st (Mk.rootAsks l L) (.string (S (Mk.root l L)))) := by
  have HS := Lib.hid (root_any g nb tv l hr A L cap st w hn6 hcap hcm hrow hs hsum hm)
  unfold MkPost at HS ⊢
  generalize Mk.root l L = x at HS ⊢
  generalize Mill.steps l (Mk.rootAsks l L) st = st' at HS ⊢
  clear hm hsum hr hrow hs
  generalize L.length = n at *
  go_enter Tryd.func32, Tryd.ntmps32
  go_wp2_with fail
  refine (HS.out).mono ?_
  rintro e w5 ⟨rfl, hm5, hv5⟩
  go_wp2_with fail
  go_ret
  exact ⟨rfl, hm5, hv5⟩
end
end Go.Proofs.YtgjknfphmmlcdaaDoor
