/-
  What is built of leaves and roots: the contract of the program's rebuild.
-/
import Derived.Test.YtgjknfphmmlcdaaDoorShtSibs
import Derived.Test.YtgjknfphmmlcdaaDoorShtRoot
namespace Go.Proofs.YtgjknfphmmlcdaaDoor
open Go.RowKit
set_option linter.unusedVariables false

section
variable (g nb : Nat) (tv : Option Nat) (l : List Mill.En)
set_option maxHeartbeats 1000000 in
theorem bigNode_any (hr : Mill.right l = true) (st : Mill.St) (w : World) (a b : List UInt8) (h : MkW w g nb tv l st) (h1 : a.length ≤ 1000000000000000) (h2 : b.length ≤ 1000000000000000) (hsum : st.sums ≤ 4000000000000000000) :
    Calls Tryd.prog 31 #[.pointer (some ⟨g, 0, none⟩), .string (S a), .string (S b)] w (MkPost w g nb tv l st [(1 :: a) ++ b] (.string (S (Mk.node l a b)))) := by
  have hS := (millSum_anyT ((1 :: a) ++ b) g nb tv l st w h.m (by rw [List.length_append, List.length_cons]; omega) hsum hr h.t h.g2).mono (fun e w' ⟨he, hm, hv⟩ => (⟨he, h.step hm hv, hv⟩ : MkPost w g nb tv l st [(1 :: a) ++ b] (.string (S (Mill.hash l ((1 :: a) ++ b)))) e w'))
  have hN : Mk.node l a b = Mill.hash l ((1 :: a) ++ b) := rfl
  unfold MkPost at hS ⊢
  rw [hN]
  have HS := Lib.hid hS; clear hS
  generalize Mill.hash l ((1 :: a) ++ b) = x at HS ⊢
  generalize Mill.steps l [(1 :: a) ++ b] st = st' at HS ⊢
  clear h hsum hr hN
  go_enter Tryd.func31, Tryd.ntmps31
  go_wp2_with fail
  refine (HS.out).mono ?_
  rintro e w5 ⟨rfl, hm5, hv5⟩
  go_wp2_with fail
  go_ret
  exact ⟨rfl, hm5, hv5⟩
end
namespace Sht
open Mk
theorem build_short (l : List Mill.En) (hr : Mill.right l = true) (pick : List Int) (B : Nat) (hB : 32 ≤ B) (n at_ : Nat) (lf nd lf1 nd1 : List T) (r : T) (sl : ∀ s ∈ lf, s.length ≤ B) (sn : ∀ s ∈ nd, s.length ≤ B) (hb : build l pick at_ n lf nd = some (r, lf1, nd1)) : r.length ≤ B := by
  by_cases h : has pick at_ n = true
  · by_cases h2 : 2 ≤ n
    · obtain ⟨a, b, lf2, nd2, e1, e2, e3, _⟩ := build_parts h h2 hb
      rw [e3, node_len l hr]; exact hB
    · rw [build_leaf l pick at_ n lf nd h h2] at hb
      match lf, hb, sl with
      | x :: rr, hb, sl =>
        rw [List.head?_cons, Option.map_some] at hb
        injection hb with hb
        injection hb with e3 hb
        rw [← e3]; exact sl x (by simp)
  · have h : has pick at_ n = false := by simpa using h
    rw [build_not l pick at_ n lf nd h] at hb
    match nd, hb, sn with
    | x :: rr, hb, sn =>
      rw [List.head?_cons, Option.map_some] at hb
      injection hb with hb
      injection hb with e3 hb
      rw [← e3]; exact sn x (by simp)
theorem buildAsks_not (l : List Mill.En) (pick : List Int) (at_ n : Nat) (lf nd : List T) (h : has pick at_ n = false) : buildAsks l pick at_ n lf nd = [] := by rw [buildAsks, if_pos h]
theorem buildAsks_leaf (l : List Mill.En) (pick : List Int) (at_ n : Nat) (lf nd : List T) (h : has pick at_ n = true) (h2 : ¬ 2 ≤ n) : buildAsks l pick at_ n lf nd = [] := by rw [buildAsks, if_neg (by simp [h]), dif_neg h2]
theorem buildAsks_len (l : List Mill.En) (pick : List Int) : ∀ (n at_ : Nat) (lf nd lf1 nd1 : List T) (r : T), 1 ≤ n → build l pick at_ n lf nd = some (r, lf1, nd1) → (buildAsks l pick at_ n lf nd).length ≤ n - 1 := by
  intro n
  induction n using Nat.strongRecOn with
  | ind n ih =>
    intro at_ lf nd lf1 nd1 r h1 hb
    cases h : has pick at_ n with
    | false => rw [buildAsks_not l pick at_ n lf nd h]; simp
    | true =>
      by_cases h2 : 2 ≤ n
      · obtain ⟨a, b, lf2, nd2, e1, e2, e3, e4⟩ := build_parts h h2 hb
        have hbl := below_lt h2
        have hpos := below_pos n
        have k1 := ih (below n) hbl _ _ _ _ _ _ hpos e1
        have k2 := ih (n - below n) (by omega) _ _ _ _ _ _ (by omega) e2
        rw [e4, List.length_append, List.length_append, List.length_singleton]
        omega
      · rw [buildAsks_leaf l pick at_ n lf nd h h2]; simp
end Sht
/-- What rebuild leaves: a root, and the roots that are left. -/
def RebPost (w : World) (g nb : Nat) (tv : Option Nat) (l : List Mill.En) (st : Mill.St) (ts : List (List UInt8)) (r : List UInt8) (nd : List (List UInt8)) (e : Ending) (w' : World) : Prop :=
  ∃ (A : Option Addr) (cap : Nat), e = .returned (.tuple #[.string (S r), .slice A nd.length cap]) ∧ nd.length ≤ cap ∧ cap ≤ 9223372036854775807 ∧ RowS w' [g, nb] A nd ∧ MkW w' g nb tv l (Mill.steps l ts st) ∧ Mv w w' [g, nb]
theorem RowS.aft1 {w : World} {s : List Nat} {A : Option Addr} {L : List (List UInt8)} (h : RowS w s A L) (cap k : Nat) (hc : L.length ≤ cap) : RowS w s (if cap = k then A else A.map (·.add k)) (L.drop k) := by
  have := h.aft cap k hc
  unfold Go.Proofs.YtgjknfphmmlcdaaDoor.aft at this
  rwa [Nat.mul_one] at this

section
variable (g nb : Nat) (tv : Option Nat) (l : List Mill.En)
set_option maxHeartbeats 2000000 in
theorem reb_not (C : Option Addr) (x : List UInt8) (nd : List (List UInt8)) (B Ap : Option Addr) (capA capB capC m : Nat) (at_ n : Int) (st : Mill.St) (w : World) (hm : MkW w g nb tv l st) (hrow : RowS w [g, nb] C (x :: nd)) (hc : nd.length + 1 ≤ capC) (hcm : capC ≤ 9223372036854775807) :
    Calls Tryd.prog 39 #[.pointer (some ⟨g, 0, none⟩), .agg #[.int .i64 at_, .int .i64 n], .slice Ap 0 capA, .slice B m capB, .slice C (nd.length + 1) capC] w (RebPost w g nb tv l st [] x nd) := by
  have hb0 := belowB w (.cells #[.int .i64 at_, .int .i64 n] 86)
  have hM0 := hm.below hb0
  obtain ⟨b, off, rfl, hbl, hbs, hr⟩ := hrow.below hb0 (by simp)
  have c0 := hr 0 (by simp)
  have c0' : (w.alloc (.cells #[.int .i64 at_, .int .i64 n] 86)).cell? ⟨b, off, none⟩ = some (.string (S x)) := c0
  have hrest := hr.drop 1
  have hrest' : TRow (w.alloc (.cells #[.int .i64 at_, .int .i64 n] 86)) b (off + 1) nd := hrest
  have HH := Lib.hid (And.intro hM0 (And.intro hrest' (And.intro hbl (And.intro hbs hb0)))); clear hM0 hrest hrest' hbl hbs hb0 hr c0 hrow hm
  have hk : (1 : Int) ≤ ((nd.length : Nat) : Int) + 1 := by omega
  by_cases h1 : capC = 1
  · subst h1
    have hnil : nd = [] := List.eq_nil_of_length_eq_zero (by omega)
    subst hnil
    unfold RebPost
    go_enter Tryd.func39, Tryd.ntmps39
    go_upto_region 2 with (fail)
    go_quiet (fail)
    go_wp2_with fail
    go_ret2
    exact ⟨_, _, rfl, Nat.zero_le _, by omega, RowS.nil _ _ _, HH.out.1.below (belowN (Below.refl _ _) _), (Mv.of_below HH.out.2.2.2.2 _).trans (Mv.of_below (belowN (Below.refl _ _) _) _)⟩
  · generalize hN : nd.length = k at *
    have HN := Lib.hid hN; clear hN
    unfold RebPost
    rw [HN.out]
    go_enter Tryd.func39, Tryd.ntmps39
    go_upto_region 2 with (fail)
    go_quiet (fail)
    go_wp2_with fail
    go_ret2
    exact ⟨_, _, rfl, by omega, by omega, (RowS.of HH.out.2.2.1 HH.out.2.2.2.1 HH.out.2.1).below (belowN (Below.refl _ _) _), HH.out.1.below (belowN (Below.refl _ _) _), (Mv.of_below HH.out.2.2.2.2 _).trans (Mv.of_below (belowN (Below.refl _ _) _) _)⟩
set_option maxHeartbeats 2000000 in
theorem reb_leaf (C : Option Addr) (x : List UInt8) (nd : List (List UInt8)) (B Ap : Option Addr) (capA capB capC : Nat) (at_ : Int) (st : Mill.St) (w : World) (hm : MkW w g nb tv l st) (hrow : RowS w [g, nb] B [x]) (hrow2 : RowS w [g, nb] C nd) (hc : nd.length ≤ capC) (hcm : capC ≤ 9223372036854775807) :
    Calls Tryd.prog 39 #[.pointer (some ⟨g, 0, none⟩), .agg #[.int .i64 at_, .int .i64 1], .slice Ap 1 capA, .slice B 1 capB, .slice C nd.length capC] w (RebPost w g nb tv l st [] x nd) := by
  have hb0 := belowB w (.cells #[.int .i64 at_, .int .i64 1] 86)
  have hM0 := hm.below hb0
  obtain ⟨b, off, rfl, hbl, hbs, hr⟩ := hrow.below hb0 (by simp)
  have c0 := hr 0 (by simp)
  have c0' : (w.alloc (.cells #[.int .i64 at_, .int .i64 1] 86)).cell? ⟨b, off, none⟩ = some (.string (S x)) := c0
  have HH := Lib.hid (And.intro hM0 (And.intro (hrow2.below hb0) hb0)); clear hM0 hbl hbs hb0 hr c0 hrow hrow2 hm
  generalize hN : nd.length = k at *
  have HN := Lib.hid hN; clear hN
  unfold RebPost
  rw [HN.out]
  go_enter Tryd.func39, Tryd.ntmps39
  go_wp2_with fail
  go_ret2
  exact ⟨_, _, rfl, hc, hcm, HH.out.2.1, HH.out.1, Mv.of_below HH.out.2.2 _⟩

/-- A block of the call's own that holds a part, kept. -/
theorem TwoL.mv {g1 g2 : Nat} {a1 n1 a2 n2 : Int} {W W' : World} {s : List Nat} (h : TwoL g1 g2 a1 n1 a2 n2 W) (hm : Mv W W' s) (h1 : g1 < W.heap.size) (h2 : g2 < W.heap.size) (k1 : g1 ∉ s) (k2 : g2 ∉ s) : TwoL g1 g2 a1 n1 a2 n2 W' :=
  h.keep (hm.block g1 h1 k1) (hm.block g2 h2 k2)

/-- All that rebuild holds while it is at work. -/
structure RbW (w W : World) (g nb : Nat) (tv : Option Nat) (l : List Mill.En) (st : Mill.St) (Ap : Option Addr) (X : List Int) (B : Option Addr) (Lx : List (List UInt8)) (C : Option Addr) (nd : List (List UInt8)) : Prop where
  i : RowI W [g, nb] Ap X
  s : RowS W [g, nb] B Lx
  c : RowS W [g, nb] C nd
  m : MkW W g nb tv l st
  v : Mv w W [g, nb]
theorem RbW.below {w W W' : World} {g nb : Nat} {tv : Option Nat} {l : List Mill.En} {st : Mill.St} {Ap : Option Addr} {X : List Int} {B : Option Addr} {Lx : List (List UInt8)} {C : Option Addr} {nd : List (List UInt8)} (h : RbW w W g nb tv l st Ap X B Lx C nd) (hb : Below W.heap.size W W') : RbW w W' g nb tv l st Ap X B Lx C nd :=
  ⟨RowC.below h.i hb, h.s.below hb, h.c.below hb, h.m.below hb, h.v.trans (Mv.of_below hb _)⟩
theorem RbW.step {w W W' : World} {g nb : Nat} {tv : Option Nat} {l : List Mill.En} {st st' : Mill.St} {Ap : Option Addr} {X : List Int} {B : Option Addr} {Lx : List (List UInt8)} {C C' : Option Addr} {nd nd' : List (List UInt8)} (h : RbW w W g nb tv l st Ap X B Lx C nd) (hv : Mv W W' [g, nb]) (hm : MkW W' g nb tv l st') (hc : RowS W' [g, nb] C' nd') : RbW w W' g nb tv l st' Ap X B Lx C' nd' :=
  ⟨RowC.mv h.i hv (fun x hx => hx), h.s.mv hv (fun x hx => hx), hc, hm, h.v.trans hv⟩

set_option maxRecDepth 100000 in
set_option maxHeartbeats 4000000 in
theorem rebuild_any (hr : Mill.right l = true) (F : List Int) (hF : Sht.Rise F) : ∀ (n at_ : Nat) (lf nd lf1 nd1 : List (List UInt8)) (r : List UInt8) (Ap B C : Option Addr) (capA capB capC : Nat) (st : Mill.St) (w : World), 1 ≤ n → n ≤ 1000 → at_ + n ≤ 1000 →
    Sht.build l F at_ n lf nd = some (r, lf1, nd1) → (∀ s ∈ lf, s.length ≤ 1000000000000000) → (∀ s ∈ nd, s.length ≤ 1000000000000000) →
    Sht.cnt F at_ n ≤ capA → capA ≤ 9223372036854775807 → RowI w [g, nb] Ap (F.filter (Sht.inr at_ n)) → Sht.cnt F at_ n ≤ capB → capB ≤ 9223372036854775807 → RowS w [g, nb] B (lf.take (Sht.cnt F at_ n)) → nd.length ≤ capC → capC ≤ 9223372036854775807 → RowS w [g, nb] C nd →
    st.sums + n ≤ 4000000000000000000 → MkW w g nb tv l st →
    Calls Tryd.prog 39 #[.pointer (some ⟨g, 0, none⟩), .agg #[.int .i64 (at_ : Int), .int .i64 (n : Int)], .slice Ap (Sht.cnt F at_ n) capA, .slice B (Sht.cnt F at_ n) capB, .slice C nd.length capC] w (RebPost w g nb tv l st (Sht.buildAsks l F at_ n lf nd) r nd1) := by
  intro n
  induction n using Nat.strongRecOn with
  | ind n ih =>
    intro at_ lf nd lf1 nd1 r Ap B C capA capB capC st w h1 hn ha hbd sl sn hcA hmA hrA hcB hmB hrB hcC hmC hrC hsum hm
    cases h : Sht.has F at_ n with
    | false =>
      have hc0 : Sht.cnt F at_ n = 0 := by unfold Sht.cnt; exact Sht.has_iff.1 h
      rw [Sht.buildAsks_not l F at_ n lf nd h]
      rw [Sht.build_not l F at_ n lf nd h] at hbd
      rw [hc0]
      match nd, hbd, hcC, hrC with
      | x :: rr, hbd, hcC, hrC =>
        rw [List.head?_cons, Option.map_some] at hbd
        injection hbd with hbd
        injection hbd with e3 hbd
        injection hbd with e4 e5
        rw [← e3, ← e5]
        rw [List.tail_cons]
        exact reb_not g nb tv l C x rr B Ap capA capB capC 0 (at_ : Int) (n : Int) st w hm hrC hcC hmC
    | true =>
      by_cases h2 : 2 ≤ n
      · obtain ⟨a, b, lf2, nd2, e1, e2, e3, e4⟩ := Sht.build_parts h h2 hbd
        have hlt := Mk.below_lt h2
        have hpos := Mk.below_pos n
        obtain ⟨t1, t2, t3, t4⟩ := Sht.build_takes l F hF _ _ _ _ _ _ _ hpos e1
        obtain ⟨t5, t6, t7, t8⟩ := Sht.build_takes l F hF _ _ _ _ _ _ _ (by omega) e2
        have hsp := Sht.split at_ (Mk.below n) n (by omega) F hF
        have hcc : Sht.cnt F at_ n = Sht.cnt F at_ (Mk.below n) + Sht.cnt F (at_ + Mk.below n) (n - Mk.below n) := by
          unfold Sht.cnt
          rw [hsp, List.length_append]
        have hA1 := Sht.filt_lt F at_ (Mk.below n)
        have hB1 := Sht.filt_ge F (at_ + Mk.below n) (n - Mk.below n)
        have hr0 := Sht.filt_rise hF at_ n
        have hcl := Sht.cnt_le F hF n at_ h1
        have ra := Sht.build_short l hr F 1000000000000000 (by omega) _ _ _ _ _ _ _ sl sn e1
        have sl2 : ∀ s ∈ lf2, s.length ≤ 1000000000000000 := fun s hs => sl s (by rw [t1] at hs; exact List.mem_of_mem_drop hs)
        have sn2 : ∀ s ∈ nd2, s.length ≤ 1000000000000000 := fun s hs => sn s (by rw [t3] at hs; exact List.mem_of_mem_drop hs)
        have rb := Sht.build_short l hr F 1000000000000000 (by omega) _ _ _ _ _ _ _ sl2 sn2 e2
        have q1 := Sht.buildAsks_len l F _ _ _ _ _ _ _ hpos e1
        have q2 := Sht.buildAsks_len l F _ _ _ _ _ _ _ (by omega) e2
        have hne : Sht.cnt F at_ n ≠ 0 := fun e => by
          unfold Sht.cnt at e
          rw [Sht.has_iff.2 e] at h; cases h
        have hH := fun W => shHalves_any at_ n W h2 (by omega) (by omega)
        have I1 := fun A' B' C' cA cB cC st' W => ih (Mk.below n) hlt at_ lf nd lf2 nd2 a A' B' C' cA cB cC st' W hpos (by omega) (by omega) e1 sl sn
        have I2 := fun A' B' C' cA cB cC st' W => ih (n - Mk.below n) (by omega) (at_ + Mk.below n) lf2 nd2 lf1 nd1 b A' B' C' cA cB cC st' W (by omega) (by omega) (by omega) e2 sl2 sn2
        have I3 := fun st' W hM hs => bigNode_any g nb tv l hr st' W a b hM ra rb hs
        have hBf := fun W (hW : RowI W [g, nb] Ap (F.filter (Sht.inr at_ n))) => before_any Ap capA (F.filter (Sht.inr at_ (Mk.below n))) (F.filter (Sht.inr (at_ + Mk.below n) (n - Mk.below n))) ((at_ + Mk.below n : Nat) : Int) ((n - Mk.below n : Nat) : Int) [g, nb] W (by rw [← hsp]; exact hW) (by rw [← hsp]; exact hr0) (by rw [← hsp]; unfold Sht.cnt at hcl; omega) (by rw [← hsp]; exact hcA) hmA hA1 hB1
        rw [← hsp] at hBf
        have r1 := fun W (hW : RowI W [g, nb] Ap (F.filter (Sht.inr at_ n))) => RowI.take' hW (Sht.cnt F at_ (Mk.below n))
        have r2 := fun W (hW : RowI W [g, nb] Ap (F.filter (Sht.inr at_ n))) => RowI.aft1 hW capA (Sht.cnt F at_ (Mk.below n)) hcA
        have z1 : (F.filter (Sht.inr at_ n)).take (Sht.cnt F at_ (Mk.below n)) = F.filter (Sht.inr at_ (Mk.below n)) := by rw [hsp]; exact List.take_left
        have z2 : (F.filter (Sht.inr at_ n)).drop (Sht.cnt F at_ (Mk.below n)) = F.filter (Sht.inr (at_ + Mk.below n) (n - Mk.below n)) := by rw [hsp]; exact List.drop_left
        rw [z1] at r1
        rw [z2] at r2
        have r3 := fun W (hW : RowS W [g, nb] B (lf.take (Sht.cnt F at_ n))) => RowS.take hW (Sht.cnt F at_ (Mk.below n))
        have r4 := fun W (hW : RowS W [g, nb] B (lf.take (Sht.cnt F at_ n))) => RowS.aft1 hW capB (Sht.cnt F at_ (Mk.below n)) (by rw [List.length_take]; omega)
        have z3 : (lf.take (Sht.cnt F at_ n)).take (Sht.cnt F at_ (Mk.below n)) = lf.take (Sht.cnt F at_ (Mk.below n)) := by rw [List.take_take, Nat.min_eq_left (by omega)]
        have z4 : (lf.take (Sht.cnt F at_ n)).drop (Sht.cnt F at_ (Mk.below n)) = lf2.take (Sht.cnt F (at_ + Mk.below n) (n - Mk.below n)) := by rw [List.drop_take, t1, hcc, Nat.add_sub_cancel_left]
        rw [z3] at r3
        rw [z4] at r4
        have hlen : (F.filter (Sht.inr at_ n)).length = Sht.cnt F at_ n := rfl
        have hlen1 : (F.filter (Sht.inr at_ (Mk.below n))).length = Sht.cnt F at_ (Mk.below n) := rfl
        rw [hlen, hlen1] at hBf
        have hn2 : nd2.length ≤ nd.length := by rw [t3, List.length_drop]; omega
        rw [e3, e4]
        simp only [hcc] at hcA hcB hrB hcl hne r3 r4 hBf ⊢
        clear hsp hA1 hB1 hr0 ih h hlen hlen1 z1 z2 z3 z4 e1 e2 e3 e4 hbd t1 t2 t3 t4 t5 t6 t7 t8 sl sn sl2 sn2 ra rb hF
        generalize Sht.buildAsks l F at_ (Mk.below n) lf nd = qa at *
        generalize Sht.buildAsks l F (at_ + Mk.below n) (n - Mk.below n) lf2 nd2 = qb at *
        generalize [(1 :: a) ++ b] = qc at *
        generalize lf.take (Sht.cnt F at_ (Mk.below n)) = L1 at *
        generalize lf2.take (Sht.cnt F (at_ + Mk.below n) (n - Mk.below n)) = L2 at *
        generalize lf.take (Sht.cnt F at_ (Mk.below n) + Sht.cnt F (at_ + Mk.below n) (n - Mk.below n)) = Lx at *
        generalize F.filter (Sht.inr at_ (Mk.below n)) = X1 at *
        generalize F.filter (Sht.inr (at_ + Mk.below n) (n - Mk.below n)) = X2 at *
        generalize F.filter (Sht.inr at_ n) = X at *
        generalize Sht.cnt F at_ (Mk.below n) = m1 at *
        generalize Sht.cnt F (at_ + Mk.below n) (n - Mk.below n) = m2 at *
        generalize Mk.node l a b = y at *
        generalize Mk.below n = k at *
        generalize nd.length = p0 at *
        have hkA : m1 ≤ capA := by omega
        have hkB : m1 ≤ capB := by omega
        have hkr : m2 ≤ capA - m1 := by omega
        have hkr2 : m2 ≤ capB - m1 := by omega
        have hkn : (m1 : Int) ≤ (m1 : Int) + (m2 : Int) := by omega
        have hb1 : ((n : Int) == 1) = false := by simpa using (show ¬ (n : Int) = 1 by omega)
        have hm0 : (((m1 + m2 : Nat) : Int) == 0) = false := by simpa using (show ¬ ((m1 + m2 : Nat) : Int) = 0 by omega)
        have hgl := hm.m.lt
        have hb0 := belowB w (.cells #[.int .i64 (at_ : Int), .int .i64 (n : Int)] 86)
        have H0 : RbW w (w.alloc (.cells #[.int .i64 (at_ : Int), .int .i64 (n : Int)] 86)) g nb tv l st Ap X B Lx C nd := (⟨hrA, hrB, hrC, hm, Mv.refl _ _⟩ : RbW w w g nb tv l st Ap X B Lx C nd).below hb0
        have HH := Lib.hid hH; clear hH
        have HI1 := Lib.hid I1; clear I1
        have HI2 := Lib.hid I2; clear I2
        have HI3 := Lib.hid I3; clear I3
        have HBf := Lib.hid hBf; clear hBf
        have HR := Lib.hid (And.intro r1 (And.intro r2 (And.intro r3 r4))); clear r1 r2 r3 r4
        have HQ := Lib.hid (And.intro q1 (And.intro q2 (And.intro hsum hn2))); clear q1 q2 hsum hn2
        clear hcc hrA hrB hrC hm hne
        unfold RebPost
        go_enter Tryd.func39, Tryd.ntmps39
        go_wp2_with fail
        refine (HH.out _).mono ?_
        rintro e w1 ⟨rfl, hb1'⟩
        have H1 := H0.below hb1'
        have hz0 := hb0.size
        have hz1 := hb1'.size
        clear hb0 hb1' H0
        go_upto_region 6 with (fail)
        have hH1 := (Has.made w1 86 #[.int .i64 (at_ : Int), .int .i64 (k : Int)]).of_alloc (.cells #[.int .i64 ((at_ : Int) + (k : Int)), .int .i64 ((n - k : Nat) : Int)] 86)
        have hH2 := Has.made (w1.alloc (.cells #[.int .i64 (at_ : Int), .int .i64 (k : Int)] 86)) 86 #[.int .i64 ((at_ : Int) + (k : Int)), .int .i64 ((n - k : Nat) : Int)]
        have H2 := (H1.below (belowB w1 (.cells #[.int .i64 (at_ : Int), .int .i64 (k : Int)] 86))).below (belowB _ (.cells #[.int .i64 ((at_ : Int) + (k : Int)), .int .i64 ((n - k : Nat) : Int)] 86))
        have hz : (w1.alloc (.cells #[.int .i64 (at_ : Int), .int .i64 (k : Int)] 86)).heap.size = w1.heap.size + 1 := by simp
        rw [hz] at hH2
        generalize (w1.alloc (.cells #[.int .i64 (at_ : Int), .int .i64 (k : Int)] 86)).alloc (.cells #[.int .i64 ((at_ : Int) + (k : Int)), .int .i64 ((n - k : Nat) : Int)] 86) = w2 at hH1 hH2 H2 ⊢
        have hzw : w.heap.size ≤ w1.heap.size := by omega
        clear hz H1 hz0 hz1
        generalize w1.heap.size = g1 at *
        have c0 : w2.cell? ⟨g1, 0, none⟩ = some (.int .i64 (at_ : Int)) := hH1.cell 0
        have c1 : w2.cell? ⟨g1, 1, none⟩ = some (.int .i64 (k : Int)) := hH1.cell 1
        have c2 : w2.cell? ⟨g1 + 1, 0, none⟩ = some (.int .i64 ((at_ : Int) + (k : Int))) := hH2.cell 0
        have c3 : w2.cell? ⟨g1 + 1, 1, none⟩ = some (.int .i64 ((n - k : Nat) : Int)) := hH2.cell 1
        have hl2 := hH2.lt
        clear hH1 hH2
        have hk1 : g1 ∉ [g, nb] := by simp only [List.mem_cons, List.not_mem_nil, or_false]; omega
        have hk2 : g1 + 1 ∉ [g, nb] := by simp only [List.mem_cons, List.not_mem_nil, or_false]; omega
        go_wp2_with fail
        refine (HBf.out _ H2.i).mono ?_
        rintro e w3 ⟨rfl, hb3⟩
        have hx0 : TwoL g1 (g1 + 1) at_ k ((at_ : Int) + (k : Int)) ((n - k : Nat) : Int) w3 := ⟨(hb3.cell (p := ⟨g1, 0, none⟩) (show g1 < _ by omega)).trans c0, (hb3.cell (p := ⟨g1, 1, none⟩) (show g1 < _ by omega)).trans c1, (hb3.cell (p := ⟨g1 + 1, 0, none⟩) hl2).trans c2, (hb3.cell (p := ⟨g1 + 1, 1, none⟩) hl2).trans c3⟩
        have H3 := H2.below hb3
        have hl3 := Nat.lt_of_lt_of_le hl2 hb3.size
        clear H2 hb3 c0 c1 c2 c3 hl2
        go_upto_region 7 with (fail)
        have hx : TwoL g1 (g1 + 1) at_ k ((at_ : Int) + (k : Int)) ((n - k : Nat) : Int) w3.drew := hx0
        have H4 := Lib.hid (H3.below (Below.drew (Below.refl w3.heap.size w3))); clear hx0 H3
        refine wp_region_held_drew (S := TwoL g1 (g1 + 1) at_ k ((at_ : Int) + (k : Int)) ((n - k : Nat) : Int)) (by kernel_rfl) hx (fun hHeld => ?_)
        first
        | (refine take_wanted (i := 0) (v := ?_) rfl rfl (by kernel_rfl) (by kernel_rfl) (by kernel_rfl) (fun _ _ _ h => h) (by rfl) (by assumption) ?_ ?_; rotate_left; (focus (intro w hSw; (try dsimp only at hSw); go_simp; first | done | with_reducible rfl)); (simp only [Act.at, List.setIfInBounds_toArray, List.set_cons_zero, List.set_cons_succ]))
        | (refine take_unwanted (i := 0) rfl rfl (by kernel_rfl) (by kernel_rfl) (by kernel_rfl) (fun _ _ _ h => h) (by rfl) (by assumption) ?_; (simp only [Act.at, List.setIfInBounds_toArray, List.set_cons_zero, List.set_cons_succ]))
        first
        | (refine take_wanted (i := 1) (v := ?_) rfl rfl (by kernel_rfl) (by kernel_rfl) (by kernel_rfl) (fun _ _ _ h => h) (by rfl) (by assumption) ?_ ?_; rotate_left; (focus (intro w hSw; (try dsimp only at hSw); go_simp; first | done | with_reducible rfl)); (simp only [Act.at, List.setIfInBounds_toArray, List.set_cons_zero, List.set_cons_succ]))
        | (refine take_unwanted (i := 1) rfl rfl (by kernel_rfl) (by kernel_rfl) (by kernel_rfl) (fun _ _ _ h => h) (by rfl) (by assumption) ?_; (simp only [Act.at, List.setIfInBounds_toArray, List.set_cons_zero, List.set_cons_succ]))
        first
        | (refine take_wanted (i := 2) (v := ?_) rfl rfl (by kernel_rfl) (by kernel_rfl) (by kernel_rfl) (fun _ _ _ h => h) (by rfl) (by assumption) ?_ ?_; rotate_left; (focus (intro w hSw; (try dsimp only at hSw); go_simp; first | done | with_reducible rfl)); (simp only [Act.at, List.setIfInBounds_toArray, List.set_cons_zero, List.set_cons_succ]))
        | (refine take_unwanted (i := 2) rfl rfl (by kernel_rfl) (by kernel_rfl) (by kernel_rfl) (fun _ _ _ h => h) (by rfl) (by assumption) ?_; (simp only [Act.at, List.setIfInBounds_toArray, List.set_cons_zero, List.set_cons_succ]))
        first
        | (refine take_wanted (i := 3) (v := ?_) rfl rfl (by kernel_rfl) (by kernel_rfl) (by kernel_rfl) (fun _ _ _ h => h) (by rfl) (by assumption) ?_ ?_; rotate_left; (focus (intro w hSw; (try dsimp only at hSw); go_simp; first | done | with_reducible rfl)); (simp only [Act.at, List.setIfInBounds_toArray, List.set_cons_zero, List.set_cons_succ]))
        | (refine take_unwanted (i := 3) rfl rfl (by kernel_rfl) (by kernel_rfl) (by kernel_rfl) (fun _ _ _ h => h) (by rfl) (by assumption) ?_; (simp only [Act.at, List.setIfInBounds_toArray, List.set_cons_zero, List.set_cons_succ]))
        first
        | (refine take_wanted (i := 4) (v := ?_) rfl rfl (by kernel_rfl) (by kernel_rfl) (by kernel_rfl) (fun _ _ _ h => h) (by rfl) (by assumption) ?_ ?_; rotate_left; (focus (intro w hSw; (try dsimp only at hSw); go_simp; (try simp only [hkA, if_true, if_false, Result.andThen_ok]); first | done | with_reducible rfl)); (simp only [Act.at, List.setIfInBounds_toArray, List.set_cons_zero, List.set_cons_succ]))
        | (refine take_unwanted (i := 4) rfl rfl (by kernel_rfl) (by kernel_rfl) (by kernel_rfl) (fun _ _ _ h => h) (by rfl) (by assumption) ?_; (simp only [Act.at, List.setIfInBounds_toArray, List.set_cons_zero, List.set_cons_succ]))
        first
        | (refine take_wanted (i := 5) (v := ?_) rfl rfl (by kernel_rfl) (by kernel_rfl) (by kernel_rfl) (fun _ _ _ h => h) (by rfl) (by assumption) ?_ ?_; rotate_left; (focus (intro w hSw; (try dsimp only at hSw); go_simp; first | done | with_reducible rfl)); (simp only [Act.at, List.setIfInBounds_toArray, List.set_cons_zero, List.set_cons_succ]))
        | (refine take_unwanted (i := 5) rfl rfl (by kernel_rfl) (by kernel_rfl) (by kernel_rfl) (fun _ _ _ h => h) (by rfl) (by assumption) ?_; (simp only [Act.at, List.setIfInBounds_toArray, List.set_cons_zero, List.set_cons_succ]))
        first
        | (refine take_wanted (i := 6) (v := ?_) rfl rfl (by kernel_rfl) (by kernel_rfl) (by kernel_rfl) (fun _ _ _ h => h) (by rfl) (by assumption) ?_ ?_; rotate_left; (focus (intro w hSw; (try dsimp only at hSw); go_simp; first | done | with_reducible rfl)); (simp only [Act.at, List.setIfInBounds_toArray, List.set_cons_zero, List.set_cons_succ]))
        | (refine take_unwanted (i := 6) rfl rfl (by kernel_rfl) (by kernel_rfl) (by kernel_rfl) (fun _ _ _ h => h) (by rfl) (by assumption) ?_; (simp only [Act.at, List.setIfInBounds_toArray, List.set_cons_zero, List.set_cons_succ]))
        first
        | (refine take_wanted (i := 7) (v := ?_) rfl rfl (by kernel_rfl) (by kernel_rfl) (by kernel_rfl) (fun _ _ _ h => h) (by rfl) (by assumption) ?_ ?_; rotate_left; (focus (intro w hSw; (try dsimp only at hSw); go_simp; (try simp only [hkB, if_true, if_false, Result.andThen_ok]); first | done | with_reducible rfl)); (simp only [Act.at, List.setIfInBounds_toArray, List.set_cons_zero, List.set_cons_succ]))
        | (refine take_unwanted (i := 7) rfl rfl (by kernel_rfl) (by kernel_rfl) (by kernel_rfl) (fun _ _ _ h => h) (by rfl) (by assumption) ?_; (simp only [Act.at, List.setIfInBounds_toArray, List.set_cons_zero, List.set_cons_succ]))
        first
        | (refine take_wanted (i := 8) (v := ?_) rfl rfl (by kernel_rfl) (by kernel_rfl) (by kernel_rfl) (fun _ _ _ h => h) (by rfl) (by assumption) ?_ ?_; rotate_left; (focus (intro w hSw; (try dsimp only at hSw); go_simp; first | done | with_reducible rfl)); (simp only [Act.at, List.setIfInBounds_toArray, List.set_cons_zero, List.set_cons_succ]))
        | (refine take_unwanted (i := 8) rfl rfl (by kernel_rfl) (by kernel_rfl) (by kernel_rfl) (fun _ _ _ h => h) (by rfl) (by assumption) ?_; (simp only [Act.at, List.setIfInBounds_toArray, List.set_cons_zero, List.set_cons_succ]))
        refine take_call (i := 9) (by kernel_rfl) rfl rfl (by rfl) (fun K hK => ?_)
        go_simp
        refine (HI1.out _ _ _ _ _ _ _ _ hkA hmA (HR.out.1 _ H4.out.i) hkB hmB (HR.out.2.2.1 _ H4.out.s) hcC hmC H4.out.c (by have := HQ.out.2.2.1; omega) H4.out.m).mono ?_
        rintro e w5 ⟨C5, cap5, rfl, hc5, hcm5, hr5, hm5, hv5⟩
        have hx5 := TwoL.mv hx hv5 (show g1 < w3.heap.size by omega) hl3 hk1 hk2
        have hl5 : g1 + 1 < w5.heap.size := Nat.lt_of_lt_of_le hl3 hv5.size
        have H5 := Lib.hid (H4.out.step hv5 hm5 hr5)
        clear hx hHeld H4 hr5 hm5 hv5
        refine hK.out _ _ hx5 (fun hHeld => ?_)
        clear hK K
        try simp only [Act.put, List.setIfInBounds_toArray, List.set_cons_zero, List.set_cons_succ]
        first
        | (refine take_wanted (i := 10) (v := ?_) rfl rfl (by kernel_rfl) (by kernel_rfl) (by kernel_rfl) (fun _ _ _ h => h) (by rfl) (by assumption) ?_ ?_; rotate_left; (focus (intro w hSw; (try dsimp only at hSw); go_simp; first | done | with_reducible rfl)); (simp only [Act.at, List.setIfInBounds_toArray, List.set_cons_zero, List.set_cons_succ]))
        | (refine take_unwanted (i := 10) rfl rfl (by kernel_rfl) (by kernel_rfl) (by kernel_rfl) (fun _ _ _ h => h) (by rfl) (by assumption) ?_; (simp only [Act.at, List.setIfInBounds_toArray, List.set_cons_zero, List.set_cons_succ]))
        first
        | (refine take_wanted (i := 11) (v := ?_) rfl rfl (by kernel_rfl) (by kernel_rfl) (by kernel_rfl) (fun _ _ _ h => h) (by rfl) (by assumption) ?_ ?_; rotate_left; (focus (intro w hSw; (try dsimp only at hSw); go_simp; first | done | with_reducible rfl)); (simp only [Act.at, List.setIfInBounds_toArray, List.set_cons_zero, List.set_cons_succ]))
        | (refine take_unwanted (i := 11) rfl rfl (by kernel_rfl) (by kernel_rfl) (by kernel_rfl) (fun _ _ _ h => h) (by rfl) (by assumption) ?_; (simp only [Act.at, List.setIfInBounds_toArray, List.set_cons_zero, List.set_cons_succ]))
        first
        | (refine take_wanted (i := 12) (v := ?_) rfl rfl (by kernel_rfl) (by kernel_rfl) (by kernel_rfl) (fun _ _ _ h => h) (by rfl) (by assumption) ?_ ?_; rotate_left; (focus (intro w hSw; (try dsimp only at hSw); go_simp; first | done | with_reducible rfl)); (simp only [Act.at, List.setIfInBounds_toArray, List.set_cons_zero, List.set_cons_succ]))
        | (refine take_unwanted (i := 12) rfl rfl (by kernel_rfl) (by kernel_rfl) (by kernel_rfl) (fun _ _ _ h => h) (by rfl) (by assumption) ?_; (simp only [Act.at, List.setIfInBounds_toArray, List.set_cons_zero, List.set_cons_succ]))
        first
        | (refine take_wanted (i := 13) (v := ?_) rfl rfl (by kernel_rfl) (by kernel_rfl) (by kernel_rfl) (fun _ _ _ h => h) (by rfl) (by assumption) ?_ ?_; rotate_left; (focus (intro w hSw; (try dsimp only at hSw); go_simp; first | done | with_reducible rfl)); (simp only [Act.at, List.setIfInBounds_toArray, List.set_cons_zero, List.set_cons_succ]))
        | (refine take_unwanted (i := 13) rfl rfl (by kernel_rfl) (by kernel_rfl) (by kernel_rfl) (fun _ _ _ h => h) (by rfl) (by assumption) ?_; (simp only [Act.at, List.setIfInBounds_toArray, List.set_cons_zero, List.set_cons_succ]))
        first
        | (refine take_wanted (i := 14) (v := ?_) rfl rfl (by kernel_rfl) (by kernel_rfl) (by kernel_rfl) (fun _ _ _ h => h) (by rfl) (by assumption) ?_ ?_; rotate_left; (focus (intro w hSw; (try dsimp only at hSw); go_simp; first | done | with_reducible rfl)); (simp only [Act.at, List.setIfInBounds_toArray, List.set_cons_zero, List.set_cons_succ]))
        | (refine take_unwanted (i := 14) rfl rfl (by kernel_rfl) (by kernel_rfl) (by kernel_rfl) (fun _ _ _ h => h) (by rfl) (by assumption) ?_; (simp only [Act.at, List.setIfInBounds_toArray, List.set_cons_zero, List.set_cons_succ]))
        refine wpAnyH_done (by kernel_rfl) ?_ _
        go_upto_region 8 with (fail)
        have hx6 : TwoL g1 (g1 + 1) at_ k ((at_ : Int) + (k : Int)) ((n - k : Nat) : Int) w5.drew := hx5
        have H6 := Lib.hid (H5.out.below (Below.drew (Below.refl w5.heap.size w5))); clear hx5 H5 hHeld
        refine wp_region_held_drew (S := TwoL g1 (g1 + 1) at_ k ((at_ : Int) + (k : Int)) ((n - k : Nat) : Int)) (by kernel_rfl) hx6 (fun hHeld => ?_)
        first
        | (refine take_wanted (i := 0) (v := ?_) rfl rfl (by kernel_rfl) (by kernel_rfl) (by kernel_rfl) (fun _ _ _ h => h) (by rfl) (by assumption) ?_ ?_; rotate_left; (focus (intro w hSw; (try dsimp only at hSw); go_simp; first | done | with_reducible rfl)); (simp only [Act.at, List.setIfInBounds_toArray, List.set_cons_zero, List.set_cons_succ]))
        | (refine take_unwanted (i := 0) rfl rfl (by kernel_rfl) (by kernel_rfl) (by kernel_rfl) (fun _ _ _ h => h) (by rfl) (by assumption) ?_; (simp only [Act.at, List.setIfInBounds_toArray, List.set_cons_zero, List.set_cons_succ]))
        first
        | (refine take_wanted (i := 1) (v := ?_) rfl rfl (by kernel_rfl) (by kernel_rfl) (by kernel_rfl) (fun _ _ _ h => h) (by rfl) (by assumption) ?_ ?_; rotate_left; (focus (intro w hSw; (try dsimp only at hSw); go_simp; first | done | with_reducible rfl)); (simp only [Act.at, List.setIfInBounds_toArray, List.set_cons_zero, List.set_cons_succ]))
        | (refine take_unwanted (i := 1) rfl rfl (by kernel_rfl) (by kernel_rfl) (by kernel_rfl) (fun _ _ _ h => h) (by rfl) (by assumption) ?_; (simp only [Act.at, List.setIfInBounds_toArray, List.set_cons_zero, List.set_cons_succ]))
        first
        | (refine take_wanted (i := 2) (v := ?_) rfl rfl (by kernel_rfl) (by kernel_rfl) (by kernel_rfl) (fun _ _ _ h => h) (by rfl) (by assumption) ?_ ?_; rotate_left; (focus (intro w hSw; (try dsimp only at hSw); go_simp; first | done | with_reducible rfl)); (simp only [Act.at, List.setIfInBounds_toArray, List.set_cons_zero, List.set_cons_succ]))
        | (refine take_unwanted (i := 2) rfl rfl (by kernel_rfl) (by kernel_rfl) (by kernel_rfl) (fun _ _ _ h => h) (by rfl) (by assumption) ?_; (simp only [Act.at, List.setIfInBounds_toArray, List.set_cons_zero, List.set_cons_succ]))
        first
        | (refine take_wanted (i := 3) (v := ?_) rfl rfl (by kernel_rfl) (by kernel_rfl) (by kernel_rfl) (fun _ _ _ h => h) (by rfl) (by assumption) ?_ ?_; rotate_left; (focus (intro w hSw; (try dsimp only at hSw); go_simp; first | done | with_reducible rfl)); (simp only [Act.at, List.setIfInBounds_toArray, List.set_cons_zero, List.set_cons_succ]))
        | (refine take_unwanted (i := 3) rfl rfl (by kernel_rfl) (by kernel_rfl) (by kernel_rfl) (fun _ _ _ h => h) (by rfl) (by assumption) ?_; (simp only [Act.at, List.setIfInBounds_toArray, List.set_cons_zero, List.set_cons_succ]))
        first
        | (refine take_wanted (i := 4) (v := ?_) rfl rfl (by kernel_rfl) (by kernel_rfl) (by kernel_rfl) (fun _ _ _ h => h) (by rfl) (by assumption) ?_ ?_; rotate_left; (focus (intro w hSw; (try dsimp only at hSw); go_simp; (try simp only [hkn, hkA, if_true, if_false, Result.andThen_ok]); first | done | with_reducible rfl)); (simp only [Act.at, List.setIfInBounds_toArray, List.set_cons_zero, List.set_cons_succ]))
        | (refine take_unwanted (i := 4) rfl rfl (by kernel_rfl) (by kernel_rfl) (by kernel_rfl) (fun _ _ _ h => h) (by rfl) (by assumption) ?_; (simp only [Act.at, List.setIfInBounds_toArray, List.set_cons_zero, List.set_cons_succ]))
        first
        | (refine take_wanted (i := 5) (v := ?_) rfl rfl (by kernel_rfl) (by kernel_rfl) (by kernel_rfl) (fun _ _ _ h => h) (by rfl) (by assumption) ?_ ?_; rotate_left; (focus (intro w hSw; (try dsimp only at hSw); go_simp; first | done | with_reducible rfl)); (simp only [Act.at, List.setIfInBounds_toArray, List.set_cons_zero, List.set_cons_succ]))
        | (refine take_unwanted (i := 5) rfl rfl (by kernel_rfl) (by kernel_rfl) (by kernel_rfl) (fun _ _ _ h => h) (by rfl) (by assumption) ?_; (simp only [Act.at, List.setIfInBounds_toArray, List.set_cons_zero, List.set_cons_succ]))
        first
        | (refine take_wanted (i := 6) (v := ?_) rfl rfl (by kernel_rfl) (by kernel_rfl) (by kernel_rfl) (fun _ _ _ h => h) (by rfl) (by assumption) ?_ ?_; rotate_left; (focus (intro w hSw; (try dsimp only at hSw); go_simp; first | done | with_reducible rfl)); (simp only [Act.at, List.setIfInBounds_toArray, List.set_cons_zero, List.set_cons_succ]))
        | (refine take_unwanted (i := 6) rfl rfl (by kernel_rfl) (by kernel_rfl) (by kernel_rfl) (fun _ _ _ h => h) (by rfl) (by assumption) ?_; (simp only [Act.at, List.setIfInBounds_toArray, List.set_cons_zero, List.set_cons_succ]))
        first
        | (refine take_wanted (i := 7) (v := ?_) rfl rfl (by kernel_rfl) (by kernel_rfl) (by kernel_rfl) (fun _ _ _ h => h) (by rfl) (by assumption) ?_ ?_; rotate_left; (focus (intro w hSw; (try dsimp only at hSw); go_simp; (try simp only [hkn, hkB, if_true, if_false, Result.andThen_ok]); first | done | with_reducible rfl)); (simp only [Act.at, List.setIfInBounds_toArray, List.set_cons_zero, List.set_cons_succ]))
        | (refine take_unwanted (i := 7) rfl rfl (by kernel_rfl) (by kernel_rfl) (by kernel_rfl) (fun _ _ _ h => h) (by rfl) (by assumption) ?_; (simp only [Act.at, List.setIfInBounds_toArray, List.set_cons_zero, List.set_cons_succ]))
        first
        | (refine take_wanted (i := 8) (v := ?_) rfl rfl (by kernel_rfl) (by kernel_rfl) (by kernel_rfl) (fun _ _ _ h => h) (by rfl) (by assumption) ?_ ?_; rotate_left; (focus (intro w hSw; (try dsimp only at hSw); go_simp; first | done | with_reducible rfl)); (simp only [Act.at, List.setIfInBounds_toArray, List.set_cons_zero, List.set_cons_succ]))
        | (refine take_unwanted (i := 8) rfl rfl (by kernel_rfl) (by kernel_rfl) (by kernel_rfl) (fun _ _ _ h => h) (by rfl) (by assumption) ?_; (simp only [Act.at, List.setIfInBounds_toArray, List.set_cons_zero, List.set_cons_succ]))
        generalize (if capA = m1 then Ap else Option.map (fun x => x.add m1) Ap) = A6 at *
        generalize (if capB = m1 then B else Option.map (fun x => x.add m1) B) = B6 at *
        refine take_call (i := 9) (by kernel_rfl) rfl rfl (by rfl) (fun K hK => ?_)
        go_simp
        refine (HI2.out _ _ _ _ _ _ _ _ hkr (by omega) (HR.out.2.1 _ H6.out.i) hkr2 (by omega) (HR.out.2.2.2 _ H6.out.s) hc5 hcm5 H6.out.c (by rw [Mill.steps_sums]; have := HQ.out.1; have := HQ.out.2.2.1; omega) H6.out.m).mono ?_
        rintro e w7 ⟨C7, cap7, rfl, hc7, hcm7, hr7, hm7, hv7⟩
        have hx7 := TwoL.mv hx6 hv7 (show g1 < w5.heap.size by omega) hl5 hk1 hk2
        have H7 := Lib.hid (H6.out.step hv7 hm7 hr7)
        clear hx6 hHeld H6 hr7 hm7 hv7
        refine hK.out _ _ hx7 (fun hHeld => ?_)
        clear hK K
        try simp only [Act.put, List.setIfInBounds_toArray, List.set_cons_zero, List.set_cons_succ]
        first
        | (refine take_wanted (i := 10) (v := ?_) rfl rfl (by kernel_rfl) (by kernel_rfl) (by kernel_rfl) (fun _ _ _ h => h) (by rfl) (by assumption) ?_ ?_; rotate_left; (focus (intro w hSw; (try dsimp only at hSw); go_simp; first | done | with_reducible rfl)); (simp only [Act.at, List.setIfInBounds_toArray, List.set_cons_zero, List.set_cons_succ]))
        | (refine take_unwanted (i := 10) rfl rfl (by kernel_rfl) (by kernel_rfl) (by kernel_rfl) (fun _ _ _ h => h) (by rfl) (by assumption) ?_; (simp only [Act.at, List.setIfInBounds_toArray, List.set_cons_zero, List.set_cons_succ]))
        first
        | (refine take_wanted (i := 11) (v := ?_) rfl rfl (by kernel_rfl) (by kernel_rfl) (by kernel_rfl) (fun _ _ _ h => h) (by rfl) (by assumption) ?_ ?_; rotate_left; (focus (intro w hSw; (try dsimp only at hSw); go_simp; first | done | with_reducible rfl)); (simp only [Act.at, List.setIfInBounds_toArray, List.set_cons_zero, List.set_cons_succ]))
        | (refine take_unwanted (i := 11) rfl rfl (by kernel_rfl) (by kernel_rfl) (by kernel_rfl) (fun _ _ _ h => h) (by rfl) (by assumption) ?_; (simp only [Act.at, List.setIfInBounds_toArray, List.set_cons_zero, List.set_cons_succ]))
        first
        | (refine take_wanted (i := 12) (v := ?_) rfl rfl (by kernel_rfl) (by kernel_rfl) (by kernel_rfl) (fun _ _ _ h => h) (by rfl) (by assumption) ?_ ?_; rotate_left; (focus (intro w hSw; (try dsimp only at hSw); go_simp; first | done | with_reducible rfl)); (simp only [Act.at, List.setIfInBounds_toArray, List.set_cons_zero, List.set_cons_succ]))
        | (refine take_unwanted (i := 12) rfl rfl (by kernel_rfl) (by kernel_rfl) (by kernel_rfl) (fun _ _ _ h => h) (by rfl) (by assumption) ?_; (simp only [Act.at, List.setIfInBounds_toArray, List.set_cons_zero, List.set_cons_succ]))
        first
        | (refine take_wanted (i := 13) (v := ?_) rfl rfl (by kernel_rfl) (by kernel_rfl) (by kernel_rfl) (fun _ _ _ h => h) (by rfl) (by assumption) ?_ ?_; rotate_left; (focus (intro w hSw; (try dsimp only at hSw); go_simp; first | done | with_reducible rfl)); (simp only [Act.at, List.setIfInBounds_toArray, List.set_cons_zero, List.set_cons_succ]))
        | (refine take_unwanted (i := 13) rfl rfl (by kernel_rfl) (by kernel_rfl) (by kernel_rfl) (fun _ _ _ h => h) (by rfl) (by assumption) ?_; (simp only [Act.at, List.setIfInBounds_toArray, List.set_cons_zero, List.set_cons_succ]))
        first
        | (refine take_wanted (i := 14) (v := ?_) rfl rfl (by kernel_rfl) (by kernel_rfl) (by kernel_rfl) (fun _ _ _ h => h) (by rfl) (by assumption) ?_ ?_; rotate_left; (focus (intro w hSw; (try dsimp only at hSw); go_simp; first | done | with_reducible rfl)); (simp only [Act.at, List.setIfInBounds_toArray, List.set_cons_zero, List.set_cons_succ]))
        | (refine take_unwanted (i := 14) rfl rfl (by kernel_rfl) (by kernel_rfl) (by kernel_rfl) (fun _ _ _ h => h) (by rfl) (by assumption) ?_; (simp only [Act.at, List.setIfInBounds_toArray, List.set_cons_zero, List.set_cons_succ]))
        refine wpAnyH_done (by kernel_rfl) ?_ _
        go_wp2_with fail
        all_goals
          refine (HI3.out _ _ H7.out.m (by rw [Mill.steps_sums, Mill.steps_sums]; have := HQ.out.1; have := HQ.out.2.1; have := HQ.out.2.2.1; omega)).mono ?_
          rintro e w8 ⟨rfl, hm8, hv8⟩
          have H8 := H7.out.c.mv hv8 (fun x hx => hx)
          have hv := H7.out.v.trans hv8
          rw [← Mill.steps_app, ← Mill.steps_app, ← List.append_assoc] at hm8
          go_wp2_with fail
          all_goals
            go_ret2
            exact ⟨C7, cap7, rfl, hc7, hcm7, H8, hm8, hv⟩
      · have hn1 : n = 1 := by omega
        subst hn1
        have hc1 : Sht.cnt F at_ 1 = 1 := by unfold Sht.cnt; rw [Sht.one at_ F hF h]; rfl
        rw [Sht.buildAsks_leaf l F at_ 1 lf nd h h2]
        rw [Sht.build_leaf l F at_ 1 lf nd h h2] at hbd
        rw [hc1] at hrB ⊢
        match lf, hbd, hrB with
        | x :: rr, hbd, hrB =>
          rw [List.head?_cons, Option.map_some] at hbd
          injection hbd with hbd
          injection hbd with e3 hbd
          injection hbd with e4 e5
          rw [← e3, ← e5]
          exact reb_leaf g nb tv l C x nd B Ap capA capB capC (at_ : Int) st w hm hrB hrC hcC hmC
end
end Go.Proofs.YtgjknfphmmlcdaaDoor
