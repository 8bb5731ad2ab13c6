/-
  The contract of the program's Grown.
-/
import Derived.Test.YtphhaiccpllnpaaDoorMkLead
import Derived.Test.YtphhaiccpllnpaaDoorMkClimbE
import Derived.Test.YtphhaiccpllnpaaDoorTake
namespace Go.Proofs.YtphhaiccpllnpaaDoor
open Go.RowKit
set_option linter.unusedVariables false

theorem belowB2 (w : World) (A B : Obj) : Below w.heap.size w ((w.alloc A).alloc B) := ((Below.refl _ w).alloc (Nat.le_refl _) A).alloc ((Below.refl _ w).alloc (Nat.le_refl _) A).size B
def ptc (a : Int) (r : List UInt8) : Array Value := #[.int .i64 a, .string (S r)]
/-- Two points lie in two new blocks behind w. -/
structure PB (w W : World) (a n : Int) (ra rn : List UInt8) : Prop where
  a : Has W w.heap.size 47 (ptc a ra)
  b : Has W (w.heap.size + 1) 47 (ptc n rn)
  u : Below w.heap.size w W
theorem PB.made (w : World) (a n : Int) (ra rn : List UInt8) : PB w ((w.alloc (.cells #[.int .i64 a, .string (S ra)] 47)).alloc (.cells #[.int .i64 n, .string (S rn)] 47)) a n ra rn := by
  refine ⟨(Has.made w 47 (ptc a ra)).of_alloc _, ?_, belowB2 w _ _⟩
  have := Has.made (w.alloc (.cells #[.int .i64 a, .string (S ra)] 47)) 47 (ptc n rn)
  rwa [show (w.alloc (.cells #[.int .i64 a, .string (S ra)] 47)).heap.size = w.heap.size + 1 from by simp] at this
theorem PB.below {w W W' : World} {a n : Int} {ra rn : List UInt8} (h : PB w W a n ra rn) (hb : Below W.heap.size W W') : PB w W' a n ra rn := ⟨h.a.below hb h.a.lt, h.b.below hb h.b.lt, h.u.trans (hb.mono h.u.size)⟩
theorem PB.drew {w W : World} {a n : Int} {ra rn : List UInt8} (h : PB w W a n ra rn) : PB w W.drew a n ra rn := h.below (Below.drew (Below.refl _ _))
theorem PB.mv {w W W' : World} {a n : Int} {ra rn : List UInt8} {s : List Nat} (h : PB w W a n ra rn) (hm : Mv W W' s) (hs : ∀ x ∈ s, x < w.heap.size) : Has W' w.heap.size 47 (ptc a ra) ∧ Has W' (w.heap.size + 1) 47 (ptc n rn) :=
  ⟨hm.has h.a (fun hx => by have := hs _ hx; omega), hm.has h.b (fun hx => by have := hs _ hx; omega)⟩
theorem PB.u' {w W : World} {a n : Int} {ra rn : List UInt8} (h : PB w W a n ra rn) : Below w.heap.size w W := h.u
/-- The cells of both points. -/
abbrev PLie (s : Nat) (a n : Int) (ra rn : List UInt8) (W : World) : Prop :=
  W.cell? ⟨s, 0, none⟩ = some (.int .i64 a) ∧ W.cell? ⟨s, 1, none⟩ = some (.string (S ra)) ∧ W.cell? ⟨s + 1, 0, none⟩ = some (.int .i64 n) ∧ W.cell? ⟨s + 1, 1, none⟩ = some (.string (S rn))
theorem PLie.of {s : Nat} {a n : Int} {ra rn : List UInt8} {W : World} (h1 : Has W s 47 (ptc a ra)) (h2 : Has W (s + 1) 47 (ptc n rn)) : PLie s a n ra rn W := ⟨h1.cell 0, h1.cell 1, h2.cell 0, h2.cell 1⟩
theorem PB.lie {w W : World} {a n : Int} {ra rn : List UInt8} (h : PB w W a n ra rn) : PLie w.heap.size a n ra rn W := PLie.of h.a h.b

section
variable (g nb : Nat) (tv : Option Nat) (l : List Mill.En)

def noneC (l : List Mill.En) (n : Int) (ra rn : List UInt8) (p : List (List UInt8)) : Int := if ra = Mk.nil l ∧ (n = 0 → rn = ra) then (if p = [] then 0 else 20) else 19
theorem none_fin (l : List Mill.En) (n : Int) (ra rn : List UInt8) (p : List (List UInt8)) : (((ra == Mk.nil l) = false) ∧ noneC l n ra rn p = 19) ∨ (((ra == Mk.nil l) = true) ∧ (n == 0) = true ∧ (rn == ra) = false ∧ noneC l n ra rn p = 19) ∨
      (((ra == Mk.nil l) = true) ∧ (n == 0) = true ∧ (rn == ra) = true ∧ (p.length : Int) > 0 ∧ noneC l n ra rn p = 20) ∨ (((ra == Mk.nil l) = true) ∧ (n == 0) = true ∧ (rn == ra) = true ∧ ¬ (p.length : Int) > 0 ∧ noneC l n ra rn p = 0) ∨
      (((ra == Mk.nil l) = true) ∧ (n == 0) = false ∧ (p.length : Int) > 0 ∧ noneC l n ra rn p = 20) ∨ (((ra == Mk.nil l) = true) ∧ (n == 0) = false ∧ ¬ (p.length : Int) > 0 ∧ noneC l n ra rn p = 0) := by
    unfold noneC
    have hp : p = [] ↔ ¬ (p.length : Int) > 0 := by
      rw [← List.length_eq_zero_iff]; omega
    by_cases h1 : ra = Mk.nil l
    · by_cases h2 : n = 0
      · by_cases h3 : rn = ra
        · rw [if_pos ⟨h1, fun _ => h3⟩]
          by_cases h4 : p = []
          · exact Or.inr (Or.inr (Or.inr (Or.inl ⟨by simpa using h1, by simpa using h2, by simpa using h3, hp.1 h4, if_pos h4⟩)))
          · exact Or.inr (Or.inr (Or.inl ⟨by simpa using h1, by simpa using h2, by simpa using h3, Decidable.of_not_not (fun h => h4 (hp.2 h)), if_neg h4⟩))
        · rw [if_neg (fun h => h3 (h.2 h2))]
          exact Or.inr (Or.inl ⟨by simpa using h1, by simpa using h2, by simpa using h3, rfl⟩)
      · rw [if_pos ⟨h1, fun h => absurd h h2⟩]
        by_cases h4 : p = []
        · exact Or.inr (Or.inr (Or.inr (Or.inr (Or.inr ⟨by simpa using h1, by simpa using h2, hp.1 h4, if_pos h4⟩))))
        · exact Or.inr (Or.inr (Or.inr (Or.inr (Or.inl ⟨by simpa using h1, by simpa using h2, Decidable.of_not_not (fun h => h4 (hp.2 h)), if_neg h4⟩))))
    · rw [if_neg (fun h => h1 h.1)]
      exact Or.inl ⟨by simpa using h1, rfl⟩

set_option maxRecDepth 100000 in
set_option maxHeartbeats 4000000 in
theorem fromNone_any (hr : Mill.right l = true) (a n : Int) (ra rn : List UInt8) (p : List (List UInt8)) (A : Option Addr) (cap : Nat) (st : Mill.St) (w : World) (hsum : st.sums ≤ 1000000) (hm : MkW w g nb tv l st) :
    Calls Tryd.prog 49 #[.pointer (some ⟨g, 0, none⟩), .agg #[.int .i64 a, .string (S ra)], .agg #[.int .i64 n, .string (S rn)], .slice A p.length cap] w (MkPost w g nb tv l st [[]] (.int .i64 (noneC l n ra rn p))) := by
  have hN := fun W (hW : MkW W g nb tv l st) => mkNone_any g nb tv l hr st W hW (by omega)
  have hgn := hm.m.lt
  have hfin := none_fin l n ra rn p
  unfold MkPost at hN ⊢
  generalize noneC l n ra rn p = code at hfin ⊢
  generalize Mk.nil l = x at hN hfin
  generalize Mill.steps l [[]] st = st' at hN ⊢
  generalize p.length = k at hfin ⊢
  have HN := Lib.hid hN; clear hN
  have HM := Lib.hid hm; clear hm
  rcases hfin with ⟨f1, rfl⟩ | ⟨f1, f2, f3, rfl⟩ | ⟨f1, f2, f3, f4, rfl⟩ | ⟨f1, f2, f3, f4, rfl⟩ | ⟨f1, f2, f4, rfl⟩ | ⟨f1, f2, f4, rfl⟩
  all_goals
    go_enter Tryd.func49, Tryd.ntmps49
    go_upto_region 1 with (fail)
    have HB := Lib.hid (PB.made w a n ra rn)
    generalize (w.alloc (.cells #[.int .i64 a, .string (S ra)] 47)).alloc (.cells #[.int .i64 n, .string (S rn)] 47) = W0 at HB ⊢
    have hx : PLie w.heap.size a n ra rn W0.drew := HB.out.drew.lie
    have H0 := Lib.hid (And.intro (HM.out.below HB.out.drew.u') HB.out.drew)
    refine wp_region_held_drew (S := PLie w.heap.size a n ra rn) (by kernel_rfl) hx (fun hHeld => ?_)
    first
    | (refine take_wanted (i := 0) (v := ?_) rfl rfl (by kernel_rfl) (by kernel_rfl) (by kernel_rfl) (fun _ _ _ h => h) (by rfl) (by assumption) ?_ ?_; rotate_left; (focus (intro w hSw; (try dsimp only at hSw); go_simp; first | done | with_reducible rfl)); (simp only [Act.at, List.setIfInBounds_toArray, List.set_cons_zero, List.set_cons_succ]))
    | (refine take_unwanted (i := 0) rfl rfl (by kernel_rfl) (by kernel_rfl) (by kernel_rfl) (fun _ _ _ h => h) (by rfl) (by assumption) ?_; (simp only [Act.at, List.setIfInBounds_toArray, List.set_cons_zero, List.set_cons_succ]))
    first
    | (refine take_wanted (i := 1) (v := ?_) rfl rfl (by kernel_rfl) (by kernel_rfl) (by kernel_rfl) (fun _ _ _ h => h) (by rfl) (by assumption) ?_ ?_; rotate_left; (focus (intro w hSw; (try dsimp only at hSw); go_simp; first | done | with_reducible rfl)); (simp only [Act.at, List.setIfInBounds_toArray, List.set_cons_zero, List.set_cons_succ]))
    | (refine take_unwanted (i := 1) rfl rfl (by kernel_rfl) (by kernel_rfl) (by kernel_rfl) (fun _ _ _ h => h) (by rfl) (by assumption) ?_; (simp only [Act.at, List.setIfInBounds_toArray, List.set_cons_zero, List.set_cons_succ]))
    first
    | (refine take_wanted (i := 2) (v := ?_) rfl rfl (by kernel_rfl) (by kernel_rfl) (by kernel_rfl) (fun _ _ _ h => h) (by rfl) (by assumption) ?_ ?_; rotate_left; (focus (intro w hSw; (try dsimp only at hSw); go_simp; first | done | with_reducible rfl)); (simp only [Act.at, List.setIfInBounds_toArray, List.set_cons_zero, List.set_cons_succ]))
    | (refine take_unwanted (i := 2) rfl rfl (by kernel_rfl) (by kernel_rfl) (by kernel_rfl) (fun _ _ _ h => h) (by rfl) (by assumption) ?_; (simp only [Act.at, List.setIfInBounds_toArray, List.set_cons_zero, List.set_cons_succ]))
    refine take_call (i := 3) (by kernel_rfl) rfl rfl (by rfl) (fun K hK => ?_)
    go_simp
    refine (HN.out _ H0.out.1).mono ?_
    rintro r w1 ⟨rfl, hm1, hv1⟩
    have hk := H0.out.2.mv hv1 (by intro y hy; simp only [List.mem_cons, List.not_mem_nil, or_false] at hy; omega)
    have hx1 := PLie.of hk.1 hk.2
    have hv2 := (Mv.of_below H0.out.2.u' [g, nb]).trans hv1
    clear hx hHeld hk hv1
    refine hK.out _ _ hx1 (fun hHeld => ?_)
    clear hK K
    try simp only [Act.put, List.setIfInBounds_toArray, List.set_cons_zero, List.set_cons_succ]
    first
    | (refine take_wanted (i := 4) (v := ?_) rfl rfl (by kernel_rfl) (by kernel_rfl) (by kernel_rfl) (fun _ _ _ h => h) (by rfl) (by assumption) ?_ ?_; rotate_left; (focus (intro w hSw; (try dsimp only at hSw); go_simp; first | done | with_reducible rfl)); (simp only [Act.at, List.setIfInBounds_toArray, List.set_cons_zero, List.set_cons_succ]))
    | (refine take_unwanted (i := 4) rfl rfl (by kernel_rfl) (by kernel_rfl) (by kernel_rfl) (fun _ _ _ h => h) (by rfl) (by assumption) ?_; (simp only [Act.at, List.setIfInBounds_toArray, List.set_cons_zero, List.set_cons_succ]))
    first
    | (refine take_wanted (i := 5) (v := ?_) rfl rfl (by kernel_rfl) (by kernel_rfl) (by kernel_rfl) (fun _ _ _ h => h) (by rfl) (by assumption) ?_ ?_; rotate_left; (focus (intro w hSw; (try dsimp only at hSw); go_simp; first | done | with_reducible rfl)); (simp only [Act.at, List.setIfInBounds_toArray, List.set_cons_zero, List.set_cons_succ]))
    | (refine take_unwanted (i := 5) rfl rfl (by kernel_rfl) (by kernel_rfl) (by kernel_rfl) (fun _ _ _ h => h) (by rfl) (by assumption) ?_; (simp only [Act.at, List.setIfInBounds_toArray, List.set_cons_zero, List.set_cons_succ]))
    first
    | (refine take_wanted (i := 6) (v := ?_) rfl rfl (by kernel_rfl) (by kernel_rfl) (by kernel_rfl) (fun _ _ _ h => h) (by rfl) (by assumption) ?_ ?_; rotate_left; (focus (intro w hSw; (try dsimp only at hSw); go_simp; first | done | with_reducible rfl)); (simp only [Act.at, List.setIfInBounds_toArray, List.set_cons_zero, List.set_cons_succ]))
    | (refine take_unwanted (i := 6) rfl rfl (by kernel_rfl) (by kernel_rfl) (by kernel_rfl) (fun _ _ _ h => h) (by rfl) (by assumption) ?_; (simp only [Act.at, List.setIfInBounds_toArray, List.set_cons_zero, List.set_cons_succ]))
    first
    | (refine take_wanted (i := 7) (v := ?_) rfl rfl (by kernel_rfl) (by kernel_rfl) (by kernel_rfl) (fun _ _ _ h => h) (by rfl) (by assumption) ?_ ?_; rotate_left; (focus (intro w hSw; (try dsimp only at hSw); go_simp; first | done | with_reducible rfl)); (simp only [Act.at, List.setIfInBounds_toArray, List.set_cons_zero, List.set_cons_succ]))
    | (refine take_unwanted (i := 7) rfl rfl (by kernel_rfl) (by kernel_rfl) (by kernel_rfl) (fun _ _ _ h => h) (by rfl) (by assumption) ?_; (simp only [Act.at, List.setIfInBounds_toArray, List.set_cons_zero, List.set_cons_succ]))
    first
    | (refine take_wanted (i := 8) (v := ?_) rfl rfl (by kernel_rfl) (by kernel_rfl) (by kernel_rfl) (fun _ _ _ h => h) (by rfl) (by assumption) ?_ ?_; rotate_left; (focus (intro w hSw; (try dsimp only at hSw); go_simp; first | done | with_reducible rfl)); (simp only [Act.at, List.setIfInBounds_toArray, List.set_cons_zero, List.set_cons_succ]))
    | (refine take_unwanted (i := 8) rfl rfl (by kernel_rfl) (by kernel_rfl) (by kernel_rfl) (fun _ _ _ h => h) (by rfl) (by assumption) ?_; (simp only [Act.at, List.setIfInBounds_toArray, List.set_cons_zero, List.set_cons_succ]))
    first
    | (refine take_wanted (i := 9) (v := ?_) rfl rfl (by kernel_rfl) (by kernel_rfl) (by kernel_rfl) (fun _ _ _ h => h) (by rfl) (by assumption) ?_ ?_; rotate_left; (focus (intro w hSw; (try dsimp only at hSw); go_simp; first | done | with_reducible rfl)); (simp only [Act.at, List.setIfInBounds_toArray, List.set_cons_zero, List.set_cons_succ]))
    | (refine take_unwanted (i := 9) rfl rfl (by kernel_rfl) (by kernel_rfl) (by kernel_rfl) (fun _ _ _ h => h) (by rfl) (by assumption) ?_; (simp only [Act.at, List.setIfInBounds_toArray, List.set_cons_zero, List.set_cons_succ]))
    first
    | (refine take_wanted (i := 10) (v := ?_) rfl rfl (by kernel_rfl) (by kernel_rfl) (by kernel_rfl) (fun _ _ _ h => h) (by rfl) (by assumption) ?_ ?_; rotate_left; (focus (intro w hSw; (try dsimp only at hSw); go_simp; first | done | with_reducible rfl)); (simp only [Act.at, List.setIfInBounds_toArray, List.set_cons_zero, List.set_cons_succ]))
    | (refine take_unwanted (i := 10) rfl rfl (by kernel_rfl) (by kernel_rfl) (by kernel_rfl) (fun _ _ _ h => h) (by rfl) (by assumption) ?_; (simp only [Act.at, List.setIfInBounds_toArray, List.set_cons_zero, List.set_cons_succ]))
    first
    | (refine take_wanted (i := 11) (v := ?_) rfl rfl (by kernel_rfl) (by kernel_rfl) (by kernel_rfl) (fun _ _ _ h => h) (by rfl) (by assumption) ?_ ?_; rotate_left; (focus (intro w hSw; (try dsimp only at hSw); go_simp; first | done | with_reducible rfl)); (simp only [Act.at, List.setIfInBounds_toArray, List.set_cons_zero, List.set_cons_succ]))
    | (refine take_unwanted (i := 11) rfl rfl (by kernel_rfl) (by kernel_rfl) (by kernel_rfl) (fun _ _ _ h => h) (by rfl) (by assumption) ?_; (simp only [Act.at, List.setIfInBounds_toArray, List.set_cons_zero, List.set_cons_succ]))
    first
    | (refine take_wanted (i := 12) (v := ?_) rfl rfl (by kernel_rfl) (by kernel_rfl) (by kernel_rfl) (fun _ _ _ h => h) (by rfl) (by assumption) ?_ ?_; rotate_left; (focus (intro w hSw; (try dsimp only at hSw); go_simp; first | done | with_reducible rfl)); (simp only [Act.at, List.setIfInBounds_toArray, List.set_cons_zero, List.set_cons_succ]))
    | (refine take_unwanted (i := 12) rfl rfl (by kernel_rfl) (by kernel_rfl) (by kernel_rfl) (fun _ _ _ h => h) (by rfl) (by assumption) ?_; (simp only [Act.at, List.setIfInBounds_toArray, List.set_cons_zero, List.set_cons_succ]))
    first
    | (refine take_wanted (i := 13) (v := ?_) rfl rfl (by kernel_rfl) (by kernel_rfl) (by kernel_rfl) (fun _ _ _ h => h) (by rfl) (by assumption) ?_ ?_; rotate_left; (focus (intro w hSw; (try dsimp only at hSw); go_simp; first | done | with_reducible rfl)); (simp only [Act.at, List.setIfInBounds_toArray, List.set_cons_zero, List.set_cons_succ]))
    | (refine take_unwanted (i := 13) rfl rfl (by kernel_rfl) (by kernel_rfl) (by kernel_rfl) (fun _ _ _ h => h) (by rfl) (by assumption) ?_; (simp only [Act.at, List.setIfInBounds_toArray, List.set_cons_zero, List.set_cons_succ]))
    first
    | (refine take_wanted (i := 14) (v := ?_) rfl rfl (by kernel_rfl) (by kernel_rfl) (by kernel_rfl) (fun _ _ _ h => h) (by rfl) (by assumption) ?_ ?_; rotate_left; (focus (intro w hSw; (try dsimp only at hSw); go_simp; first | done | with_reducible rfl)); (simp only [Act.at, List.setIfInBounds_toArray, List.set_cons_zero, List.set_cons_succ]))
    | (refine take_unwanted (i := 14) rfl rfl (by kernel_rfl) (by kernel_rfl) (by kernel_rfl) (fun _ _ _ h => h) (by rfl) (by assumption) ?_; (simp only [Act.at, List.setIfInBounds_toArray, List.set_cons_zero, List.set_cons_succ]))
    first
    | (refine take_wanted (i := 15) (v := ?_) rfl rfl (by kernel_rfl) (by kernel_rfl) (by kernel_rfl) (fun _ _ _ h => h) (by rfl) (by assumption) ?_ ?_; rotate_left; (focus (intro w hSw; (try dsimp only at hSw); go_simp; first | done | with_reducible rfl)); (simp only [Act.at, List.setIfInBounds_toArray, List.set_cons_zero, List.set_cons_succ]))
    | (refine take_unwanted (i := 15) rfl rfl (by kernel_rfl) (by kernel_rfl) (by kernel_rfl) (fun _ _ _ h => h) (by rfl) (by assumption) ?_; (simp only [Act.at, List.setIfInBounds_toArray, List.set_cons_zero, List.set_cons_succ]))
    first
    | (refine take_wanted (i := 16) (v := ?_) rfl rfl (by kernel_rfl) (by kernel_rfl) (by kernel_rfl) (fun _ _ _ h => h) (by rfl) (by assumption) ?_ ?_; rotate_left; (focus (intro w hSw; (try dsimp only at hSw); go_simp; first | done | with_reducible rfl)); (simp only [Act.at, List.setIfInBounds_toArray, List.set_cons_zero, List.set_cons_succ]))
    | (refine take_unwanted (i := 16) rfl rfl (by kernel_rfl) (by kernel_rfl) (by kernel_rfl) (fun _ _ _ h => h) (by rfl) (by assumption) ?_; (simp only [Act.at, List.setIfInBounds_toArray, List.set_cons_zero, List.set_cons_succ]))
    first
    | (refine take_wanted (i := 17) (v := ?_) rfl rfl (by kernel_rfl) (by kernel_rfl) (by kernel_rfl) (fun _ _ _ h => h) (by rfl) (by assumption) ?_ ?_; rotate_left; (focus (intro w hSw; (try dsimp only at hSw); go_simp; first | done | with_reducible rfl)); (simp only [Act.at, List.setIfInBounds_toArray, List.set_cons_zero, List.set_cons_succ]))
    | (refine take_unwanted (i := 17) rfl rfl (by kernel_rfl) (by kernel_rfl) (by kernel_rfl) (fun _ _ _ h => h) (by rfl) (by assumption) ?_; (simp only [Act.at, List.setIfInBounds_toArray, List.set_cons_zero, List.set_cons_succ]))
    refine wpAnyH_done (by kernel_rfl) ?_ _
    go_wp2_with fail
    go_ret
    exact ⟨rfl, hm1, hv2⟩
end
end Go.Proofs.YtphhaiccpllnpaaDoor
