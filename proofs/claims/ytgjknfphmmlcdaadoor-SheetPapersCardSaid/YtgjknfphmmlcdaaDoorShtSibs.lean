/-
  The contract of the program's siblings.
-/
import Derived.Test.YtgjknfphmmlcdaaDoorShtHalf
import Derived.Test.YtgjknfphmmlcdaaDoorTake
namespace Go.Proofs.YtgjknfphmmlcdaaDoor
open Go.RowKit
set_option linter.unusedVariables false

section
variable {P : Program} {ops : Array Oper} {Q : Exit → Act → World → Prop} {md : Region.Mode} {S : World → Prop}
theorem wp_append_none (w : World) {o : Oper} {a : Act} {KS : Act → World → Prop} (s x : Operand) (t : TypeId) (ho : o.op = .call { callee := .builtin .append, args := #[s, x], argTypes := #[t, t] })
    (base : Nat) (e : TypeId) (i : TypeInfo) (size : Nat) (ht : P.underlying t = some (.slice e)) (hi : P.info? e = some i)
    (v : Value) (n : Nat) (xs : List Value) (hs : a.eval s = v) (hown : w.ownsRow base e size v n xs) (hx : a.eval x = .slice none 0 0)
    (h : KS (a.put o.dst v) w) : o.wp P a w KS Q := by
  have hrun := run_append_owned_none (P := P) (w := w) base t o.type e i size ht hi v n xs hown
  unfold Oper.wp
  simp [execOp, ho, resolve, invoke, builtin, hs, hx, hrun, Result.andThen]
  exact h
end
theorem ptinfo : (Tryd.prog.info? 86).map (fun i => (i.zero, i.size, i.bytes)) = some (some (.agg #[.int .i64 0, .int .i64 0]), 2, 16) := by kernel_rfl
theorem own_part (w : World) (a n : Nat) (B : Nat) (hB : B ≤ w.heap.size) : (w.alloc (.cells #[.int .i64 (a : Int), .int .i64 (n : Int)] 86)).ownsRow B 86 2 (.slice (some ⟨w.heap.size, 0, none⟩) 1 1) 1 (pvs [(a, n)]) :=
  ⟨rfl, .inr ⟨w.heap.size, 1, #[.int .i64 (a : Int), .int .i64 (n : Int)], rfl, hB, heap_alloc_new w _, Nat.le_refl _, by decide, rfl, rfl⟩⟩
theorem own_below {w w' : World} {B e s n : Nat} {v : Value} {xs : List Value} (h : w.ownsRow B e s v n xs) (hb : Below w.heap.size w w') : w'.ownsRow B e s v n xs := own_mv h (Mv.of_below hb []) (by simp)
/-- What siblings leaves: a new row of parts. -/
def SibPost (w : World) (R : List (Nat × Nat)) (e : Ending) (w' : World) : Prop := ∃ v, e = .returned v ∧ w'.ownsRow w.heap.size 86 2 v R.length (pvs R) ∧ Below w.heap.size w w'
/-- The cells of both halves. -/
abbrev TwoL (g1 g2 : Nat) (a1 n1 a2 n2 : Int) (W : World) : Prop := W.cell? ⟨g1, 0, none⟩ = some (.int .i64 a1) ∧ W.cell? ⟨g1, 1, none⟩ = some (.int .i64 n1) ∧ W.cell? ⟨g2, 0, none⟩ = some (.int .i64 a2) ∧ W.cell? ⟨g2, 1, none⟩ = some (.int .i64 n2)

theorem RowC.news {w : World} {s : List Nat} {ad : Addr} {cs : List Value} (h : RowC w s (some ad) cs) : ∀ (j : Nat) (u : Value), cs[j]? = some u → w.cell? (ad.add j) = some u := fun j u hu => by
  obtain ⟨b, off, hA, _, _, hr⟩ := h (fun e => by rw [e] at hu; cases hu)
  injection hA with hA
  subst hA
  rw [add_flat']
  exact hr j u hu
theorem pvs_one (R : List (Nat × Nat)) : ∀ u ∈ pvs R, u.oneCell' = true := fun u hu => by
  unfold pvs at hu
  obtain ⟨p, _, hp⟩ := List.mem_flatMap.1 hu
  unfold pcs at hp
  simp only [List.mem_cons, List.not_mem_nil, or_false] at hp
  rcases hp with rfl | rfl <;> rfl
/-- A row of parts behind another one. -/
theorem wp_app_parts (w : World) {o : Oper} {a : Act} {KS : Act → World → Prop} {Q : Exit → Act → World → Prop} (x y : Operand) (ho : o.op = .call { callee := .builtin .append, args := #[x, y], argTypes := #[83, 83] })
    (B : Nat) (v1 v2 : Value) (R1 R2 : List (Nat × Nat)) (hx : a.eval x = v1) (hy : a.eval y = v2) (h1 : w.ownsRow B 86 2 v1 R1.length (pvs R1)) (h2 : w.ownsRow B 86 2 v2 R2.length (pvs R2)) (hl : R1.length + R2.length ≤ 2000) (hB : B ≤ w.heap.size)
    (h : ∀ v' w', w'.ownsRow B 86 2 v' (R1 ++ R2).length (pvs (R1 ++ R2)) → w.grownBy w' v1.ownBlock → KS (a.put o.dst v') w') : o.wp Tryd.prog a w KS Q := by
  obtain ⟨i0, hi0, hz0, hz1, hz2⟩ := info_parts ptinfo
  obtain ⟨A2, c2, rfl, hc2, hcm2, hn2, hl2, hr2⟩ := own_rowC (s := []) h2 (by simp) (by decide)
  have hz : (Value.agg #[.int .i64 0, .int .i64 0]).cells.size = 2 := rfl
  cases A2 with
  | none =>
    obtain ⟨e1, e2, e3⟩ := hn2 rfl
    rw [e2, e3] at hy
    have hR : R2 = [] := List.eq_nil_of_length_eq_zero e2
    subst hR
    refine wp_append_none w x y 83 ho B 86 i0 2 Tryd.underlying83 hi0 v1 R1.length (pvs R1) hx h1 hy ?_
    refine h v1 w (by rw [List.append_nil]; exact h1) ⟨rfl, rfl, rfl, Nat.le_refl _, fun _ _ _ => rfl⟩
  | some ad =>
    refine wp_append_own w x y 83 ho B 86 i0 (.agg #[.int .i64 0, .int .i64 0]) 2 16 Tryd.underlying83 hi0 hz0 hz1 hz2 hz (by decide) v1 R1.length (pvs R1) hx h1 ad R2.length c2 (pvs R2) hy hl2 hr2.news (pvs_one R2) (by simp only [maxLen]; omega) (by omega) hB ?_
    intro v' w' ho' hg' _
    exact h v' w' (by rw [List.length_append, ← pvs_app]; exact ho') hg'
theorem Below.own {B : Nat} {w0 w w' : World} {row : Option Nat} (h : Below B w0 w) (hw : B ≤ w.heap.size) (hg : w.grownBy w' row) (hr : ∀ k, row = some k → B ≤ k) : Below B w0 w' :=
  ⟨hg.os.trans h.os, hg.tape.trans h.tape, hg.output.trans h.output, Nat.le_trans h.size hg.size, fun i hi => (hg.block i (by omega) (fun e => by have := hr i e.symm; omega)).trans (h.block i hi)⟩
theorem TwoL.keep {g1 g2 : Nat} {a1 n1 a2 n2 : Int} {W W' : World} (h : TwoL g1 g2 a1 n1 a2 n2 W) (h1 : W'.heap[g1]? = W.heap[g1]?) (h2 : W'.heap[g2]? = W.heap[g2]?) : TwoL g1 g2 a1 n1 a2 n2 W' :=
  ⟨World.cell_block h1 h.1, World.cell_block h1 h.2.1, World.cell_block h2 h.2.2.1, World.cell_block h2 h.2.2.2⟩
theorem RowI.aft1 {w : World} {s : List Nat} {A : Option Addr} {L : List Int} (h : RowI w s A L) (cap k : Nat) (hc : L.length ≤ cap) : RowI w s (if cap = k then A else A.map (·.add k)) (L.drop k) := by
  have := h.aft cap k hc
  unfold Go.Proofs.YtgjknfphmmlcdaaDoor.aft at this
  rwa [Nat.mul_one] at this

set_option maxRecDepth 100000 in
set_option maxHeartbeats 4000000 in
theorem siblings_any (F : List Int) (hF : Sht.Rise F) (s : List Nat) : ∀ (n at_ : Nat) (A : Option Addr) (cap : Nat) (w : World), 1 ≤ n → n ≤ 1000 → at_ + n ≤ 1000 → (F.filter (Sht.inr at_ n)).length ≤ cap → cap ≤ 9223372036854775807 →
    RowI w s A (F.filter (Sht.inr at_ n)) →
    Calls Tryd.prog 37 #[.agg #[.int .i64 (at_ : Int), .int .i64 (n : Int)], .slice A (F.filter (Sht.inr at_ n)).length cap] w (SibPost w (Sht.parts F at_ n)) := by
  obtain ⟨i0, hi0, hz0, hz1, hz2⟩ := info_parts ptinfo
  have HIN := Lib.hid (And.intro hi0 (And.intro hz0 (And.intro hz1 hz2))); clear hi0 hz0 hz1 hz2
  intro n
  induction n using Nat.strongRecOn with
  | ind n ih =>
    intro at_ A cap w h1 hn ha hcap hcm hrow
    by_cases h : Sht.has F at_ n = false
    · rw [Sht.parts_not h]
      rw [Sht.has_iff.1 h] at *
      clear ih h hF hrow
      have hb0 := belowB w (.cells #[.int .i64 (at_ : Int), .int .i64 (n : Int)] 86)
      have hH0 := Has.made w 86 #[.int .i64 (at_ : Int), .int .i64 (n : Int)]
      have hs0 : (w.alloc (.cells #[.int .i64 (at_ : Int), .int .i64 (n : Int)] 86)).heap.size = w.heap.size + 1 := by simp
      unfold SibPost
      go_enter Tryd.func37, Tryd.ntmps37
      go_wp2_with fail
      go_ret
      have ho := own_part (w.alloc (.cells #[.int .i64 (at_ : Int), .int .i64 (n : Int)] 86)) at_ n w.heap.size (by rw [hs0]; omega)
      rw [hs0] at ho
      exact ⟨_, rfl, ho, hb0.trans ((belowB _ _).mono (by rw [hs0]; omega))⟩
    · have h : Sht.has F at_ n = true := by simpa using h
      have hne : (F.filter (Sht.inr at_ n)).length ≠ 0 := fun e => by rw [Sht.has_iff.2 e] at h; cases h
      by_cases h2 : 2 ≤ n
      · have hlt := Mk.below_lt h2
        have hpos := Mk.below_pos n
        rw [Sht.parts_more h h2]
        have hsp := Sht.split at_ (Mk.below n) n (by omega) F hF
        have hA1 := Sht.filt_lt F at_ (Mk.below n)
        have hB1 := Sht.filt_ge F (at_ + Mk.below n) (n - Mk.below n)
        have hr0 := Sht.filt_rise hF at_ n
        have hcl := Sht.cnt_le F hF n at_ h1
        unfold Sht.cnt at hcl
        have l1 := Sht.parts_le F (Mk.below n) at_ hpos
        have l2 := Sht.parts_le F (n - Mk.below n) (at_ + Mk.below n) (by omega)
        have hH := fun W => shHalves_any at_ n W h2 (by omega) (by omega)
        have I1 := fun A' cap' W => ih (Mk.below n) hlt at_ A' cap' W hpos (by omega) (by omega)
        have I2 := fun A' cap' W => ih (n - Mk.below n) (by omega) (at_ + Mk.below n) A' cap' W (by omega) (by omega) (by omega)
        unfold SibPost at I1 I2
        rw [hsp] at hrow hcap hr0 hcl hne ⊢
        have hBf := fun W hW => before_any A cap (F.filter (Sht.inr at_ (Mk.below n))) (F.filter (Sht.inr (at_ + Mk.below n) (n - Mk.below n))) ((at_ + Mk.below n : Nat) : Int) ((n - Mk.below n : Nat) : Int) s W (RowC.below hrow hW) hr0 (by omega) hcap hcm hA1 hB1
        have r1 := fun W (hW : Below w.heap.size w W) => RowI.take' (RowC.below hrow hW) (F.filter (Sht.inr at_ (Mk.below n))).length
        have r2 := fun W (hW : Below w.heap.size w W) => RowI.aft1 (RowC.below hrow hW) cap (F.filter (Sht.inr at_ (Mk.below n))).length hcap
        rw [List.take_left] at r1
        rw [List.drop_left] at r2
        simp only [List.length_append] at hcap hcl hne hBf ⊢
        clear hrow hsp hA1 hB1 hr0 ih h
        generalize F.filter (Sht.inr at_ (Mk.below n)) = X1 at *
        generalize F.filter (Sht.inr (at_ + Mk.below n) (n - Mk.below n)) = X2 at *
        generalize Sht.parts F at_ (Mk.below n) = R1 at *
        generalize Sht.parts F (at_ + Mk.below n) (n - Mk.below n) = R2 at *
        generalize Mk.below n = k at *
        generalize X1.length = m1 at *
        generalize X2.length = m2 at *
        have hkc : m1 ≤ cap := by omega
        have hkn : (m1 : Int) ≤ (m1 : Int) + (m2 : Int) := by omega
        have hkr : m2 ≤ cap - m1 := by omega
        have HH := Lib.hid hH; clear hH
        have HI1 := Lib.hid I1; clear I1
        have HI2 := Lib.hid I2; clear I2
        have HBf := Lib.hid hBf; clear hBf
        have HR1 := Lib.hid r1; clear r1
        have HR2 := Lib.hid r2; clear r2
        have HL := Lib.hid (And.intro l1 l2); clear l1 l2
        have hb0 := belowB w (.cells #[.int .i64 (at_ : Int), .int .i64 (n : Int)] 86)
        have hb1 : ((n : Int) == 1) = false := by simpa using (show ¬ (n : Int) = 1 by omega)
        have hm0 : (((m1 + m2 : Nat) : Int) == 0) = false := by simpa using (show ¬ ((m1 + m2 : Nat) : Int) = 0 by omega)
        unfold SibPost
        go_enter Tryd.func37, Tryd.ntmps37
        go_wp2_with fail
        refine (HH.out _).mono ?_
        rintro e w1 ⟨rfl, hb1⟩
        have hb01 := hb0.trans (hb1.mono hb0.size); clear hb0 hb1
        go_upto_region 6 with (fail)
        have hH1 := (Has.made w1 86 #[.int .i64 (at_ : Int), .int .i64 (k : Int)]).of_alloc (.cells #[.int .i64 ((at_ : Int) + (k : Int)), .int .i64 ((n - k : Nat) : Int)] 86)
        have hH2 := Has.made (w1.alloc (.cells #[.int .i64 (at_ : Int), .int .i64 (k : Int)] 86)) 86 #[.int .i64 ((at_ : Int) + (k : Int)), .int .i64 ((n - k : Nat) : Int)]
        have hb2 : Below w.heap.size w ((w1.alloc (.cells #[.int .i64 (at_ : Int), .int .i64 (k : Int)] 86)).alloc (.cells #[.int .i64 ((at_ : Int) + (k : Int)), .int .i64 ((n - k : Nat) : Int)] 86)) := (hb01.trans ((belowB w1 _).mono hb01.size)).trans ((belowB _ _).mono (by have := hb01.size; simp; omega))
        have hz : (w1.alloc (.cells #[.int .i64 (at_ : Int), .int .i64 (k : Int)] 86)).heap.size = w1.heap.size + 1 := by simp
        rw [hz] at hH2
        generalize (w1.alloc (.cells #[.int .i64 (at_ : Int), .int .i64 (k : Int)] 86)).alloc (.cells #[.int .i64 ((at_ : Int) + (k : Int)), .int .i64 ((n - k : Nat) : Int)] 86) = w2 at hH1 hH2 hb2 ⊢
        clear hz hb01
        generalize w1.heap.size = g1 at *
        have c0 : w2.cell? ⟨g1, 0, none⟩ = some (.int .i64 (at_ : Int)) := hH1.cell 0
        have c1 : w2.cell? ⟨g1, 1, none⟩ = some (.int .i64 (k : Int)) := hH1.cell 1
        have c2 : w2.cell? ⟨g1 + 1, 0, none⟩ = some (.int .i64 ((at_ : Int) + (k : Int))) := hH2.cell 0
        have c3 : w2.cell? ⟨g1 + 1, 1, none⟩ = some (.int .i64 ((n - k : Nat) : Int)) := hH2.cell 1
        have hl2 := hH2.lt
        clear hH1 hH2
        go_wp2_with fail
        refine (HBf.out _ hb2).mono ?_
        rintro e w3 ⟨rfl, hb3⟩
        have hx0 : TwoL g1 (g1 + 1) at_ k ((at_ : Int) + (k : Int)) ((n - k : Nat) : Int) w3 := ⟨(hb3.cell (p := ⟨g1, 0, none⟩) (show g1 < _ by omega)).trans c0, (hb3.cell (p := ⟨g1, 1, none⟩) (show g1 < _ by omega)).trans c1, (hb3.cell (p := ⟨g1 + 1, 0, none⟩) hl2).trans c2, (hb3.cell (p := ⟨g1 + 1, 1, none⟩) hl2).trans c3⟩
        have hb4 := hb2.trans (hb3.mono hb2.size)
        have hl3 := Nat.lt_of_lt_of_le hl2 hb3.size
        clear hb2 hb3 c0 c1 c2 c3 hl2
        go_upto_region 7 with (fail)
        have hx : TwoL g1 (g1 + 1) at_ k ((at_ : Int) + (k : Int)) ((n - k : Nat) : Int) w3.drew := hx0
        have HWL := Lib.hid hb4.size
        have hb5 := hb4.drew; clear hx0 hb4
        refine wp_region_held_drew (S := TwoL g1 (g1 + 1) at_ k ((at_ : Int) + (k : Int)) ((n - k : Nat) : Int)) (by kernel_rfl) hx (fun hHeld => ?_)
        first
        | (refine take_wanted (i := 0) (v := ?_) rfl rfl (by kernel_rfl) (by kernel_rfl) (by kernel_rfl) (fun _ _ _ h => h) (by rfl) (by assumption) ?_ ?_; rotate_left; (focus (intro w hSw; (try dsimp only at hSw); go_simp; first | done | with_reducible rfl)); (simp only [Act.at, List.setIfInBounds_toArray, List.set_cons_zero, List.set_cons_succ]))
        | (refine take_unwanted (i := 0) rfl rfl (by kernel_rfl) (by kernel_rfl) (by kernel_rfl) (fun _ _ _ h => h) (by rfl) (by assumption) ?_; (simp only [Act.at, List.setIfInBounds_toArray, List.set_cons_zero, List.set_cons_succ]))
        first
        | (refine take_wanted (i := 1) (v := ?_) rfl rfl (by kernel_rfl) (by kernel_rfl) (by kernel_rfl) (fun _ _ _ h => h) (by rfl) (by assumption) ?_ ?_; rotate_left; (focus (intro w hSw; (try dsimp only at hSw); go_simp; first | done | with_reducible rfl)); (simp only [Act.at, List.setIfInBounds_toArray, List.set_cons_zero, List.set_cons_succ]))
        | (refine take_unwanted (i := 1) rfl rfl (by kernel_rfl) (by kernel_rfl) (by kernel_rfl) (fun _ _ _ h => h) (by rfl) (by assumption) ?_; (simp only [Act.at, List.setIfInBounds_toArray, List.set_cons_zero, List.set_cons_succ]))
        first
        | (refine take_wanted (i := 2) (v := ?_) rfl rfl (by kernel_rfl) (by kernel_rfl) (by kernel_rfl) (fun _ _ _ h => h) (by rfl) (by assumption) ?_ ?_; rotate_left; (focus (intro w hSw; (try dsimp only at hSw); go_simp; first | done | with_reducible rfl)); (simp only [Act.at, List.setIfInBounds_toArray, List.set_cons_zero, List.set_cons_succ]))
        | (refine take_unwanted (i := 2) rfl rfl (by kernel_rfl) (by kernel_rfl) (by kernel_rfl) (fun _ _ _ h => h) (by rfl) (by assumption) ?_; (simp only [Act.at, List.setIfInBounds_toArray, List.set_cons_zero, List.set_cons_succ]))
        first
        | (refine take_wanted (i := 5) (v := ?_) rfl rfl (by kernel_rfl) (by kernel_rfl) (by kernel_rfl) (fun _ _ _ h => h) (by rfl) (by assumption) ?_ ?_; rotate_left; (focus (intro w hSw; (try dsimp only at hSw); go_simp; first | done | with_reducible rfl)); (simp only [Act.at, List.setIfInBounds_toArray, List.set_cons_zero, List.set_cons_succ]))
        | (refine take_unwanted (i := 5) rfl rfl (by kernel_rfl) (by kernel_rfl) (by kernel_rfl) (fun _ _ _ h => h) (by rfl) (by assumption) ?_; (simp only [Act.at, List.setIfInBounds_toArray, List.set_cons_zero, List.set_cons_succ]))
        first
        | (refine take_wanted (i := 6) (v := ?_) rfl rfl (by kernel_rfl) (by kernel_rfl) (by kernel_rfl) (fun _ _ _ h => h) (by rfl) (by assumption) ?_ ?_; rotate_left; (focus (intro w hSw; (try dsimp only at hSw); go_simp; first | done | with_reducible rfl)); (simp only [Act.at, List.setIfInBounds_toArray, List.set_cons_zero, List.set_cons_succ]))
        | (refine take_unwanted (i := 6) rfl rfl (by kernel_rfl) (by kernel_rfl) (by kernel_rfl) (fun _ _ _ h => h) (by rfl) (by assumption) ?_; (simp only [Act.at, List.setIfInBounds_toArray, List.set_cons_zero, List.set_cons_succ]))
        first
        | (refine take_wanted (i := 7) (v := ?_) rfl rfl (by kernel_rfl) (by kernel_rfl) (by kernel_rfl) (fun _ _ _ h => h) (by rfl) (by assumption) ?_ ?_; rotate_left; (focus (intro w hSw; (try dsimp only at hSw); go_simp; first | done | with_reducible rfl)); (simp only [Act.at, List.setIfInBounds_toArray, List.set_cons_zero, List.set_cons_succ]))
        | (refine take_unwanted (i := 7) rfl rfl (by kernel_rfl) (by kernel_rfl) (by kernel_rfl) (fun _ _ _ h => h) (by rfl) (by assumption) ?_; (simp only [Act.at, List.setIfInBounds_toArray, List.set_cons_zero, List.set_cons_succ]))
        first
        | (refine take_wanted (i := 3) (v := ?_) rfl rfl (by kernel_rfl) (by kernel_rfl) (by kernel_rfl) (fun _ _ _ h => h) (by rfl) (by assumption) ?_ ?_; rotate_left; (focus (intro w hSw; (try dsimp only at hSw); go_simp; (try simp only [hkc, if_true, if_false, Result.andThen_ok]); first | done | with_reducible rfl)); (simp only [Act.at, List.setIfInBounds_toArray, List.set_cons_zero, List.set_cons_succ]))
        | (refine take_unwanted (i := 3) rfl rfl (by kernel_rfl) (by kernel_rfl) (by kernel_rfl) (fun _ _ _ h => h) (by rfl) (by assumption) ?_; (simp only [Act.at, List.setIfInBounds_toArray, List.set_cons_zero, List.set_cons_succ]))
        first
        | (refine take_wanted (i := 8) (v := ?_) rfl rfl (by kernel_rfl) (by kernel_rfl) (by kernel_rfl) (fun _ _ _ h => h) (by rfl) (by assumption) ?_ ?_; rotate_left; (focus (intro w hSw; (try dsimp only at hSw); go_simp; (try simp only [hkn, hkc, if_true, if_false, Result.andThen_ok]); first | done | with_reducible rfl)); (simp only [Act.at, List.setIfInBounds_toArray, List.set_cons_zero, List.set_cons_succ]))
        | (refine take_unwanted (i := 8) rfl rfl (by kernel_rfl) (by kernel_rfl) (by kernel_rfl) (fun _ _ _ h => h) (by rfl) (by assumption) ?_; (simp only [Act.at, List.setIfInBounds_toArray, List.set_cons_zero, List.set_cons_succ]))
        refine take_call (i := 4) (by kernel_rfl) rfl rfl (by rfl) (fun K hK => ?_)
        go_simp
        refine (HI1.out A cap _ hkc hcm (HR1.out _ hb5)).mono ?_
        rintro r w4 ⟨v1, rfl, hown1, hb6⟩
        have hx1 := TwoL.keep hx (hb6.block g1 (show g1 < w3.heap.size by omega)) (hb6.block (g1 + 1) hl3)
        have hb7 := hb5.trans (hb6.mono hb5.size)
        have hs4 : w3.heap.size ≤ w4.heap.size := hb6.size
        clear hx hHeld hb5 hb6
        refine hK.out _ _ hx1 (fun hHeld => ?_)
        clear hK K
        try simp only [Act.put, List.setIfInBounds_toArray, List.set_cons_zero, List.set_cons_succ]
        refine take_call (i := 9) (by kernel_rfl) rfl rfl (by rfl) (fun K hK => ?_)
        go_simp
        refine (HI2.out _ (cap - m1) _ hkr (by omega) (HR2.out _ hb7)).mono ?_
        rintro r w5 ⟨v2, rfl, hown2, hb8⟩
        have hx2 := TwoL.keep hx1 (hb8.block g1 (by omega)) (hb8.block (g1 + 1) (by omega))
        have hb9 := hb7.trans (hb8.mono hb7.size)
        have hs5 : w3.heap.size ≤ w5.heap.size := Nat.le_trans hs4 hb8.size
        have o1 := own_below hown1 hb8
        have o2 := own_low (B' := w3.heap.size) hown2 hs4
        clear hx1 hHeld hb7 hb8 hown1 hown2
        refine hK.out _ _ hx2 (fun hHeld => ?_)
        clear hK K
        try simp only [Act.put, List.setIfInBounds_toArray, List.set_cons_zero, List.set_cons_succ]
        refine take_call (i := 10) (by kernel_rfl) rfl rfl (by rfl) (fun K hK => ?_)
        refine wp_app_parts w5 (.tmp 30) (.tmp 35) rfl w3.heap.size v1 v2 R1 R2 rfl rfl o1 o2 (by have := HL.out; omega) hs5 ?_
        intro v' w6 o6 g6
        have hr6 : ∀ q, v1.ownBlock = some q → w3.heap.size ≤ q := fun q hq => (o1.lt q hq).1
        have hx3 := TwoL.keep hx2 (g6.block g1 (by omega) (fun e => by have := hr6 g1 e.symm; omega)) (g6.block (g1 + 1) (by omega) (fun e => by have := hr6 (g1 + 1) e.symm; omega))
        have hwl : w.heap.size ≤ w3.heap.size := HWL.out
        have hb10 := Below.own hb9 (by omega) g6 (fun q hq => Nat.le_trans hwl (hr6 q hq))
        have o7 := own_low (B' := w.heap.size) o6 hwl
        clear hx2 hHeld hb9 o1 o2 o6 g6 hr6
        refine hK.out _ _ hx3 (fun hHeld => ?_)
        clear hK K
        try simp only [Act.put, List.setIfInBounds_toArray]
        first
        | (refine take_wanted (i := 11) (v := ?_) rfl rfl (by kernel_rfl) (by kernel_rfl) (by kernel_rfl) (fun _ _ _ h => h) (by rfl) (by assumption) ?_ ?_; rotate_left; (focus (intro w hSw; (try dsimp only at hSw); go_simp; first | done | with_reducible rfl)); (simp only [Act.at]))
        | (refine take_unwanted (i := 11) rfl rfl (by kernel_rfl) (by kernel_rfl) (by kernel_rfl) (fun _ _ _ h => h) (by rfl) (by assumption) ?_; (simp only [Act.at, List.setIfInBounds_toArray, List.set_cons_zero, List.set_cons_succ]))
        refine wpAnyH_done (by kernel_rfl) ?_ _
        rw [List.length_append] at o7
        go_wp2_with fail
        all_goals
          go_ret
          exact ⟨v', rfl, o7, hb10⟩
      · rw [Sht.parts_leaf h h2]
        have hn1 : n = 1 := by omega
        subst hn1
        clear ih h hrow hF
        generalize (F.filter (Sht.inr at_ 1)).length = m at *
        have hm : ((m : Int) == 0) = false := by simpa using (show ¬ (m : Int) = 0 by omega)
        have hb0 := belowB w (.cells #[.int .i64 (at_ : Int), .int .i64 1] 86)
        unfold SibPost
        go_enter Tryd.func37, Tryd.ntmps37
        go_wp2_with fail
        go_ret
        exact ⟨_, rfl, World.ownsRow_nil _ _ _ _, hb0⟩
end Go.Proofs.YtgjknfphmmlcdaaDoor
