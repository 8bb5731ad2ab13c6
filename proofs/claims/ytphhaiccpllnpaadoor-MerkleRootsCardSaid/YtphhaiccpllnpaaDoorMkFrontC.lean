/-
  A front in memory; the contracts of merkle's New, grows, Size, Root of a front.
-/
import Derived.Test.YtphhaiccpllnpaaDoorMkJoin
import Derived.Test.YtphhaiccpllnpaaDoorTake
namespace Go.Proofs.YtphhaiccpllnpaaDoor
open Go.RowKit
set_option linter.unusedVariables false

def frc (g n : Nat) (v : Value) : Array Value := #[.pointer (some ⟨g, 0, none⟩), .int .i64 (n : Int), v]
/-- Block f is a front of the leaves L, with a mill in block g; its roots lie in a block from B on. -/
def FrontAt (w : World) (f g B : Nat) (L : List (List UInt8)) : Prop :=
  ∃ (A : Option Addr) (cap : Nat), Has w f 70 (frc g L.length (.slice A (Mk.peaks [] L).length cap)) ∧ (Mk.peaks [] L).length ≤ cap ∧ cap ≤ 9223372036854775807 ∧ (L = [] → A = none ∧ cap = 0) ∧
    (L ≠ [] → ∃ rb, A = some ⟨rb, 0, none⟩ ∧ B ≤ rb ∧ rb < w.heap.size ∧ TRow w rb 0 (Mk.peaks [] L))
theorem FrontAt.mv {w w' : World} {f g B : Nat} {L : List (List UInt8)} {s : List Nat} (h : FrontAt w f g B L) (hm : Mv w w' s) (hf : f ∉ s) (hs : ∀ x ∈ s, x < B) : FrontAt w' f g B L := by
  obtain ⟨A, cap, hh, hc, hcm, h0, h1⟩ := h
  refine ⟨A, cap, hm.has hh hf, hc, hcm, h0, fun hl => ?_⟩
  obtain ⟨rb, hA, hB, hlt, hr⟩ := h1 hl
  exact ⟨rb, hA, hB, Nat.lt_of_lt_of_le hlt hm.size, hr.mv hm hlt (fun hx => by have := hs rb hx; omega)⟩
theorem FrontAt.below {w w' : World} {f g B : Nat} {L : List (List UInt8)} (h : FrontAt w f g B L) (hb : Below w.heap.size w w') : FrontAt w' f g B L := h.mv (Mv.of_below hb []) (by simp) (by simp)
theorem FrontAt.has {w : World} {f g B : Nat} {L : List (List UInt8)} (h : FrontAt w f g B L) : ∃ v, Has w f 70 (frc g L.length v) := by
  obtain ⟨A, cap, hh, _⟩ := h
  exact ⟨_, hh⟩

set_option maxHeartbeats 400000 in
theorem fnew_any (g : Nat) (w : World) : Calls Tryd.prog 13 #[.pointer (some ⟨g, 0, none⟩)] w fun e w' => e = .returned (.pointer (some ⟨w.heap.size, 0, none⟩)) ∧ FrontAt w' w.heap.size g (w.heap.size + 1) [] ∧ Below w.heap.size w w' ∧ w'.heap.size = w.heap.size + 1 := by
  have HF : Hid (FrontAt (w.alloc (.cells #[.pointer (some ⟨g, 0, none⟩), .int .i64 0, .slice none 0 0] 70)) w.heap.size g (w.heap.size + 1) []) :=
    Lib.hid ⟨none, 0, by rw [Mk.peaks_nil]; exact Has.made _ _ _, by rw [Mk.peaks_nil]; exact Nat.le_refl _, by decide, (fun _ => ⟨rfl, rfl⟩), fun h => absurd rfl h⟩
  go_enter Tryd.func13, Tryd.ntmps13
  go_wp2_with fail
  go_ret
  exact ⟨rfl, HF.out, (Below.refl _ w).alloc (Nat.le_refl _) _, by simp⟩

section
variable (f g n : Nat) (v : Value) (w : World)
set_option maxHeartbeats 400000 in
theorem grows_any (h : Has w f 70 (frc g n v)) : Calls Tryd.prog 36 #[.pointer (some ⟨f, 0, none⟩)] w fun e w' => e = .returned (.bool true) ∧ w' = w := by
  have c0 : w.cell? ⟨f, 0, none⟩ = some (.pointer (some ⟨g, 0, none⟩)) := h.cell 0
  clear h
  go_enter Tryd.func36, Tryd.ntmps36
  go_wp2_with fail
  go_ret
  exact ⟨rfl, rfl⟩
set_option maxHeartbeats 400000 in
theorem size_any (h : Has w f 70 (frc g n v)) : Calls Tryd.prog 17 #[.pointer (some ⟨f, 0, none⟩)] w fun e w' => e = .returned (.int .i64 (n : Int)) ∧ w' = w := by
  have HG := Lib.hid (grows_any f g n v w h)
  have c1 : w.cell? ⟨f, 1, none⟩ = some (.int .i64 (n : Int)) := h.cell 1
  clear h
  go_enter Tryd.func17, Tryd.ntmps17
  go_wp2_with fail
  refine (HG.out).mono ?_
  rintro r w1 ⟨rfl, rfl⟩
  go_wp2_with fail
  go_ret
  exact ⟨rfl, rfl⟩
end

/-- The cells that Root reads. -/
abbrev FrL (f g : Nat) (v : Value) (W : World) : Prop := W.cell? ⟨f, 0, none⟩ = some (.pointer (some ⟨g, 0, none⟩)) ∧ W.cell? ⟨f, 2, none⟩ = some v
set_option maxRecDepth 100000 in
set_option maxHeartbeats 4000000 in
theorem froot_any (f g nb B : Nat) (L : List (List UInt8)) (st : Mill.St) (w : World) (h : FrontAt w f g B L) (hf : f ∉ [g, nb]) (hB : ∀ x ∈ [g, nb], x < B) (hL : L.length ≤ 1000) (hs : ∀ s, s ∈ L → s.length ≤ 1000000) (hsum : st.sums ≤ 1000000) (hm : MkW w g nb none [] st) :
    Calls Tryd.prog 14 #[.pointer (some ⟨f, 0, none⟩)] w (FewPost w g nb none [] st 1001 (.string (S (Mk.root [] L)))) := by
  obtain ⟨A, cap, hh, hc, hcm, h0, h1⟩ := h
  have HG := Lib.hid (grows_any f g L.length _ w hh)
  have hpl := Mk.peaks_len [] L.length L rfl
  have c0 : w.cell? ⟨f, 0, none⟩ = some (.pointer (some ⟨g, 0, none⟩)) := hh.cell 0
  have c1 : w.cell? ⟨f, 1, none⟩ = some (.int .i64 (L.length : Int)) := hh.cell 1
  have c2 : w.cell? ⟨f, 2, none⟩ = some (.slice A (Mk.peaks [] L).length cap) := hh.cell 2
  have hflt := hh.lt
  unfold FewPost
  by_cases hL0 : L = []
  · subst hL0
    have hN := mkNone_any g nb none [] rfl st w hm (by omega)
    unfold MkPost at hN
    rw [Mk.root_nil]
    obtain ⟨tx, htx⟩ : ∃ t, ([[]] : List (List UInt8)) = t := ⟨_, rfl⟩
    rw [htx] at hN
    have htl : tx.length = 1 := by rw [← htx]; rfl
    clear htx
    generalize Mk.nil [] = y at *
    have HN := Lib.hid hN; clear hN
    have c1' : w.cell? ⟨f, 1, none⟩ = some (.int .i64 0) := c1
    clear hh h0 h1 hm c1 c2
    go_enter Tryd.func14, Tryd.ntmps14
    go_wp2_with fail
    refine (HG.out).mono ?_
    rintro r w1 ⟨rfl, rfl⟩
    go_wp2_with fail
    refine (HN.out).mono ?_
    rintro r w2 ⟨rfl, hm2, hv2⟩
    go_wp2_with fail
    go_ret
    exact ⟨tx, rfl, by omega, hm2, hv2⟩
  · obtain ⟨rb, rfl, hBr, hrlt, hrow⟩ := h1 hL0
    have hrn : rb ∉ [g, nb] := fun hx => by have := hB rb hx; omega
    have hps := Mk.peaks_short [] rfl 1000000 (by omega) L.length L rfl hs
    have hne : ((L.length : Int) == 0) = false := by
      have : L.length ≠ 0 := fun e => hL0 (List.length_eq_zero_iff.mp e)
      simpa using (show ¬ (L.length : Int) = 0 by omega)
    have hpk := Mk.peaks_ne [] L (List.length_pos_iff.mpr hL0)
    rw [Mk.root_fold]
    obtain ⟨z, Z, hZ⟩ : ∃ z Z, Mk.peaks [] L = z :: Z := by
      cases hq : Mk.peaks [] L with
      | nil => exact absurd hq hpk
      | cons z Z => exact ⟨z, Z, rfl⟩
    rw [hZ] at hc c2 hrow hps hpl ⊢
    rw [List.length_cons] at hc c2 hpl
    have hJ := fun W (hb : Below w.heap.size w W) => join_any g nb none [] rfl rb hrn Z z 0 cap st W (by omega) hc hcm (hrow.mv (Mv.of_below hb []) hrlt (by simp)) (Nat.lt_of_lt_of_le hrlt hb.size) hps (by omega) (hm.below hb)
    unfold FewPost at hJ
    generalize Mk.fold [] (z :: Z) = y at *
    generalize Z.length = k at *
    generalize L.length = n at *
    have HJ := Lib.hid hJ; clear hJ
    have hx : FrL f g (.slice (some ⟨rb, 0, none⟩) (k + 1) cap) w := ⟨c0, c2⟩
    have hbd : Below w.heap.size w w.drew := Below.drew (Below.refl _ w)
    clear hh h0 h1 hm hrow hps hpk hZ hs c0 c2
    go_enter Tryd.func14, Tryd.ntmps14
    go_wp2_with fail
    refine (HG.out).mono ?_
    rintro r w1 ⟨rfl, rfl⟩
    go_upto_region 5 with (fail)
    have hxd : FrL f g (.slice (some ⟨rb, 0, none⟩) (k + 1) cap) w1.drew := hx
    refine wp_region_held_drew (S := FrL f g (.slice (some ⟨rb, 0, none⟩) (k + 1) cap)) (by kernel_rfl) hxd (fun hHeld => ?_)
    first
    | (refine take_wanted (i := 0) (v := ?_) rfl rfl (by kernel_rfl) (by kernel_rfl) (by kernel_rfl) (fun _ _ _ h => h) (by rfl) (by assumption) ?_ ?_; rotate_left; (focus (intro w hSw; (try dsimp only at hSw); go_simp; first | done | with_reducible rfl)); (simp only [Act.at, List.setIfInBounds_toArray, List.set_cons_zero, List.set_cons_succ]))
    | (refine take_unwanted (i := 0) rfl rfl (by kernel_rfl) (by kernel_rfl) (by kernel_rfl) (fun _ _ _ h => h) (by rfl) (by assumption) ?_; (simp only [Act.at, List.setIfInBounds_toArray, List.set_cons_zero, List.set_cons_succ]))
    first
    | (refine take_wanted (i := 1) (v := ?_) rfl rfl (by kernel_rfl) (by kernel_rfl) (by kernel_rfl) (fun _ _ _ h => h) (by rfl) (by assumption) ?_ ?_; rotate_left; (focus (intro w hSw; (try dsimp only at hSw); go_simp; first | done | with_reducible rfl)); (simp only [Act.at, List.setIfInBounds_toArray, List.set_cons_zero, List.set_cons_succ]))
    | (refine take_unwanted (i := 1) rfl rfl (by kernel_rfl) (by kernel_rfl) (by kernel_rfl) (fun _ _ _ h => h) (by rfl) (by assumption) ?_; (simp only [Act.at, List.setIfInBounds_toArray, List.set_cons_zero, List.set_cons_succ]))
    first
    | (refine take_wanted (i := 2) (v := ?_) rfl rfl (by kernel_rfl) (by kernel_rfl) (by kernel_rfl) (fun _ _ _ h => h) (by rfl) (by assumption) ?_ ?_; rotate_left; (focus (intro w hSw; (try dsimp only at hSw); go_simp; first | done | with_reducible rfl)); (simp only [Act.at, List.setIfInBounds_toArray, List.set_cons_zero, List.set_cons_succ]))
    | (refine take_unwanted (i := 2) rfl rfl (by kernel_rfl) (by kernel_rfl) (by kernel_rfl) (fun _ _ _ h => h) (by rfl) (by assumption) ?_; (simp only [Act.at, List.setIfInBounds_toArray, List.set_cons_zero, List.set_cons_succ]))
    first
    | (refine take_wanted (i := 3) (v := ?_) rfl rfl (by kernel_rfl) (by kernel_rfl) (by kernel_rfl) (fun _ _ _ h => h) (by rfl) (by assumption) ?_ ?_; rotate_left; (focus (intro w hSw; (try dsimp only at hSw); go_simp; first | done | with_reducible rfl)); (simp only [Act.at, List.setIfInBounds_toArray, List.set_cons_zero, List.set_cons_succ]))
    | (refine take_unwanted (i := 3) rfl rfl (by kernel_rfl) (by kernel_rfl) (by kernel_rfl) (fun _ _ _ h => h) (by rfl) (by assumption) ?_; (simp only [Act.at, List.setIfInBounds_toArray, List.set_cons_zero, List.set_cons_succ]))
    first
    | (refine take_wanted (i := 4) (v := ?_) rfl rfl (by kernel_rfl) (by kernel_rfl) (by kernel_rfl) (fun _ _ _ h => h) (by rfl) (by assumption) ?_ ?_; rotate_left; (focus (intro w hSw; (try dsimp only at hSw); go_simp; first | done | with_reducible rfl)); (simp only [Act.at, List.setIfInBounds_toArray, List.set_cons_zero, List.set_cons_succ]))
    | (refine take_unwanted (i := 4) rfl rfl (by kernel_rfl) (by kernel_rfl) (by kernel_rfl) (fun _ _ _ h => h) (by rfl) (by assumption) ?_; (simp only [Act.at, List.setIfInBounds_toArray, List.set_cons_zero, List.set_cons_succ]))
    first
    | (refine take_wanted (i := 5) (v := ?_) rfl rfl (by kernel_rfl) (by kernel_rfl) (by kernel_rfl) (fun _ _ _ h => h) (by rfl) (by assumption) ?_ ?_; rotate_left; (focus (intro w hSw; (try dsimp only at hSw); go_simp; first | done | with_reducible rfl)); (simp only [Act.at, List.setIfInBounds_toArray, List.set_cons_zero, List.set_cons_succ]))
    | (refine take_unwanted (i := 5) rfl rfl (by kernel_rfl) (by kernel_rfl) (by kernel_rfl) (fun _ _ _ h => h) (by rfl) (by assumption) ?_; (simp only [Act.at, List.setIfInBounds_toArray, List.set_cons_zero, List.set_cons_succ]))
    first
    | (refine take_wanted (i := 6) (v := ?_) rfl rfl (by kernel_rfl) (by kernel_rfl) (by kernel_rfl) (fun _ _ _ h => h) (by rfl) (by assumption) ?_ ?_; rotate_left; (focus (intro w hSw; (try dsimp only at hSw); go_simp; first | done | with_reducible rfl)); (simp only [Act.at, List.setIfInBounds_toArray, List.set_cons_zero, List.set_cons_succ]))
    | (refine take_unwanted (i := 6) rfl rfl (by kernel_rfl) (by kernel_rfl) (by kernel_rfl) (fun _ _ _ h => h) (by rfl) (by assumption) ?_; (simp only [Act.at, List.setIfInBounds_toArray, List.set_cons_zero, List.set_cons_succ]))
    first
    | (refine take_wanted (i := 7) (v := ?_) rfl rfl (by kernel_rfl) (by kernel_rfl) (by kernel_rfl) (fun _ _ _ h => h) (by rfl) (by assumption) ?_ ?_; rotate_left; (focus (intro w hSw; (try dsimp only at hSw); go_simp; first | done | with_reducible rfl)); (simp only [Act.at, List.setIfInBounds_toArray, List.set_cons_zero, List.set_cons_succ]))
    | (refine take_unwanted (i := 7) rfl rfl (by kernel_rfl) (by kernel_rfl) (by kernel_rfl) (fun _ _ _ h => h) (by rfl) (by assumption) ?_; (simp only [Act.at, List.setIfInBounds_toArray, List.set_cons_zero, List.set_cons_succ]))
    refine take_call (i := 8) (by kernel_rfl) rfl rfl (by rfl) (fun K hK => ?_)
    go_simp
    refine (HJ.out _ hbd).mono ?_
    rintro r w2 ⟨ts, rfl, hts, hm2, hv2⟩
    have hv := (Mv.of_below hbd [g, nb]).trans hv2
    have hx2 : FrL f g (.slice (some ⟨rb, 0, none⟩) (k + 1) cap) w2 := ⟨World.cell_block (hv2.block _ hflt hf) hxd.1, World.cell_block (hv2.block _ hflt hf) hxd.2⟩
    clear hx hxd hHeld hbd
    refine hK.out _ _ hx2 (fun hHeld => ?_)
    clear hK K
    try simp only [Act.put, List.setIfInBounds_toArray, List.set_cons_zero, List.set_cons_succ]
    first
    | (refine take_wanted (i := 9) (v := ?_) rfl rfl (by kernel_rfl) (by kernel_rfl) (by kernel_rfl) (fun _ _ _ h => h) (by rfl) (by assumption) ?_ ?_; rotate_left; (focus (intro w hSw; (try dsimp only at hSw); go_simp; first | done | with_reducible rfl)); (simp only [Act.at, List.setIfInBounds_toArray, List.set_cons_zero, List.set_cons_succ]))
    | (refine take_unwanted (i := 9) rfl rfl (by kernel_rfl) (by kernel_rfl) (by kernel_rfl) (fun _ _ _ h => h) (by rfl) (by assumption) ?_; (simp only [Act.at, List.setIfInBounds_toArray, List.set_cons_zero, List.set_cons_succ]))
    refine wpAnyH_done (by kernel_rfl) ?_ _
    go_wp2_with fail
    go_ret
    exact ⟨ts, rfl, by omega, hm2, hv⟩
end Go.Proofs.YtphhaiccpllnpaaDoor
