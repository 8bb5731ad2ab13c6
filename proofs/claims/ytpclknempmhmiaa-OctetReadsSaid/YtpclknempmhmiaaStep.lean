/-
  The contract of one step of both readers.
-/
import Derived.Test.YtpclknempmhmiaaPTexts
import Derived.Test.YtpclknempmhmiaaTwo
import Derived.Deep.RegionWith
namespace Go.Proofs.Ytpclknempmhmiaa
open Go.RowKit

theorem Rd.alloc {w : World} {g b : Nat} {st : R.St} (h : Rd w g b st) (o : Obj) : Rd (w.alloc o) g b st := h.below ((Below.refl _ w).alloc (Nat.le_refl _) o) (Nat.le_refl _)
theorem Rd.drew {w : World} {g b : Nat} {st : R.St} (h : Rd w g b st) : Rd w.drew g b st := h
theorem Pl.alloc {w : World} {p : Nat} {st : R.St} (h : Pl w p st) (o : Obj) : Pl (w.alloc o) p st := Has.of_alloc h o
theorem Pl.drew {w : World} {p : Nat} {st : R.St} (h : Pl w p st) : Pl w.drew p st := h

def StepPost (w : World) (g b p : Nat) (st : R.St) (r : Ending) (w' : World) : Prop := r = .returned (.bool true) ∧ Rd w' g b st ∧ Pl w' p st ∧ Two w w' g p

set_option maxRecDepth 100000 in
set_option maxHeartbeats 4000000 in
theorem step_num (N M : Int) (g b p : Nat) (st : R.St) (w : World) (hr : Rd w g b st) (hp : Pl w p st) (hgp : g ≠ p) (hbp : b ≠ p) (hblt : b < w.heap.size) (hcap : st.1.length ≤ 4000000000) :
    Calls Try.prog 24 #[.pointer (some ⟨g, 0, none⟩), .pointer (some ⟨p, 0, none⟩), .agg #[.int .i64 0, .int .i64 N, .int .i64 M]] w (StepPost w g b p ((R.num N st).2)) := by
  have hcN := fun W' (h : Rd W' g b st) => num_rd N g b st W' h (by omega)
  have hcP := fun W' (h : Pl W' p st) => num_pl N p st W' h (by omega)
  generalize R.num N st = x at hcN hcP ⊢
  obtain ⟨n, st1⟩ := x
  have HCN := Lib.hid hcN; clear hcN
  have HCP := Lib.hid hcP; clear hcP
  have hr1 := hr.alloc (.cells #[.int .i64 0, .int .i64 N, .int .i64 M] 52)
  have hp1 := hp.alloc (.cells #[.int .i64 0, .int .i64 N, .int .i64 M] 52)
  have h2 : Two w (w.alloc (.cells #[.int .i64 0, .int .i64 N, .int .i64 M] 52)) g p := (Two.refl _ _ _).alloc _
  have HB := Has.made w 52 #[.int .i64 0, .int .i64 N, .int .i64 M]
  have hg0 : w.heap.size ≠ g := by have := hr.lt; omega
  have hp0 : w.heap.size ≠ p := by have := Has.lt hp; omega
  go_enter Try.func24, Try.ntmps24
  go_wp2_with fail
  generalize w.alloc (.cells #[.int .i64 0, .int .i64 N, .int .i64 M] 52) = W at hr1 hp1 h2 HB ⊢
  have hx1 : W.cell? ⟨w.heap.size, 1, none⟩ = some (.int .i64 N) := HB.cell 1
  have hx2 : W.cell? ⟨w.heap.size, 2, none⟩ = some (.int .i64 M) := HB.cell 2
  generalize w.heap.size = B at hg0 hp0 hx1 hx2 HB ⊢
  replace hr1 := hr1.drew
  replace hp1 := hp1.drew
  replace h2 := h2.drew
  replace HB : Has W.drew B 52 #[.int .i64 0, .int .i64 N, .int .i64 M] := HB
  go_region_with (first
    | (go_at_call 17; refine (HCN.out _ hr1).mono ?_; rintro e w1 ⟨rfl, hrN, ho⟩; have hp1 := hp1.only ho hgp.symm; have hr1 := hrN; have h2 := h2.left ho; have HB := ho.has HB hg0; have hx1 : w1.cell? ⟨B, 1, none⟩ = some (.int .i64 N) := HB.cell 1; have hx2 : w1.cell? ⟨B, 2, none⟩ = some (.int .i64 M) := HB.cell 2; clear ho hrN)
    | (go_at_call 35; refine (HCP.out _ hp1).mono ?_; rintro e w1 ⟨rfl, hpN, ho⟩; have hr1 := hr1.only ho hgp hbp; have hp1 := hpN; have h2 := h2.right ho; have HB := ho.has HB hp0; have hx1 : w1.cell? ⟨B, 1, none⟩ = some (.int .i64 N) := HB.cell 1; have hx2 : w1.cell? ⟨B, 2, none⟩ = some (.int .i64 M) := HB.cell 2; clear ho hpN))
  all_goals go_wp2_with fail
  all_goals go_ret
  all_goals exact ⟨rfl, hr1, hp1, h2⟩

set_option maxRecDepth 100000 in
set_option maxHeartbeats 4000000 in
theorem step_raw (N M : Int) (g b p : Nat) (st : R.St) (w : World) (hr : Rd w g b st) (hp : Pl w p st) (hgp : g ≠ p) (hbp : b ≠ p) (hblt : b < w.heap.size) (hcap : st.1.length ≤ 4000000000) :
    Calls Try.prog 24 #[.pointer (some ⟨g, 0, none⟩), .pointer (some ⟨p, 0, none⟩), .agg #[.int .i64 3, .int .i64 N, .int .i64 M]] w (StepPost w g b p ((R.next N st).2)) := by
  have hcN := fun W' (h : Rd W' g b st) => raw_rd N g b st W' h (by omega)
  have hcP := fun W' (h : Pl W' p st) => raw_pl N p st W' h (by omega)
  generalize R.next N st = x at hcN hcP ⊢
  obtain ⟨n, st1⟩ := x
  have HCN := Lib.hid hcN; clear hcN
  have HCP := Lib.hid hcP; clear hcP
  have hr1 := hr.alloc (.cells #[.int .i64 3, .int .i64 N, .int .i64 M] 52)
  have hp1 := hp.alloc (.cells #[.int .i64 3, .int .i64 N, .int .i64 M] 52)
  have h2 : Two w (w.alloc (.cells #[.int .i64 3, .int .i64 N, .int .i64 M] 52)) g p := (Two.refl _ _ _).alloc _
  have HB := Has.made w 52 #[.int .i64 3, .int .i64 N, .int .i64 M]
  have hg0 : w.heap.size ≠ g := by have := hr.lt; omega
  have hp0 : w.heap.size ≠ p := by have := Has.lt hp; omega
  go_enter Try.func24, Try.ntmps24
  go_wp2_with fail
  generalize w.alloc (.cells #[.int .i64 3, .int .i64 N, .int .i64 M] 52) = W at hr1 hp1 h2 HB ⊢
  have hx1 : W.cell? ⟨w.heap.size, 1, none⟩ = some (.int .i64 N) := HB.cell 1
  have hx2 : W.cell? ⟨w.heap.size, 2, none⟩ = some (.int .i64 M) := HB.cell 2
  generalize w.heap.size = B at hg0 hp0 hx1 hx2 HB ⊢
  replace hr1 := hr1.drew
  replace hp1 := hp1.drew
  replace h2 := h2.drew
  replace HB : Has W.drew B 52 #[.int .i64 3, .int .i64 N, .int .i64 M] := HB
  go_region_with (first
    | (go_at_call 20; refine (HCN.out _ hr1).mono ?_; rintro e w1 ⟨rfl, hrN, ho⟩; have hp1 := hp1.only ho hgp.symm; have hr1 := hrN; have h2 := h2.left ho; have HB := ho.has HB hg0; have hx1 : w1.cell? ⟨B, 1, none⟩ = some (.int .i64 N) := HB.cell 1; have hx2 : w1.cell? ⟨B, 2, none⟩ = some (.int .i64 M) := HB.cell 2; clear ho hrN)
    | (go_at_call 36; refine (HCP.out _ hp1).mono ?_; rintro e w1 ⟨rfl, hpN, ho⟩; have hr1 := hr1.only ho hgp hbp; have hp1 := hpN; have h2 := h2.right ho; have HB := ho.has HB hp0; have hx1 : w1.cell? ⟨B, 1, none⟩ = some (.int .i64 N) := HB.cell 1; have hx2 : w1.cell? ⟨B, 2, none⟩ = some (.int .i64 M) := HB.cell 2; clear ho hpN))
  all_goals go_wp2_with fail
  all_goals go_ret
  all_goals exact ⟨rfl, hr1, hp1, h2⟩

set_option maxRecDepth 100000 in
set_option maxHeartbeats 4000000 in
theorem step_text (N M : Int) (g b p : Nat) (st : R.St) (w : World) (hr : Rd w g b st) (hp : Pl w p st) (hgp : g ≠ p) (hbp : b ≠ p) (hblt : b < w.heap.size) (hcap : st.1.length ≤ 4000000000) :
    Calls Try.prog 24 #[.pointer (some ⟨g, 0, none⟩), .pointer (some ⟨p, 0, none⟩), .agg #[.int .i64 1, .int .i64 N, .int .i64 M]] w (StepPost w g b p ((R.text N st).2)) := by
  have hcN := fun W' (h : Rd W' g b st) => text_rd N g b st W' h (by omega)
  have hcP := fun W' (h : Pl W' p st) => num_pl N p st W' h (by omega)
  have hrest := R.num_rest N st
  have hte : R.text N st = R.next (R.num N st).1 (R.num N st).2 := rfl
  rw [hte] at hcN ⊢
  clear hte
  generalize R.num N st = x at hcN hcP hrest ⊢
  obtain ⟨d, st2⟩ := x
  simp only at hcN hrest ⊢
  have hcQ := fun W' (h : Pl W' p st2) => raw_pl d p st2 W' h (by omega)
  generalize R.next d st2 = y at hcN hcQ ⊢
  obtain ⟨t, st1⟩ := y
  have HCN := Lib.hid hcN; clear hcN
  have HCP := Lib.hid hcP; clear hcP
  have HCQ := Lib.hid hcQ; clear hcQ
  have hr1 := hr.alloc (.cells #[.int .i64 1, .int .i64 N, .int .i64 M] 52)
  have hp1 := hp.alloc (.cells #[.int .i64 1, .int .i64 N, .int .i64 M] 52)
  have h2 : Two w (w.alloc (.cells #[.int .i64 1, .int .i64 N, .int .i64 M] 52)) g p := (Two.refl _ _ _).alloc _
  have HB := Has.made w 52 #[.int .i64 1, .int .i64 N, .int .i64 M]
  have hg0 : w.heap.size ≠ g := by have := hr.lt; omega
  have hp0 : w.heap.size ≠ p := by have := Has.lt hp; omega
  go_enter Try.func24, Try.ntmps24
  go_wp2_with fail
  generalize w.alloc (.cells #[.int .i64 1, .int .i64 N, .int .i64 M] 52) = W at hr1 hp1 h2 HB ⊢
  have hx1 : W.cell? ⟨w.heap.size, 1, none⟩ = some (.int .i64 N) := HB.cell 1
  have hx2 : W.cell? ⟨w.heap.size, 2, none⟩ = some (.int .i64 M) := HB.cell 2
  generalize w.heap.size = B at hg0 hp0 hx1 hx2 HB ⊢
  replace hr1 := hr1.drew
  replace hp1 := hp1.drew
  replace h2 := h2.drew
  replace HB : Has W.drew B 52 #[.int .i64 1, .int .i64 N, .int .i64 M] := HB
  go_region_with (first
    | (go_at_call 18; refine (HCN.out _ hr1).mono ?_; rintro e w1 ⟨rfl, hrN, ho⟩; have hp1 := hp1.only ho hgp.symm; have hr1 := hrN; have h2 := h2.left ho; have HB := ho.has HB hg0; have hx1 : w1.cell? ⟨B, 1, none⟩ = some (.int .i64 N) := HB.cell 1; have hx2 : w1.cell? ⟨B, 2, none⟩ = some (.int .i64 M) := HB.cell 2; clear ho hrN)
    | (go_at_call 35; refine (HCP.out _ hp1).mono ?_; rintro e w1 ⟨rfl, hpN, ho⟩; have hr1 := hr1.only ho hgp hbp; have hp1 := hpN; have h2 := h2.right ho; have HB := ho.has HB hp0; have hx1 : w1.cell? ⟨B, 1, none⟩ = some (.int .i64 N) := HB.cell 1; have hx2 : w1.cell? ⟨B, 2, none⟩ = some (.int .i64 M) := HB.cell 2; clear ho hpN)
    | (go_at_call 36; refine (HCQ.out _ hp1).mono ?_; rintro e w1 ⟨rfl, hpN, ho⟩; have hr1 := hr1.only ho hgp hbp; have hp1 := hpN; have h2 := h2.right ho; have HB := ho.has HB hp0; have hx1 : w1.cell? ⟨B, 1, none⟩ = some (.int .i64 N) := HB.cell 1; have hx2 : w1.cell? ⟨B, 2, none⟩ = some (.int .i64 M) := HB.cell 2; clear ho hpN))
  all_goals go_wp2_with fail
  all_goals go_ret
  all_goals exact ⟨rfl, hr1, hp1, h2⟩

end Go.Proofs.Ytpclknempmhmiaa
