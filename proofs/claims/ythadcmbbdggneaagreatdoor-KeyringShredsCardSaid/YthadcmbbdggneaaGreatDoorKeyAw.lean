/-
  The statements' example: awake.
-/
import Derived.Test.YthadcmbbdggneaaGreatDoorKeyAt
namespace Go.Proofs.YthadcmbbdggneaaGreatDoor
open Go.RowKit
set_option linter.unusedVariables false

/-- A ring whose keys are K, with no loss armed; few acts yet. -/
def Rst (w0 W : World) (R : RB) (K : Nat → Nat) (m : Nat) : Prop := ∃ (wn sh : Nat) (d : Dsk.St), RAt w0 W R 1 wn sh d ∧ Key.KOn K d ∧ d.arm = none ∧ d.acts ≤ m ∧ d.falls ≤ m ∧ wn ≤ m ∧ sh ≤ m
section
variable {w0 W W' : World} {R : RB} {K : Nat → Nat} {m : Nat}
theorem Rst.below (h : Rst w0 W R K m) (hb : Below W.heap.size W W') : Rst w0 W' R K m := by
  obtain ⟨wn, sh, d, h1, h2⟩ := h
  exact ⟨wn, sh, d, h1.below hb, h2⟩
theorem Rst.bel (h : Rst w0 W R K m) : Below w0.heap.size w0 W := by
  obtain ⟨wn, sh, d, h1, h2⟩ := h
  exact h1.bel
theorem Rst.put (h : Rst w0 W R K m) (hm : m ≤ 1000) {j c : Nat} (hj : j < 8) (h0 : K j = 0) (hc : c ≠ 0) :
    Calls Tryz.prog 24 #[.pointer (some ⟨R.rb, 0, none⟩), .int .i64 (j : Int), .string (S (Key.keyT c))] W fun e w' => e = .returned (.int .i64 0) ∧ Rst w0 w' R (Key.upd K j c) (m + 2) := by
  obtain ⟨wn, sh, d, h1, h2, h3, h4, h5, h6, h7⟩ := h
  refine (yput_any h1 h2 (by omega) (by omega) (by omega) hj h0 hc).mono ?_
  rintro e w' ⟨c', rfl, _, d', a1, a2, hd⟩
  rcases hd with ⟨rfl, wn', b1, b2, b3, b4⟩ | ⟨_, _, _, _, _, b6⟩
  · exact ⟨rfl, wn', sh, d', b2, b3, b4 h3, by omega, by omega, by omega, by omega⟩
  · exact absurd h3 b6
theorem Rst.shred (h : Rst w0 W R K m) (hm : m ≤ 1000) {j : Nat} (hj : j < 8) (h0 : K j ≠ 0) :
    Calls Tryz.prog 25 #[.pointer (some ⟨R.rb, 0, none⟩), .int .i64 (j : Int)] W fun e w' => e = .returned (.int .i64 0) ∧ Rst w0 w' R (Key.upd K j 0) (m + 2) := by
  obtain ⟨wn, sh, d, h1, h2, h3, h4, h5, h6, h7⟩ := h
  refine (yshred_any h1 h2 (by omega) (by omega) (by omega) hj h0).mono ?_
  rintro e w' ⟨c', rfl, _, d', a1, a2, hd⟩
  rcases hd with ⟨rfl, wn', b1, b2, b3, b4⟩ | ⟨_, _, _, _, _, b6⟩
  · exact ⟨rfl, wn', sh + 1, d', b2, b3, b4 h3, by omega, by omega, by omega, by omega⟩
  · exact absurd h3 b6
theorem Rst.free (h : Rst w0 W R K m) {j : Nat} (hj : j < 8) {q : Bool} (hq : q = decide (K j = 0)) :
    Calls Tryz.prog 22 #[.pointer (some ⟨R.rb, 0, none⟩), .int .i64 (j : Int)] W fun e w' => e = .returned (.bool q) ∧ Rst w0 w' R K m := by
  obtain ⟨wn, sh, d, h1, h2, h3⟩ := h
  refine (yfree_any h1 h2 hj).mono ?_
  rintro e w' ⟨rfl, hb⟩
  exact ⟨by rw [hq], wn, sh, d, h1.below hb, h2, h3⟩
theorem Rst.made {w0 w : World} {g bd mb : Nat} (h : DiskAt w g bd mb (Dsk.fresh 20)) (hb0 : Below w0.heap.size w0 w) (hlo : ∀ k ∈ [g, bd, mb], w0.heap.size ≤ k) :
    Calls Tryz.prog 8 #[.pointer (some ⟨g, 0, none⟩), .int .i64 1] w fun e w' => ∃ R : RB, R.g = g ∧ R.bd = bd ∧ R.mb = mb ∧ e = .returned (.pointer (some ⟨R.rb, 0, none⟩)) ∧ Rst w0 w' R (fun _ => 0) 0 :=
  (ymade_any (b := 1) h hb0 hlo rfl Key.kon_fresh.len (by decide) (by decide)).mono (fun e w' ⟨R, q1, q2, q3, q4, q5, _, _⟩ =>
    ⟨R, q1, q2, q3, q4, 0, 0, _, q5, Key.kon_fresh, rfl, Nat.le_refl _, Nat.le_refl _, Nat.le_refl _, Nat.le_refl _⟩)
end
set_option maxRecDepth 100000 in
theorem kawake_any (w : World) : Calls Tryz.prog 18 #[] w fun e w' => e = .returned (.bool true) ∧ Below w.heap.size w w' := by
  have HNEW : Hid (Calls Tryz.prog 7 #[.int .i64 20] w (NewDPost w 20)) := Lib.hid (newd_any 20 (by decide) (by decide) w)
  unfold NewDPost at HNEW
  have HMD : Hid (∀ (W : World) (g bd mb : Nat), DiskAt W g bd mb (Dsk.fresh 20) → Below w.heap.size w W → w.heap.size ≤ g → w.heap.size ≤ bd → w.heap.size ≤ mb → Calls Tryz.prog 8 #[.pointer (some ⟨g, 0, none⟩), .int .i64 1] W fun e w' => ∃ R : RB, R.g = g ∧ R.bd = bd ∧ R.mb = mb ∧ e = .returned (.pointer (some ⟨R.rb, 0, none⟩)) ∧ Rst w w' R (fun _ => 0) 0) :=
    Lib.hid (fun W g bd mb h1 h2 h3 h4 h5 => Rst.made h1 h2 (by
      intro k hk
      simp only [List.mem_cons, List.not_mem_nil, or_false] at hk
      rcases hk with rfl | rfl | rfl <;> assumption))
  have HK := Lib.hid (fun W => key_any 1 (by decide) W)
  unfold KeyPost at HK
  have HPT : Hid (∀ (W : World) (R : RB), Rst w W R (fun _ => 0) 0 → Calls Tryz.prog 24 #[.pointer (some ⟨R.rb, 0, none⟩), .int .i64 0, .string (S (Key.keyT 1))] W fun e w' => e = .returned (.int .i64 0) ∧ Rst w w' R (Key.upd (fun _ => 0) 0 1) 2) :=
    Lib.hid (fun W R h => h.put (by decide) (by decide) rfl (by decide))
  have HF1 : Hid (∀ (W : World) (R : RB), Rst w W R (Key.upd (fun _ => 0) 0 1) 2 → Calls Tryz.prog 22 #[.pointer (some ⟨R.rb, 0, none⟩), .int .i64 0] W fun e w' => e = .returned (.bool false) ∧ Rst w w' R (Key.upd (fun _ => 0) 0 1) 2) :=
    Lib.hid (fun W R h => h.free (j := 0) (by decide) (by decide))
  have HSD : Hid (∀ (W : World) (R : RB), Rst w W R (Key.upd (fun _ => 0) 0 1) 2 → Calls Tryz.prog 25 #[.pointer (some ⟨R.rb, 0, none⟩), .int .i64 0] W fun e w' => e = .returned (.int .i64 0) ∧ Rst w w' R (Key.upd (Key.upd (fun _ => 0) 0 1) 0 0) 4) :=
    Lib.hid (fun W R h => h.shred (j := 0) (by decide) (by decide) (by decide))
  have HF2 : Hid (∀ (W : World) (R : RB), Rst w W R (Key.upd (Key.upd (fun _ => 0) 0 1) 0 0) 4 → Calls Tryz.prog 22 #[.pointer (some ⟨R.rb, 0, none⟩), .int .i64 0] W fun e w' => e = .returned (.bool true) ∧ Rst w w' R (Key.upd (Key.upd (fun _ => 0) 0 1) 0 0) 4) :=
    Lib.hid (fun W R h => h.free (j := 0) (by decide) (by decide))
  generalize Dsk.fresh 20 = d0 at HNEW HMD
  generalize Key.keyT 1 = kt at HK HPT
  generalize Key.upd (Key.upd (fun _ => 0) 0 1) 0 0 = K2 at HSD HF2
  generalize Key.upd (fun _ => 0) 0 1 = K1 at HPT HF1 HSD
  go_enter Tryz.func18, Tryz.ntmps18
  go_wp2_with fail
  refine HNEW.out.mono ?_
  rintro r w1 ⟨g, bd, mb, rfl, hd, hb, l1, l2, l3⟩
  have HD := Lib.hid (And.intro hd (And.intro hb (And.intro l1 (And.intro l2 l3))))
  clear hd hb l1 l2 l3 HNEW
  go_wp2_with fail
  refine (HMD.out _ _ _ _ HD.out.1 HD.out.2.1 HD.out.2.2.1 HD.out.2.2.2.1 HD.out.2.2.2.2).mono ?_
  rintro r w2 ⟨R, r1, r2, r3, rfl, hr⟩
  have HR := Lib.hid hr
  clear hr r1 r2 r3 HMD HD
  go_wp2_with fail
  refine (HK.out _).mono ?_
  rintro r w3 ⟨rfl, hb⟩
  have HR3 := Lib.hid (HR.out.below hb)
  clear hb HR HK
  go_wp2_with fail
  refine (HPT.out _ _ HR3.out).mono ?_
  rintro r w4 ⟨rfl, hr⟩
  have HR4 := Lib.hid hr
  clear hr HR3 HPT
  go_wp2_with fail
  refine (HF1.out _ _ HR4.out).mono ?_
  rintro r w5 ⟨rfl, hr⟩
  have HR5 := Lib.hid hr
  clear hr HR4 HF1
  go_wp2_with fail
  refine (HSD.out _ _ HR5.out).mono ?_
  rintro r w6 ⟨rfl, hr⟩
  have HR6 := Lib.hid hr
  clear hr HR5 HSD
  go_wp2_with fail
  refine (HF2.out _ _ HR6.out).mono ?_
  rintro r w7 ⟨rfl, hr⟩
  have HR7 := Lib.hid hr
  clear hr HR6 HF2
  go_wp2_with fail
  go_ret
  exact ⟨rfl, HR7.out.bel⟩
end Go.Proofs.YthadcmbbdggneaaGreatDoor
