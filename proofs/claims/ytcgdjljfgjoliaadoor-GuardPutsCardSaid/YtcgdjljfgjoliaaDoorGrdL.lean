/-
  The statements' own eight and noughts.
-/
import Derived.Test.YtcgdjljfgjoliaaDoorGrdA
namespace Go.Proofs.YtcgdjljfgjoliaaDoor
open Go.RowKit
set_option linter.unusedVariables false

set_option maxRecDepth 100000 in
set_option maxHeartbeats 1000000 in
theorem leight_any (n : Int) (w : World) :
    Calls Tryd.prog 13 #[.int .i64 n] w fun e w' => e = .returned (.string (S (Grd.eightI n))) ∧ Below w.heap.size w w' := by
  have hcv := fun (W : World) (c : Int) => conv_one (P := Tryd.prog) Tryd.underlying35 Tryd.underlying5 Tryd.underlying9 W c
  have hback := Grd.eightI_back n
  have h0 : (Grd.eightI n).drop 8 = [] := rfl
  have h8 : (Grd.eightI n).drop 0 = Grd.eightI n := rfl
  have hlen : ∀ k, ((Grd.eightI n).drop k).length = 8 - k := fun k => by rw [List.length_drop]; rfl
  have hsh : ∀ k : Nat, n / 2 ^ (8 * k) / 256 = n / 2 ^ (8 * (k + 1)) := fun k => by
    rw [Int.ediv_ediv_of_nonneg (Int.pow_nonneg (by decide)), Nat.mul_succ, Int.pow_add]
    rfl
  have HB : Hid _ := hback
  have HL : Hid _ := hlen
  have HS : Hid _ := hsh
  have H0 := Lib.hid h0
  have H8 := Lib.hid h8
  clear hback hlen hsh h0 h8
  generalize hF : Grd.eightI n = L at *
  clear hF
  go_enter Tryd.func13, Tryd.ntmps13
  go_wp2_with fail
  go_loopw [0, 3, 4] (fun v0 v3 v4 wr => ∃ k : Nat, k ≤ 8 ∧ v0 = .int .i64 (n / 2 ^ (8 * k)) ∧ v3 = .string (S (L.drop (8 - k))) ∧ v4 = .int .i64 (k : Int) ∧ Below w.heap.size w wr) (fun _ _ v4 _ => 8 - vI v4)
  case atStart => exact ⟨0, Nat.zero_le _, by rw [Nat.mul_zero, Int.pow_zero, Int.ediv_one], by rw [Nat.sub_zero, H0.out]; rfl, rfl, Below.refl _ _⟩
  case round =>
    obtain ⟨k, hk, rfl, rfl, rfl, hb⟩ := hrel
    have hk0 : (0 : Int) ≤ (k : Int) := by omega
    by_cases hlt : k < 8
    · have hki : (k : Int) < 8 := by omega
      have hs := HS.out k
      have hbk := HB.out k hlt
      have hl := HL.out (8 - k)
      obtain ⟨m, hm⟩ : ∃ m, n / 2 ^ (8 * k) = m := ⟨_, rfl⟩
      rw [hm] at hs hbk ⊢
      clear hm
      obtain ⟨l, hl1⟩ : ∃ l, L.drop (8 - k) = l := ⟨_, rfl⟩
      rw [hl1] at hl hbk ⊢
      clear hl1
      have hlim : ¬ 9223372036854775807 < (0 + 1) + l.length := by omega
      have HN := Lib.hid (And.intro hs (And.intro hbk (And.intro hb hl)))
      clear hs hbk hb
      go_wp2_with fail
      refine ⟨⟨k + 1, by omega, ?_, ?_, by go_num, HN.out.2.2.1.alloc HN.out.2.2.1.size _⟩, ?_⟩
      · rw [HN.out.1]
      · rw [show 8 - (k + 1) = 7 - k by omega, ← HN.out.2.1]
      · simp only [vI]
        omega
    · obtain rfl : k = 8 := by omega
      rw [Nat.sub_self, H8.out]
      have HB2 := Lib.hid hb
      clear hb
      go_wp2_with fail
      go_ret
      exact ⟨rfl, HB2.out⟩

theorem nought_all (n : Nat) {W : World} {b : Nat} (h : Has W b 5 (fillc 0 n 0)) :
    (convert 35 9 (.slice (some ⟨b, 0, none⟩) n n)).run Tryd.prog W = .ok (.string (S (Grd.zeros n))) W :=
  conv_text Tryd.underlying35 Tryd.underlying5 Tryd.underlying9 (Grd.zeros n) (Grd.zeros_len n) (fun i hi => by
    rw [Nat.zero_add, h.cell]
    unfold fillc Grd.zeros
    rw [List.replicate_zero, List.nil_append, Nat.sub_zero, List.getElem?_toArray])
set_option maxRecDepth 100000 in
theorem noughts_any (n : Nat) (hn : n ≤ 64) (w : World) :
    Calls Tryd.prog 14 #[.int .i64 (n : Int)] w fun e w' => e = .returned (.string (S (Grd.zeros n))) ∧ Below w.heap.size w w' := by
  have hmk := fun W => run_make_bytes 0 n (by omega) W
  have hcv := nought_all n (Has.made w 5 (fillc 0 n 0))
  have hb0 : Below w.heap.size w (w.alloc (.cells (fillc 0 n 0) 5)) := (Below.refl _ w).alloc (Nat.le_refl _) _
  generalize fillc 0 n 0 = F at hmk hcv hb0
  have HB := Lib.hid hb0
  clear hb0
  go_enter Tryd.func14, Tryd.ntmps14
  go_wp2_with fail
  go_ret
  exact ⟨rfl, HB.out⟩
end Go.Proofs.YtcgdjljfgjoliaaDoor
