/-
  What was laid is read as it was: the reader's calls.
-/
import Derived.Test.YtclocjfnkaaenaaBackSpec
import Derived.Test.YtclocjfnkaaenaaTexts
namespace Go.Proofs.Ytclocjfnkaaenaa
open Go.RowKit
set_option linter.unusedVariables false

def BackPost (w : World) (g b : Nat) (v : Value) (r : List UInt8) (e : Ending) (w' : World) : Prop := e = .returned v ∧ Rd w' g b (r, 0) ∧ Only w w' g
theorem back_num (N : Int) (r : List UInt8) (g b : Nat) (w : World) (h : Rd w g b (M.encL N ++ r, 0)) (hok : (M.encL N).isEmpty = false) (hcap : (M.encL N ++ r).length ≤ 4611686018427387904) :
    Calls Try.prog 10 #[.pointer (some ⟨g, 0, none⟩), .int .i64 N] w (BackPost w g b (.int .i64 N) r) := by
  have hN : 0 ≤ N ∧ N < 72057594037927936 := by
    refine Decidable.byContradiction fun hc => ?_
    rw [M.encL, if_neg hc] at hok
    cases hok
  have h1 := num_rd N g b (M.encL N ++ r, 0) w h hcap
  rw [R.num_fwd N N r hN.1 hN.2 (Int.le_refl _)] at h1
  exact h1
theorem back_text (T r : List UInt8) (g b : Nat) (w : World) (h : Rd w g b (M.encL T.length ++ T ++ r, 0)) (hT : T.length ≤ 1048576) (hcap : (M.encL T.length ++ T ++ r).length ≤ 4611686018427387904) :
    Calls Try.prog 11 #[.pointer (some ⟨g, 0, none⟩), .int .i64 (T.length : Int)] w (BackPost w g b (.string (S T)) r) := by
  have h1 := text_rd T.length g b (M.encL T.length ++ T ++ r, 0) w h hcap
  rw [R.text_fwd T.length T r (by omega) (Int.le_refl _)] at h1
  exact h1
theorem back_flag (F : Bool) (r : List UInt8) (g b : Nat) (w : World) (h : Rd w g b ([if F then 1 else 0] ++ r, 0)) (hcap : r.length ≤ 461168601842738790) :
    Calls Try.prog 12 #[.pointer (some ⟨g, 0, none⟩)] w (BackPost w g b (.bool F) r) := by
  have h1 := flag_rd g b ([if F then 1 else 0] ++ r, 0) w h (by rw [List.length_append]; simp; omega)
  rw [R.flag_fwd F r] at h1
  exact h1
theorem back_raw (T r : List UInt8) (g b : Nat) (w : World) (h : Rd w g b (T ++ r, 0)) (hcap : (T ++ r).length ≤ 4611686018427387904) :
    Calls Try.prog 13 #[.pointer (some ⟨g, 0, none⟩), .int .i64 (T.length : Int)] w (BackPost w g b (.string (S T)) r) := by
  have h1 := raw_rd T.length g b (T ++ r, 0) w h hcap
  rw [R.raw_fwd T r] at h1
  exact h1
theorem back_texts (L : List (List UInt8)) (r : List UInt8) (g b : Nat) (w : World) (h : Rd w g b (M.encL L.length ++ Item.texts L ++ r, 0)) (hL : (L.map fun s => s.length + 1).sum ≤ 1048576) (hcap : (M.encL L.length ++ Item.texts L ++ r).length ≤ 4000000000) (hb : b < w.heap.size) :
    Calls Try.prog 14 #[.pointer (some ⟨g, 0, none⟩), .int .i64 (L.length : Int), .int .i64 (longest L : Nat)] w (TextsPost w g b (L, (r, 0))) := by
  have h1 := texts_rd L.length (longest L : Nat) g b (M.encL L.length ++ Item.texts L ++ r, 0) w h hcap hb
  have hll := Item.length_le_sum L
  have hle := Item.le_sum L
  have hlo := longest_mem L
  rw [R.texts_fwd (longest L : Nat) L r (by omega) (fun s hs => ⟨by have := hle s hs; omega, by have := hlo s hs; omega⟩)] at h1
  exact h1

/-- A row of structs of five cells, opened. -/
theorem own_open5 {w : World} {B e n : Nat} {v : Value} {xs : List Value} (h : w.ownsRow B e 5 v n xs) :
    ∃ A cap, v = .slice A n cap ∧ (0 < n → ∃ g, A = some ⟨g, 0, none⟩ ∧ g < w.heap.size ∧ ∀ j, j < n * 5 → w.cell? ⟨g, j, none⟩ = xs[j]?) := by
  rcases h.2 with ⟨rfl, rfl⟩ | ⟨g, cap, cur, rfl, hB, hg, hr⟩
  · exact ⟨none, 0, rfl, fun h => absurd h (by omega)⟩
  · exact ⟨_, cap, rfl, fun _ => ⟨g, rfl, (h.lt g rfl).2, fun j hj => h.cellAt j hj⟩⟩
theorem own_open1 {w : World} {B e n : Nat} {v : Value} {xs : List Value} (h : w.ownsRow B e 1 v n xs) :
    ∃ A cap, v = .slice A n cap ∧ (0 < n → ∃ g, A = some ⟨g, 0, none⟩ ∧ ∀ j, j < n → w.cell? ⟨g, j, none⟩ = xs[j]?) := by
  rcases h.2 with ⟨rfl, rfl⟩ | ⟨g, cap, cur, rfl, hB, hg, hr⟩
  · exact ⟨none, 0, rfl, fun h => absurd h (by omega)⟩
  · exact ⟨_, cap, rfl, fun _ => ⟨g, rfl, fun j hj => h.cellAt j (by omega)⟩⟩
end Go.Proofs.Ytclocjfnkaaenaa
