/-
  The contract of the statements' lay.
-/
import Derived.Test.YtclocjfnkaaenaaItemSpec
import Derived.Test.YtclocjfnkaaenaaWriteT
namespace Go.Proofs.Ytclocjfnkaaenaa
open Go.RowKit
set_option linter.unusedVariables false

def LayPost (w : World) (g : Nat) (st : Wt.St) (r : Ending) (w' : World) : Prop := r = .returned (.tuple #[]) ∧ Wr w' g st ∧ Only w w' g

set_option maxHeartbeats 1000000 in
theorem wtexts_nil (A : Option Addr) (cap : Nat) (g : Nat) (st : Wt.St) (w : World) (h : Wr w g st) (hcap : (Wt.flat st).length ≤ 1000000000000000) :
    Calls Try.prog 22 #[.pointer (some ⟨g, 0, none⟩), .slice A 0 cap] w (LayPost w g (Wt.texts [] st)) := by
  have hN := wnum_wr 0 g st w h (by omega)
  have hT : Wt.texts [] st = Wt.num 0 st := rfl
  rw [hT]
  generalize Wt.num 0 st = st1 at hN ⊢
  clear hT
  have HN := Lib.hid hN; clear hN
  go_enter Try.func22, Try.ntmps22
  go_wp2_with fail
  refine (HN.out).mono ?_
  rintro r w1 ⟨rfl, h1, ho1⟩
  go_wp2_with fail
  refine wp_loop_rounds 1 ?_
  rw [rounds_succ]
  go_wp2_with fail
  go_returns
  exact ⟨rfl, h1, ho1⟩

set_option maxHeartbeats 1000000 in
theorem lay_num (N : Int) (T : List UInt8) (F : Bool) (A : Option Addr) (n cap g : Nat) (st : Wt.St) (w : World) (h : Wr w g st) (hcap : (Wt.flat st).length ≤ 1000000000) :
    Calls Try.prog 6 #[.pointer (some ⟨g, 0, none⟩), .agg #[.int .i64 0, .int .i64 N, .string (S T), .bool F, .slice A n cap]] w (LayPost w g (Wt.num N st)) := by
  have hN := fun W (hW : Wr W g st) => wnum_wr N g st W hW (by omega)
  generalize Wt.num N st = st1 at hN ⊢
  have HN := Lib.hid hN; clear hN
  have hb : Below w.heap.size w (w.alloc (.cells #[.int .i64 0, .int .i64 N, .string (S T), .bool F, .slice A n cap] 31)) := (Below.refl _ _).alloc (Nat.le_refl _) _
  go_enter Try.func6, Try.ntmps6
  go_wp2_with fail
  refine (HN.out _ (h.below hb (Nat.le_refl _))).mono ?_
  rintro r w1 ⟨rfl, h1, ho1⟩
  go_wp2_with fail
  go_returns
  exact ⟨rfl, h1, (Only.of_below hb g).trans ho1⟩

set_option maxHeartbeats 1000000 in
theorem lay_text (N : Int) (T : List UInt8) (F : Bool) (A : Option Addr) (n cap g : Nat) (st : Wt.St) (w : World) (h : Wr w g st) (hcap : (Wt.flat st).length ≤ 1000000000) (hT : T.length ≤ 1048576) :
    Calls Try.prog 6 #[.pointer (some ⟨g, 0, none⟩), .agg #[.int .i64 1, .int .i64 N, .string (S T), .bool F, .slice A n cap]] w (LayPost w g (Wt.text T st)) := by
  have hN := fun W (hW : Wr W g st) => wtext_wr T g st W hW (by omega)
  generalize Wt.text T st = st1 at hN ⊢
  have HN := Lib.hid hN; clear hN
  have hb : Below w.heap.size w (w.alloc (.cells #[.int .i64 1, .int .i64 N, .string (S T), .bool F, .slice A n cap] 31)) := (Below.refl _ _).alloc (Nat.le_refl _) _
  go_enter Try.func6, Try.ntmps6
  go_wp2_with fail
  refine (HN.out _ (h.below hb (Nat.le_refl _))).mono ?_
  rintro r w1 ⟨rfl, h1, ho1⟩
  go_wp2_with fail
  go_returns
  exact ⟨rfl, h1, (Only.of_below hb g).trans ho1⟩

set_option maxHeartbeats 1000000 in
theorem lay_flag (N : Int) (T : List UInt8) (F : Bool) (A : Option Addr) (n cap g : Nat) (st : Wt.St) (w : World) (h : Wr w g st) (hcap : (Wt.flat st).length ≤ 1000000000) :
    Calls Try.prog 6 #[.pointer (some ⟨g, 0, none⟩), .agg #[.int .i64 2, .int .i64 N, .string (S T), .bool F, .slice A n cap]] w (LayPost w g (Wt.flag F st)) := by
  have hN := fun W (hW : Wr W g st) => wflag_wr F g st W hW (by omega)
  generalize Wt.flag F st = st1 at hN ⊢
  have HN := Lib.hid hN; clear hN
  have hb : Below w.heap.size w (w.alloc (.cells #[.int .i64 2, .int .i64 N, .string (S T), .bool F, .slice A n cap] 31)) := (Below.refl _ _).alloc (Nat.le_refl _) _
  go_enter Try.func6, Try.ntmps6
  go_wp2_with fail
  refine (HN.out _ (h.below hb (Nat.le_refl _))).mono ?_
  rintro r w1 ⟨rfl, h1, ho1⟩
  go_wp2_with fail
  go_returns
  exact ⟨rfl, h1, (Only.of_below hb g).trans ho1⟩

set_option maxHeartbeats 1000000 in
theorem lay_raw (N : Int) (T : List UInt8) (F : Bool) (A : Option Addr) (n cap g : Nat) (st : Wt.St) (w : World) (h : Wr w g st) (hcap : (Wt.flat st).length ≤ 1000000000) (hT : T.length ≤ 1048576) :
    Calls Try.prog 6 #[.pointer (some ⟨g, 0, none⟩), .agg #[.int .i64 3, .int .i64 N, .string (S T), .bool F, .slice A n cap]] w (LayPost w g (Wt.raw T st)) := by
  have hN := fun W (hW : Wr W g st) => raw_wr T g st W hW (by omega)
  generalize Wt.raw T st = st1 at hN ⊢
  have HN := Lib.hid hN; clear hN
  have hb : Below w.heap.size w (w.alloc (.cells #[.int .i64 3, .int .i64 N, .string (S T), .bool F, .slice A n cap] 31)) := (Below.refl _ _).alloc (Nat.le_refl _) _
  go_enter Try.func6, Try.ntmps6
  go_wp2_with fail
  refine (HN.out _ (h.below hb (Nat.le_refl _))).mono ?_
  rintro r w1 ⟨rfl, h1, ho1⟩
  go_wp2_with fail
  go_returns
  exact ⟨rfl, h1, (Only.of_below hb g).trans ho1⟩

set_option maxHeartbeats 1000000 in
theorem lay_list (K N : Int) (T : List UInt8) (F : Bool) (l : List (List UInt8)) (A : Option Addr) (cap g B : Nat) (st : Wt.St) (w : World) (h : Wr w g st) (hcap : (Wt.flat st).length ≤ 1000000000) (h0 : ¬ K = 0) (h1 : ¬ K = 1) (h2 : ¬ K = 2) (h3 : ¬ K = 3)
    (hsl : SSl w B A l) (hBg : B ≤ g) (hl : (l.map fun s => s.length + 1).sum ≤ 1048576) :
    Calls Try.prog 6 #[.pointer (some ⟨g, 0, none⟩), .agg #[.int .i64 K, .int .i64 N, .string (S T), .bool F, .slice A l.length cap]] w (LayPost w g (Wt.texts l st)) := by
  have e0 : (K == 0) = false := by simpa using h0
  have e1 : (K == 1) = false := by simpa using h1
  have e2 : (K == 2) = false := by simpa using h2
  have e3 : (K == 3) = false := by simpa using h3
  clear h0 h1 h2 h3
  have hN : ∀ W, Wr W g st → Below w.heap.size w W → Calls Try.prog 22 #[.pointer (some ⟨g, 0, none⟩), .slice A l.length cap] W (LayPost W g (Wt.texts l st)) := by
    intro W hW hb
    by_cases hnil : l = []
    · subst hnil
      exact wtexts_nil A cap g st W hW (by omega)
    · obtain ⟨b, off, rfl, hlt, hr⟩ := hsl hnil
      have hs8 := Item.sum8_le l
      have hll := Item.length_le_sum l
      have hle := Item.le_sum l
      exact wtexts_wr l b off cap g st W hW (fun i hi => (hb.cell (p := ⟨b, off + i, none⟩) (World.block_lt_of_cell? w ⟨b, off + i, none⟩ (hr i hi))).trans (hr i hi)) (by omega) (by omega) (by omega) (fun s hs => by have := hle s hs; omega)
  generalize Wt.texts l st = st1 at hN ⊢
  have HN := Lib.hid hN; clear hN hl
  generalize l.length = n at HN ⊢
  clear hsl
  have hb : Below w.heap.size w (w.alloc (.cells #[.int .i64 K, .int .i64 N, .string (S T), .bool F, .slice A n cap] 31)) := (Below.refl _ _).alloc (Nat.le_refl _) _
  go_enter Try.func6, Try.ntmps6
  go_wp2_with fail
  refine (HN.out _ (h.below hb (Nat.le_refl _)) hb).mono ?_
  rintro r w1 ⟨rfl, h1, ho1⟩
  go_wp2_with fail
  go_returns
  exact ⟨rfl, h1, (Only.of_below hb g).trans ho1⟩

theorem Item.bulk_T' (x : Item) (hx : x.bulk ≤ 1048576) : x.T.length ≤ 1048576 := by unfold Item.bulk at hx; omega
theorem Item.bulk_L' (x : Item) (hx : x.bulk ≤ 1048576) : (x.L.map fun s => s.length + 1).sum ≤ 1048576 := by unfold Item.bulk at hx; omega
theorem lay_any (x : Item) (B g : Nat) (v : Value) (st : Wt.St) (w : World) (hv : ItemV w B x v) (h : Wr w g st) (hBg : B ≤ g) (hcap : (Wt.flat st).length ≤ 1000000000) (hx : x.bulk ≤ 1048576) :
    Calls Try.prog 6 #[.pointer (some ⟨g, 0, none⟩), v] w (LayPost w g (x.lay st)) := by
  have hT := x.bulk_T' hx
  have hL := x.bulk_L' hx
  clear hx
  obtain ⟨A, cap, rfl, hs⟩ := hv
  by_cases h0 : x.K = 0
  · have hb : x.lay st = Wt.num x.N st := if_pos h0
    rw [h0, hb]
    exact lay_num _ _ _ _ _ _ g st w h hcap
  · by_cases h1 : x.K = 1
    · have hb : x.lay st = Wt.text x.T st := (if_neg h0).trans (if_pos h1)
      rw [h1, hb]
      exact lay_text _ _ _ _ _ _ g st w h hcap hT
    · by_cases h2 : x.K = 2
      · have hb : x.lay st = Wt.flag x.F st := (if_neg h0).trans ((if_neg h1).trans (if_pos h2))
        rw [h2, hb]
        exact lay_flag _ _ _ _ _ _ g st w h hcap
      · by_cases h3 : x.K = 3
        · have hb : x.lay st = Wt.raw x.T st := (if_neg h0).trans ((if_neg h1).trans ((if_neg h2).trans (if_pos h3)))
          rw [h3, hb]
          exact lay_raw _ _ _ _ _ _ g st w h hcap hT
        · have hb : x.lay st = Wt.texts x.L st := (if_neg h0).trans ((if_neg h1).trans ((if_neg h2).trans (if_neg h3)))
          rw [hb]
          exact lay_list _ _ _ _ _ A cap g B st w h hcap h0 h1 h2 h3 hs hBg hL
end Go.Proofs.Ytclocjfnkaaenaa
