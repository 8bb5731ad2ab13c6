/-
  The contract of the program's Climb.
-/
import Derived.Test.YtphhaiccpllnpaaDoorMkClimb
namespace Go.Proofs.YtphhaiccpllnpaaDoor
open Go.RowKit
set_option linter.unusedVariables false

theorem one_row (w : World) (x : List UInt8) : TRow (w.alloc (.cells #[.string (S x)] 9)) w.heap.size 0 [x] := fun i hi => by
  have h0 : i = 0 := by simp at hi; omega
  subst h0
  rw [World.cell?_alloc_at _ _ _ _ rfl]; rfl
theorem one_rowS (w : World) (x : List UInt8) (s : List Nat) (h : ∀ y ∈ s, y < w.heap.size) : RowS (w.alloc (.cells #[.string (S x)] 9)) s (some ⟨w.heap.size, 0, none⟩) [x] :=
  RowS.of (by simp) (fun hx => Nat.lt_irrefl _ (h _ hx)) (one_row w x)
theorem belowA (w : World) (o : Obj) : Below w.heap.size w (w.alloc o) := (Below.refl _ w).alloc (Nat.le_refl _) o

section
variable (g nb : Nat) (tv : Option Nat) (l : List Mill.En)

set_option maxHeartbeats 2000000 in
theorem mClimb_size (i n : Int) (leaf : List UInt8) (A : Option Addr) (k cap : Nat) (w : World) (hb : ¬ (1 ≤ n ∧ n ≤ 65536 ∧ 0 ≤ i ∧ i < n)) :
    Calls Tryd.prog 22 #[.pointer (some ⟨g, 0, none⟩), .string (S leaf), .int .i64 i, .int .i64 n, .slice A k cap] w fun e w' => e = .returned (.tuple #[.string ⟨#[]⟩, .int .i64 21]) ∧ w' = w := by
  by_cases h1 : n < 1
  · go_enter Tryd.func22, Tryd.ntmps22
    go_wp2_with fail
    go_ret2
    exact ⟨rfl, rfl⟩
  · by_cases h2 : n > 65536
    · go_enter Tryd.func22, Tryd.ntmps22
      go_wp2_with fail
      go_ret2
      exact ⟨rfl, rfl⟩
    · by_cases h3 : i < 0
      · go_enter Tryd.func22, Tryd.ntmps22
        go_wp2_with fail
        go_ret2
        exact ⟨rfl, rfl⟩
      · have h4 : i ≥ n := by omega
        go_enter Tryd.func22, Tryd.ntmps22
        go_wp2_with fail
        go_ret2
        exact ⟨rfl, rfl⟩

set_option maxRecDepth 100000 in
set_option maxHeartbeats 4000000 in
theorem mClimb_proof (i n : Nat) (leaf : List UInt8) (p : List (List UInt8)) (A : Option Addr) (cap : Nat) (w : World) (hn : 1 ≤ n) (hn6 : n ≤ 65536) (hi : i < n) (hcap : p.length ≤ cap) (hcm : cap ≤ 9223372036854775807)
    (hrow : RowS w [] A p) (hbad : ¬ (p.length = Mk.depth i n ∧ leaf.length = 32 ∧ Mk.allSums p = true)) :
    Calls Tryd.prog 22 #[.pointer (some ⟨g, 0, none⟩), .string (S leaf), .int .i64 (i : Int), .int .i64 (n : Int), .slice A p.length cap] w fun e w' => e = .returned (.tuple #[.string ⟨#[]⟩, .int .i64 20]) ∧ Below w.heap.size w w' := by
  have hP := fun W => pathLen_any n i W hn hn6 hi
  have HP := Lib.hid hP; clear hP
  have hd := Mk.depth_le 16 n i hn6 hi
  have hA1 := fun W => areHashes_any (some ⟨W.heap.size, 0, none⟩) 1 [leaf] [] (W.alloc (.cells #[.string (S leaf)] 9)) (one_rowS W leaf [] (by simp)) (by simp) (by decide)
  have hA2 := fun W (hW : Below w.heap.size w W) => areHashes_any A cap p [] W (hrow.below hW) hcap hcm
  have hone : Mk.allSums [leaf] = (leaf.length == 32) := by simp [Mk.allSums]
  rw [hone] at hA1
  have HA1 := Lib.hid hA1; clear hA1
  generalize Mk.depth i n = d at *
  obtain ⟨bp, hbp⟩ : ∃ b, Mk.allSums p = b := ⟨_, rfl⟩
  rw [hbp] at hA2 hbad
  have HA2 := Lib.hid hA2; clear hA2
  obtain ⟨bl, hbl⟩ : ∃ b, (leaf.length == 32) = b := ⟨_, rfl⟩
  rw [hbl] at HA1
  have hleaf : leaf.length = 32 ↔ bl = true := by rw [← hbl]; simp
  rw [hleaf] at hbad
  clear hrow hbp hone hleaf hbl
  generalize p.length = m at *
  have c1 : ¬ (n : Int) < 1 := by omega
  have c2 : ¬ (n : Int) > 65536 := by omega
  have c3 : ¬ (i : Int) < 0 := by omega
  have c4 : ¬ (i : Int) ≥ (n : Int) := by omega
  by_cases h1 : m = d
  · subst h1
    have hmm : ((m : Int) != (m : Int)) = false := by simp
    cases bl with
    | false =>
      go_enter Tryd.func22, Tryd.ntmps22
      go_wp2_with fail
      refine (HP.out _).mono ?_
      rintro e w0 ⟨rfl, rfl⟩
      go_wp2_with fail
      refine (HA1.out _).mono ?_
      rintro e w1 ⟨rfl, rfl⟩
      go_wp2_with fail
      go_ret2
      exact ⟨rfl, belowA _ _⟩
    | true =>
      cases bp with
      | true => exact absurd ⟨rfl, rfl, rfl⟩ hbad
      | false =>
        go_enter Tryd.func22, Tryd.ntmps22
        go_wp2_with fail
        refine (HP.out _).mono ?_
        rintro e w0 ⟨rfl, rfl⟩
        go_wp2_with fail
        refine (HA1.out _).mono ?_
        rintro e w1 ⟨rfl, rfl⟩
        go_wp2_with fail
        refine (HA2.out _ (belowA _ _)).mono ?_
        rintro e w1 ⟨rfl, rfl⟩
        go_wp2_with fail
        go_ret2
        exact ⟨rfl, belowA _ _⟩
  · have hmm : ((m : Int) != (d : Int)) = true := by simpa using (show ¬ (m : Int) = (d : Int) by omega)
    go_enter Tryd.func22, Tryd.ntmps22
    go_wp2_with fail
    refine (HP.out _).mono ?_
    rintro e w0 ⟨rfl, rfl⟩
    go_wp2_with fail
    go_ret2
    exact ⟨rfl, Below.refl _ _⟩

set_option maxRecDepth 100000 in
set_option maxHeartbeats 4000000 in
theorem mClimb_ok (hr : Mill.right l = true) (i n : Nat) (leaf : List UInt8) (p : List (List UInt8)) (A : Option Addr) (cap : Nat) (st : Mill.St) (w : World) (hn : 1 ≤ n) (hn6 : n ≤ 65536) (hi : i < n) (hcap : p.length ≤ cap) (hcm : cap ≤ 9223372036854775807)
    (hrow : RowS w [g, nb] A p) (hp : p.length = Mk.depth i n) (hleaf : leaf.length = 32) (hs : Mk.allSums p = true) (hsum : st.sums + p.length ≤ 4000000000000000000) (hm : MkW w g nb tv l st) :
    Calls Tryd.prog 22 #[.pointer (some ⟨g, 0, none⟩), .string (S leaf), .int .i64 (i : Int), .int .i64 (n : Int), .slice A p.length cap] w (MkPost w g nb tv l st (Mk.climbAsks l leaf i n p) (.tuple #[.string (S (Mk.climb l leaf i n p)), .int .i64 0])) := by
  have hP := fun W => pathLen_any n i W hn hn6 hi
  rw [← hp] at hP
  have HP := Lib.hid hP; clear hP
  have hd := Mk.depth_le 16 n i hn6 hi
  rw [← hp] at hd
  have hA1 := fun W => areHashes_any (some ⟨W.heap.size, 0, none⟩) 1 [leaf] [] (W.alloc (.cells #[.string (S leaf)] 9)) (one_rowS W leaf [] (by simp)) (by simp) (by decide)
  have hA2 := fun W (hW : Below w.heap.size w W) => areHashes_any A cap p [g, nb] W (hrow.below hW) hcap hcm
  have hone : Mk.allSums [leaf] = true := by simp [Mk.allSums, hleaf]
  rw [hone] at hA1
  rw [hs] at hA2
  have HA1 := Lib.hid hA1; clear hA1
  have HA2 := Lib.hid hA2; clear hA2
  have hsm := (Mk.allSums_iff p).1 hs
  have hC := fun W (hW : Below w.heap.size w W) => climb_any g nb tv l hr n leaf i p A cap st W hn hn6 hi hp hcap hcm (hrow.below hW) (by omega) (fun s h => by rw [hsm s h]; decide) hsum (hm.below hW)
  unfold MkPost at hC ⊢
  have HC := Lib.hid hC; clear hC
  generalize Mk.climb l leaf i n p = y at *
  generalize Mill.steps l (Mk.climbAsks l leaf i n p) st = st' at *
  clear hrow hm hs hsm hsum hone hleaf hp
  generalize p.length = m at *
  have c1 : ¬ (n : Int) < 1 := by omega
  have c2 : ¬ (n : Int) > 65536 := by omega
  have c3 : ¬ (i : Int) < 0 := by omega
  have c4 : ¬ (i : Int) ≥ (n : Int) := by omega
  have hmm : ((m : Int) != (m : Int)) = false := by simp
  go_enter Tryd.func22, Tryd.ntmps22
  go_wp2_with fail
  refine (HP.out _).mono ?_
  rintro e w0 ⟨rfl, rfl⟩
  go_wp2_with fail
  refine (HA1.out _).mono ?_
  rintro e w1 ⟨rfl, rfl⟩
  go_wp2_with fail
  refine (HA2.out _ (belowA _ _)).mono ?_
  rintro e w1 ⟨rfl, rfl⟩
  go_wp2_with fail
  refine (HC.out _ (belowA _ _)).mono ?_
  rintro e w2 ⟨rfl, hm2, hv2⟩
  go_wp2_with fail
  go_ret2
  exact ⟨rfl, hm2, (Mv.of_below (belowA _ _) _).trans hv2⟩
end
end Go.Proofs.YtphhaiccpllnpaaDoor
