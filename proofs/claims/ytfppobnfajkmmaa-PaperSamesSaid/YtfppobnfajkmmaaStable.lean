/-
  The contracts of the stable sort of slices at fields: up to 39 of them, where the merge is told.
-/
import Derived.Test.YtfppobnfajkmmaaSortPure
namespace Go.Proofs.Ytfppobnfajkmmaa
open Go.RowKit Go.Sort Go.Lib
open Go.Op (bytesLess)
set_option linter.unusedVariables false

/-- What is asked of the merge. -/
def SymOk : Prop := ∀ (A B : List Fld) (blk off cap : Nat) (W : World), A ≠ [] → B ≠ [] → Stab.Sorted Fld.name A → Stab.Sorted Fld.name B → HoldsK Fld.cs 6 W blk off (A ++ B).toArray → blk < W.heap.size → (A ++ B).length < 1000000 →
  Calls Try.prog 56 #[.slice (some ⟨blk, off, none⟩) (A ++ B).length cap, .int .i64 0, .int .i64 (A.length : Int), .int .i64 ((A ++ B).length : Int), .func (.func 20) #[] #[]] W fun e w' =>
    e = .returned (.tuple #[]) ∧ ∃ n os, w' = SW W blk off n (fsort (A ++ B)).toArray os

theorem fsort_len (l : List Fld) : (fsort l).length = l.length := by
  have key : ∀ (l acc : List Fld), (l.foldl (fun acc f => Stab.ins Fld.name f acc) acc).length = acc.length + l.length := by
    intro l
    induction l with
    | nil => intro acc; simp
    | cons f l ih =>
      intro acc
      rw [List.foldl_cons, ih]
      have := Stab.place_le Fld.name f acc
      simp only [Stab.ins, List.length_append, List.length_take, List.length_cons, List.length_drop]
      omega
  have h := key l []
  rw [List.length_nil, Nat.zero_add] at h
  exact h
theorem fsort_nil : fsort [] = [] := rfl
theorem fsort_twice (A B : List Fld) : fsort (fsort A ++ fsort B) = fsort (A ++ B) := by
  refine Stab.sort_unique Fld.name (A ++ B) _ (Stab.sort_spec Fld.name _).1 (fun n => ?_)
  rw [(Stab.sort_spec Fld.name _).2, Stab.of_append, (Stab.sort_spec Fld.name _).2, (Stab.sort_spec Fld.name _).2, ← Stab.of_append]

set_option maxHeartbeats 4000000 in
set_option maxRecDepth 100000 in
theorem stable_any (L : List Fld) (hL : L.length ≤ 20 ∨ (L.length ≤ 39 ∧ SymOk)) (blk off cap : Nat) (w : World) (hH : HoldsK Fld.cs 6 w blk off L.toArray) (hblk : blk < w.heap.size) :
    Calls Try.prog 41 #[.slice (some ⟨blk, off, none⟩) L.length cap, .int .i64 (L.length : Int), .func (.func 20) #[] #[]] w fun e w' =>
      e = .returned (.tuple #[]) ∧ ∃ n os, w' = SW w blk off n (fsort L).toArray os := by
  have HH : Hid (HoldsK Fld.cs 6 w blk off L.toArray) := hH
  clear hH
  by_cases h20 : L.length < 20
  · -- one insertion sort
    have hI := insPart_any [] L [] blk off cap w (by simpa using HH.out) hblk (by simp; omega)
    simp only [List.nil_append, List.append_nil, List.length_nil, Nat.zero_add] at hI
    have hlt : ¬ (20 : Int) ≤ (L.length : Int) := by omega
    have hlt2 : ¬ (20 : Int) < (L.length : Int) := by omega
    have HI := Lib.hid hI; clear hI hL
    generalize hn : L.length = n at HI hlt hlt2 ⊢
    clear h20
    go_enter Try.func41, Try.ntmps41
    go_wp2_with fail
    go_loopg [7, 8] 0 (fun g1 va vb wr => va = .int .i64 0 ∧ vb = .int .i64 20 ∧ wr = w)
    case atStart => exact ⟨rfl, rfl, rfl⟩
    case round =>
      obtain ⟨rfl, rfl, rfl⟩ := hrel
      go_wp2_with fail
      refine (HI.out).mono ?_
      rintro r w1 ⟨rfl, m, os, rfl⟩
      generalize hW : SW wr blk off m (fsort L).toArray os = W1
      have HW := Lib.hid hW; clear hW
      go_wp2_with fail
      go_loopg [6] 0 (fun g1 v6 wr => v6 = .int .i64 20 ∧ wr = W1)
      case atStart => exact ⟨rfl, rfl⟩
      case round =>
        obtain ⟨rfl, rfl⟩ := hrel
        go_wp2_with fail
        go_end0
        exact ⟨rfl, m, os, HW.out.symm⟩
  · obtain ⟨A, B, rfl, hA⟩ : ∃ A B, L = A ++ B ∧ A.length = 20 := ⟨L.take 20, L.drop 20, (List.take_append_drop 20 L).symm, by simp; omega⟩
    have hlen : (A ++ B).length = 20 + B.length := by rw [List.length_append, hA]
    have hB : B.length ≤ 19 := by rcases hL with h | h <;> omega
    have hI1 := insPart_any [] A B blk off cap w (by simpa using HH.out) hblk (by simp; omega)
    simp only [List.nil_append, List.length_nil, Nat.zero_add] at hI1
    have hs1 : ∀ m os, HoldsK Fld.cs 6 (SW w blk off m (fsort A ++ B).toArray os) blk off (fsort A ++ B ++ []).toArray := fun m os => by
      rw [List.append_nil]
      exact SW_holds HH.out hblk m _ os (by simp [fsort_len])
    have hI2 := fun m os => insPart_any (fsort A) B [] blk off cap (SW w blk off m (fsort A ++ B).toArray os) (hs1 m os) (Nat.lt_of_lt_of_le hblk (SW_size _ _ _ _ _ _)) (by simp [fsort_len]; omega)
    have e1 : (fsort A ++ B ++ []).length = (A ++ B).length := by simp [fsort_len]
    have e2 : (fsort A).length + B.length = (A ++ B).length := by simp [fsort_len]
    have e3 : (fsort A).length = 20 := by rw [fsort_len, hA]
    have hI3 : B ≠ [] → ∀ m os, Calls Try.prog 56 #[.slice (some ⟨blk, off, none⟩) (A ++ B).length cap, .int .i64 0, .int .i64 20, .int .i64 ((A ++ B).length : Int), .func (.func 20) #[] #[]] (SW w blk off m (fsort A ++ fsort B).toArray os) fun e w' =>
        e = .returned (.tuple #[]) ∧ ∃ n os', w' = SW (SW w blk off m (fsort A ++ fsort B).toArray os) blk off n (fsort (A ++ B)).toArray os' := fun hne m os => by
      have hS : SymOk := by
        rcases hL with h | h
        · exact absurd (List.length_pos_iff.2 hne) (by omega)
        · exact h.2
      have h := hS (fsort A) (fsort B) blk off cap (SW w blk off m (fsort A ++ fsort B).toArray os) (by intro hc; rw [hc] at e3; cases e3) (by intro hc; apply hne; have := fsort_len B; rw [hc] at this; exact List.eq_nil_of_length_eq_zero this.symm)
        (Stab.sort_spec Fld.name A).1 (Stab.sort_spec Fld.name B).1 (SW_holds HH.out hblk m _ os (by simp [fsort_len])) (Nat.lt_of_lt_of_le hblk (SW_size _ _ _ _ _ _)) (by simp [fsort_len]; omega)
      rw [fsort_twice, e3, show (fsort A ++ fsort B).length = (A ++ B).length by simp [fsort_len]] at h
      exact h
    rw [List.append_nil] at hI2
    simp only [List.append_nil] at e1 hI2
    rw [e1, e2, e3] at hI2
    rw [hA] at hI1
    have HW2 : Hid (∀ m os m' os', SW (SW w blk off m (fsort A ++ B).toArray os) blk off m' (fsort A ++ fsort B).toArray os' = SW w blk off (m + m') (fsort A ++ fsort B).toArray (os ++ os')) := fun m os m' os' => SW_SW w blk off m m' _ _ os os' hblk (by simp [fsort_len])
    have HW3 : Hid (∀ m os m' os', SW (SW w blk off m (fsort A ++ fsort B).toArray os) blk off m' (fsort (A ++ B)).toArray os' = SW w blk off (m + m') (fsort (A ++ B)).toArray (os ++ os')) := fun m os m' os' => SW_SW w blk off m m' _ _ os os' hblk (by simp [fsort_len])
    have HB0 : Hid (B = [] → fsort A ++ fsort B = fsort (A ++ B)) := fun h => by subst h; simp [Stab.sort]
    have HI1 := Lib.hid hI1
    have HI2 := Lib.hid hI2
    have HI3 := Lib.hid hI3
    clear hI1 hI2 hI3 hs1 e1 e2 e3 HH hL h20
    have hBn : B.length = 0 → B = [] := List.eq_nil_of_length_eq_zero
    have HBN := Lib.hid hBn; clear hBn
    have HBN2 : Hid (B.length ≠ 0 → B ≠ []) := fun h hc => h (by rw [hc]; rfl)
    generalize (A ++ B).length = n at *
    generalize fsort A ++ fsort B = LS at *
    generalize fsort (A ++ B) = LF at *
    generalize fsort A ++ B = LM at *
    have h40 : ¬ (40 : Int) ≤ (n : Int) := by omega
    have h20 : (20 : Int) ≤ (n : Int) := by omega
    have h40' : ¬ (40 : Int) < (n : Int) := by omega
    have HLEN := Lib.hid hlen; clear hlen hA
    go_enter Try.func41, Try.ntmps41
    go_wp2_with fail
    go_loopg [7, 8] 1 (fun g1 va vb wr => (g1 = 1 ∧ va = .int .i64 0 ∧ vb = .int .i64 20 ∧ wr = w) ∨ (va = .int .i64 20 ∧ vb = .int .i64 40 ∧ ∃ m os, wr = SW w blk off m LM.toArray os))
    case atStart => exact Or.inl ⟨rfl, rfl, rfl, rfl⟩
    case round =>
      rcases hrel with ⟨rfl, rfl, rfl, rfl⟩ | ⟨rfl, rfl, m, os, rfl⟩
      · go_wp2_with fail
        refine (HI1.out).mono ?_
        rintro r w1 ⟨rfl, m, os, rfl⟩
        generalize hW : SW wr blk off m LM.toArray os = W1
        have HW := Lib.hid hW; clear hW
        go_wp2_with fail
        go_roundg 0
        case measure => omega
        case rel => exact Or.inr ⟨rfl, rfl, m, os, HW.out.symm⟩
      · have hi2 := HI2.out m os
        have HI := Lib.hid hi2; clear hi2
        generalize hW : SW w blk off m LM.toArray os = W0 at HI
        have HW := Lib.hid hW; clear hW
        go_wp2_with fail
        refine (HI.out).mono ?_
        rintro r w1 ⟨rfl, m1, os1, rfl⟩
        have hw2 := HW2.out m os m1 os1
        rw [HW.out] at hw2
        rw [hw2]
        clear hw2 HI HW HI1 HI2 HW2
        by_cases hz : B.length = 0
        · have hb0 := HBN.out hz
          have hn : ¬ (20 : Int) < (n : Int) := by have := HLEN.out; omega
          have HEQ := Lib.hid (HB0.out hb0)
          clear HI3 HB0 HBN HBN2 hb0 hz
          generalize hW : SW w blk off (m + m1) LS.toArray (os ++ os1) = W1
          have HW := Lib.hid hW; clear hW
          go_wp2_with fail
          go_loopg [6] 0 (fun g1 v6 wr => v6 = .int .i64 20 ∧ wr = W1)
          case atStart => exact ⟨rfl, rfl⟩
          case round =>
            obtain ⟨rfl, rfl⟩ := hrel
            go_wp2_with fail
            go_end0
            exact ⟨rfl, m + m1, os ++ os1, by rw [← HW.out, HEQ.out]⟩
        · have hn : (20 : Int) < (n : Int) := by have := HLEN.out; omega
          have hi3 := HI3.out (HBN2.out hz) (m + m1) (os ++ os1)
          have HI := Lib.hid hi3; clear hi3 HI3 HB0 HBN HBN2 hz
          generalize hW : SW w blk off (m + m1) LS.toArray (os ++ os1) = W1 at HI ⊢
          have HW := Lib.hid hW; clear hW
          go_wp2_with fail
          go_loopg [6] 1 (fun g1 v6 wr => (g1 = 1 ∧ v6 = .int .i64 20 ∧ wr = W1) ∨ (v6 = .int .i64 40 ∧ ∃ m os, wr = SW w blk off m LF.toArray os))
          case atStart => exact Or.inl ⟨rfl, rfl, rfl⟩
          case round =>
            rcases hrel with ⟨rfl, rfl, rfl⟩ | ⟨rfl, m3, os3, rfl⟩
            · go_wp2_with fail
              go_loopg [7, 8] 0 (fun g1 va vb wr' => va = .int .i64 0 ∧ vb = .int .i64 40 ∧ wr' = wr)
              case atStart => exact ⟨rfl, rfl, rfl⟩
              case round =>
                obtain ⟨rfl, rfl, rfl⟩ := hrel
                go_wp2_with fail
                refine (HI.out).mono ?_
                rintro r w5 ⟨rfl, m2, os2, rfl⟩
                have hw3 := HW3.out (m + m1) (os ++ os1) m2 os2
                rw [HW.out] at hw3
                rw [hw3]
                clear hw3
                generalize hW5 : SW w blk off (m + m1 + m2) LF.toArray (os ++ os1 ++ os2) = W5
                have HW5 := Lib.hid hW5; clear hW5
                go_wp2_with fail
                go_roundg 0
                case measure => omega
                case rel => exact Or.inr ⟨rfl, _, _, HW5.out.symm⟩
            · generalize hW5 : SW w blk off m3 LF.toArray os3 = W5
              have HW5 := Lib.hid hW5; clear hW5
              go_wp2_with fail
              go_end0
              exact ⟨rfl, _, _, HW5.out.symm⟩

theorem sortStable_any (L : List Fld) (hL : L.length ≤ 20 ∨ (L.length ≤ 39 ∧ SymOk)) (blk off cap : Nat) (w : World) (hH : HoldsK Fld.cs 6 w blk off L.toArray) (hblk : blk < w.heap.size) :
    Calls Try.prog 19 #[.slice (some ⟨blk, off, none⟩) L.length cap, .func (.func 20) #[] #[]] w fun e w' =>
      e = .returned (.tuple #[]) ∧ ∃ n os, w' = SW w blk off n (fsort L).toArray os := by
  have hS := stable_any L hL blk off cap w hH hblk
  have HS := Lib.hid hS; clear hS hH
  go_enter Try.func19, Try.ntmps19
  go_wp2_with fail
  refine (HS.out).mono ?_
  rintro r w1 ⟨rfl, m, os, rfl⟩
  generalize hW : SW w blk off m (fsort L).toArray os = W1
  have HW := Lib.hid hW; clear hW
  go_wp2_with fail
  go_end0
  exact ⟨rfl, m, os, HW.out.symm⟩
end Go.Proofs.Ytfppobnfajkmmaa
