/-
  SymOne: the texts SymPure, SymB, Range, Rotate in one.
-/
import Derived.Test.YtfppobnfajkmmaaStable
namespace Go.Proofs.Ytfppobnfajkmmaa
open Go.Sort
open Go.Op (bytesLess)
set_option linter.unusedVariables false

theorem swp_far (U V W : List Fld) (p q : Fld) : swp (U ++ p :: (V ++ q :: W)).toArray U.length (U.length + 1 + V.length) = (U ++ q :: (V ++ p :: W)).toArray := by
  apply Array.ext'
  unfold swp
  have h1 : (U ++ p :: (V ++ q :: W)).toArray[U.length]! = p := by simp
  have h2 : (U ++ p :: (V ++ q :: W)).toArray[U.length + 1 + V.length]! = q := by
    rw [getElem!_pos _ _ (by simp; omega)]
    simp only [List.getElem_toArray]
    rw [List.getElem_append_right (by omega)]
    have e : U.length + 1 + V.length - U.length = V.length + 1 := by omega
    simp only [e, List.getElem_cons_succ]
    rw [List.getElem_append_right (by omega)]
    simp
  rw [h1, h2]
  simp only [List.setIfInBounds_toArray]
  rw [List.set_append_right _ _ (by omega), Nat.sub_self, List.set_cons_zero, List.set_append_right _ _ (by omega), show U.length + 1 + V.length - U.length = V.length + 1 by omega, List.set_cons_succ, List.set_append_right _ _ (by omega), Nat.sub_self, List.set_cons_zero]

/-- So many of both ranges have been exchanged. -/
def rngL (X P Y Q Z : List Fld) (k : Nat) : List Fld := X ++ (Q.take k ++ (P.drop k ++ (Y ++ (P.take k ++ (Q.drop k ++ Z)))))
theorem rngL_zero (X P Y Q Z : List Fld) : rngL X P Y Q Z 0 = X ++ (P ++ (Y ++ (Q ++ Z))) := by simp [rngL]
theorem rngL_all (X P Y Q Z : List Fld) (h : P.length = Q.length) : rngL X P Y Q Z P.length = X ++ (Q ++ (Y ++ (P ++ Z))) := by
  unfold rngL
  rw [List.take_length, List.drop_length, h, List.take_length, List.drop_length]
  rfl
theorem rngL_len (X P Y Q Z : List Fld) (h : P.length = Q.length) (k : Nat) (hk : k ≤ P.length) : (rngL X P Y Q Z k).length = X.length + P.length + Y.length + Q.length + Z.length := by
  unfold rngL
  simp only [List.length_append, List.length_take, List.length_drop]
  omega
theorem rngL_step (X P Y Q Z : List Fld) (h : P.length = Q.length) (k : Nat) (hk : k < P.length) :
    swp (rngL X P Y Q Z k).toArray (X.length + k) (X.length + P.length + Y.length + k) = (rngL X P Y Q Z (k + 1)).toArray := by
  have hk2 : k < Q.length := by omega
  have e1 : rngL X P Y Q Z k = (X ++ Q.take k) ++ P[k] :: ((P.drop (k + 1) ++ (Y ++ P.take k)) ++ Q[k] :: (Q.drop (k + 1) ++ Z)) := by
    unfold rngL
    rw [List.drop_eq_getElem_cons hk, List.drop_eq_getElem_cons hk2]
    simp only [List.append_assoc, List.cons_append]
  have e2 : rngL X P Y Q Z (k + 1) = (X ++ Q.take k) ++ Q[k] :: ((P.drop (k + 1) ++ (Y ++ P.take k)) ++ P[k] :: (Q.drop (k + 1) ++ Z)) := by
    unfold rngL
    rw [List.take_succ_eq_append_getElem hk2, List.take_succ_eq_append_getElem hk]
    simp only [List.append_assoc, List.cons_append, List.nil_append]
  have i1 : X.length + k = (X ++ Q.take k).length := by rw [List.length_append, List.length_take]; omega
  have i2 : X.length + P.length + Y.length + k = (X ++ Q.take k).length + 1 + (P.drop (k + 1) ++ (Y ++ P.take k)).length := by simp only [List.length_append, List.length_take, List.length_drop]; omega
  rw [i1, i2, e1, e2]
  exact swp_far _ _ _ _ _
end Go.Proofs.Ytfppobnfajkmmaa

namespace Go.Proofs.Ytfppobnfajkmmaa
open Go.Sort
open Go.Op (bytesLess)
set_option linter.unusedVariables false

theorem fsort_sorted {l : List Fld} (h : Stab.Sorted Fld.name l) : fsort l = l := (Stab.sort_unique Fld.name l l h (fun _ => rfl)).symm
theorem sorted_at {l : List Fld} (h : Stab.Sorted Fld.name l) (i j : Nat) (hij : i ≤ j) (hj : j < l.length) : nlt l[j]! l[i]! = false := by
  have hi : i < l.length := by omega
  rw [getElem!_pos l i hi, getElem!_pos l j hj, nlt_eq]
  rcases Nat.lt_or_ge i j with hlt | hge
  · unfold Stab.Sorted at h
    rw [List.pairwise_iff_getElem] at h
    exact h i j hi hj hlt
  · obtain rfl : i = j := by omega
    exact bl_irrefl _
theorem nlt_le_trans {x y z : Fld} (h1 : nlt y x = false) (h2 : nlt z y = false) : nlt z x = false := nlt_swo.ntrans z y x h2 h1
theorem nlt_lt_le {x y z : Fld} (h1 : nlt x y = true) (h2 : nlt z y = false) : nlt x z = true := by
  cases h : nlt x z
  · have := nlt_le_trans h2 h
    rw [h1] at this
    cases this
  · rfl
theorem nlt_le_lt {x y z : Fld} (h1 : nlt y x = false) (h2 : nlt y z = true) : nlt x z = true := by
  cases h : nlt x z
  · have := nlt_le_trans h h1
    rw [h2] at this
    cases this
  · rfl
theorem nlt_anti {x y : Fld} (h : nlt x y = true) : nlt y x = false := by
  rw [nlt_eq] at *
  exact bl_asymm _ _ h

theorem mem_fsort' {x : Fld} {l : List Fld} : x ∈ fsort l ↔ x ∈ l := by
  have h := (Stab.sort_spec Fld.name l).2 x.name
  have key : ∀ m : List Fld, x ∈ m ↔ x ∈ Stab.of Fld.name x.name m := fun m => by
    unfold Stab.of
    rw [List.mem_filter]
    simp
  rw [key (fsort l), key l]
  show x ∈ Stab.of Fld.name x.name (Stab.sort Fld.name l) ↔ _
  rw [h]
/-- Both halves sorted are the whole sorted. -/
theorem merge_halves {A B : List Fld} (hA : Stab.Sorted Fld.name A) (hB : Stab.Sorted Fld.name B) (s t : Nat) (hs : s ≤ A.length) (ht : t ≤ B.length)
    (h1 : 0 < s → t < B.length → nlt B[t]! A[s - 1]! = false) (h2 : 0 < t → s < A.length → nlt B[t - 1]! A[s]! = true) :
    fsort (A.take s ++ B.take t) ++ fsort (A.drop s ++ B.drop t) = fsort (A ++ B) := by
  have hat : ∀ x ∈ A.take s, ∃ i, i < s ∧ i < A.length ∧ x = A[i]! := fun x hx => by
    obtain ⟨i, hi, rfl⟩ := List.getElem_of_mem hx
    rw [List.length_take] at hi
    exact ⟨i, by omega, by omega, by rw [List.getElem_take, getElem!_pos A i (by omega)]⟩
  have had : ∀ x ∈ A.drop s, ∃ i, s ≤ i ∧ i < A.length ∧ x = A[i]! := fun x hx => by
    obtain ⟨i, hi, rfl⟩ := List.getElem_of_mem hx
    rw [List.length_drop] at hi
    exact ⟨s + i, by omega, by omega, by rw [List.getElem_drop, getElem!_pos A (s + i) (by omega)]⟩
  have hbt : ∀ x ∈ B.take t, ∃ i, i < t ∧ i < B.length ∧ x = B[i]! := fun x hx => by
    obtain ⟨i, hi, rfl⟩ := List.getElem_of_mem hx
    rw [List.length_take] at hi
    exact ⟨i, by omega, by omega, by rw [List.getElem_take, getElem!_pos B i (by omega)]⟩
  have hbd : ∀ x ∈ B.drop t, ∃ i, t ≤ i ∧ i < B.length ∧ x = B[i]! := fun x hx => by
    obtain ⟨i, hi, rfl⟩ := List.getElem_of_mem hx
    rw [List.length_drop] at hi
    exact ⟨t + i, by omega, by omega, by rw [List.getElem_drop, getElem!_pos B (t + i) (by omega)]⟩
  have hba : ∀ x ∈ B.take t, ∀ y ∈ A.drop s, nlt x y = true := fun x hx y hy => by
    obtain ⟨i, i1, i2, rfl⟩ := hbt x hx
    obtain ⟨j, j1, j2, rfl⟩ := had y hy
    have e1 := sorted_at hB i (t - 1) (by omega) (by omega)
    have e2 := sorted_at hA s j j1 j2
    exact nlt_lt_le (nlt_le_lt e1 (h2 (by omega) (by omega))) e2
  have hab : ∀ x ∈ A.take s, ∀ y ∈ B.drop t, nlt y x = false := fun x hx y hy => by
    obtain ⟨i, i1, i2, rfl⟩ := hat x hx
    obtain ⟨j, j1, j2, rfl⟩ := hbd y hy
    have e1 := sorted_at hA i (s - 1) (by omega) (by omega)
    have e2 := sorted_at hB t j j1 j2
    exact nlt_le_trans (nlt_le_trans e1 (h1 (by omega) (by omega))) e2
  have haa : ∀ x ∈ A.take s, ∀ y ∈ A.drop s, nlt y x = false := fun x hx y hy => by
    obtain ⟨i, i1, i2, rfl⟩ := hat x hx
    obtain ⟨j, j1, j2, rfl⟩ := had y hy
    exact sorted_at hA i j (by omega) j2
  have hbb : ∀ x ∈ B.take t, ∀ y ∈ B.drop t, nlt y x = false := fun x hx y hy => by
    obtain ⟨i, i1, i2, rfl⟩ := hbt x hx
    obtain ⟨j, j1, j2, rfl⟩ := hbd y hy
    exact sorted_at hB i j (by omega) j2
  refine Stab.sort_unique Fld.name (A ++ B) _ ?_ (fun n => ?_)
  · unfold Stab.Sorted
    rw [List.pairwise_append]
    refine ⟨(Stab.sort_spec Fld.name _).1, (Stab.sort_spec Fld.name _).1, fun x hx y hy => ?_⟩
    rw [mem_fsort', List.mem_append] at hx hy
    rw [← nlt_eq]
    rcases hx with hx | hx <;> rcases hy with hy | hy
    · exact haa x hx y hy
    · exact hab x hx y hy
    · exact nlt_anti (hba x hx y hy)
    · exact hbb x hx y hy
  · rw [Stab.of_append, (Stab.sort_spec Fld.name _).2, (Stab.sort_spec Fld.name _).2, Stab.of_append, Stab.of_append, Stab.of_append]
    conv => rhs; rw [← List.take_append_drop s A, ← List.take_append_drop t B, Stab.of_append, Stab.of_append]
    have : Stab.of Fld.name n (B.take t) = [] ∨ Stab.of Fld.name n (A.drop s) = [] := by
      by_cases h : Stab.of Fld.name n (B.take t) = []
      · exact Or.inl h
      · refine Or.inr (List.eq_nil_iff_forall_not_mem.2 fun y hy => h (List.eq_nil_iff_forall_not_mem.2 fun x hx => ?_))
        unfold Stab.of at hx hy
        rw [List.mem_filter] at hx hy
        have e := hba x hx.1 y hy.1
        have n1 : x.name = n := by simpa using hx.2
        have n2 : y.name = n := by simpa using hy.2
        exact nlt_ne e (n2.trans n1.symm)
    rcases this with h | h
    · rw [h]; simp
    · rw [h]; simp
theorem sorted_sub {l : List Fld} (h : Stab.Sorted Fld.name l) (s : Nat) : Stab.Sorted Fld.name (l.take s) ∧ Stab.Sorted Fld.name (l.drop s) :=
  ⟨List.Pairwise.sublist (List.take_sublist s l) h, List.Pairwise.sublist (List.drop_sublist s l) h⟩
/-- One from the left. -/
theorem merge_left {x : Fld} {B : List Fld} (hB : Stab.Sorted Fld.name B) (t : Nat) (ht : t ≤ B.length) (h1 : t = 0 ∨ nlt B[t - 1]! x = true) (h2 : t = B.length ∨ nlt B[t]! x = false) : fsort (x :: B) = B.take t ++ (x :: B.drop t) := by
  have hx : Stab.Sorted Fld.name [x] := List.pairwise_singleton _ _
  have h := merge_halves hx hB 0 t (Nat.zero_le _) ht (fun h => by omega) (fun h _ => by
    rcases h1 with h1 | h1
    · omega
    · exact h1)
  rw [List.take_zero, List.nil_append, List.drop_zero, fsort_sorted (sorted_sub hB t).1] at h
  have hs : Stab.Sorted Fld.name ([x] ++ B.drop t) := by
    unfold Stab.Sorted
    rw [List.pairwise_append]
    refine ⟨hx, (sorted_sub hB t).2, fun a ha b hb => ?_⟩
    rw [List.mem_singleton] at ha
    subst ha
    obtain ⟨i, hi, rfl⟩ := List.getElem_of_mem hb
    rw [List.length_drop] at hi
    rw [List.getElem_drop, ← nlt_eq, ← getElem!_pos B (t + i) (by omega)]
    rcases h2 with h2 | h2
    · omega
    · exact nlt_le_trans h2 (sorted_at hB t (t + i) (by omega) (by omega))
  rw [fsort_sorted hs] at h
  exact h.symm
/-- One from the right. -/
theorem merge_right {y : Fld} {A : List Fld} (hA : Stab.Sorted Fld.name A) (s : Nat) (hs : s ≤ A.length) (h1 : s = 0 ∨ nlt y A[s - 1]! = false) (h2 : s = A.length ∨ nlt y A[s]! = true) : fsort (A ++ [y]) = A.take s ++ (y :: A.drop s) := by
  have hy : Stab.Sorted Fld.name [y] := List.pairwise_singleton _ _
  have h := merge_halves hA hy s 1 hs (Nat.le_refl _) (fun _ h => by simp at h) (fun _ h => by
    rcases h2 with h2 | h2
    · omega
    · exact h2)
  rw [show ([y] : List Fld).take 1 = [y] from rfl, show ([y] : List Fld).drop 1 = [] from rfl, List.append_nil, fsort_sorted (sorted_sub hA s).2] at h
  have hs' : Stab.Sorted Fld.name (A.take s ++ [y]) := by
    unfold Stab.Sorted
    rw [List.pairwise_append]
    refine ⟨(sorted_sub hA s).1, hy, fun a ha b hb => ?_⟩
    rw [List.mem_singleton] at hb
    subst hb
    obtain ⟨i, hi, rfl⟩ := List.getElem_of_mem ha
    rw [List.length_take] at hi
    rw [List.getElem_take, ← nlt_eq, ← getElem!_pos A i (by omega)]
    rcases h1 with h1 | h1
    · omega
    · exact nlt_le_trans (sorted_at hA i (s - 1) (by omega) (by omega)) h1
  rw [fsort_sorted hs', List.append_assoc, List.singleton_append] at h
  exact h.symm
end Go.Proofs.Ytfppobnfajkmmaa

namespace Go.Proofs.Ytfppobnfajkmmaa
open Go.RowKit Go.Sort Go.Lib
set_option linter.unusedVariables false

set_option maxHeartbeats 4000000 in
set_option maxRecDepth 100000 in
theorem range_any (X P Y Q Z : List Fld) (hPQ : P.length = Q.length) (blk off cap a b : Nat) (w : World) (d : Array Fld) (hd : d = (X ++ (P ++ (Y ++ (Q ++ Z)))).toArray) (hH : HoldsK Fld.cs 6 w blk off d) (hblk : blk < w.heap.size) (hsz : d.size < 1000000)
    (ha : a = X.length) (hb : b = X.length + P.length + Y.length) :
    Calls Try.prog 62 #[.slice (some ⟨blk, off, none⟩) d.size cap, .int .i64 (a : Int), .int .i64 (b : Int), .int .i64 (P.length : Int), .func (.func 20) #[] #[]] w fun e w' =>
      e = .returned (.tuple #[]) ∧ ∃ m os, w' = SW w blk off m (X ++ (Q ++ (Y ++ (P ++ Z)))).toArray os := by
  have mixed : Try.prog.follows .mixedOrders = true := by kernel_rfl
  have HST : Hid (w = SW w blk off 0 d #[]) := by
    show w = _
    unfold SW sortWorldK
    rw [grow_empty]
    exact (putRowK_self Fld.cs 6 w blk off d hH).symm
  have hL := rngL_len X P Y Q Z hPQ
  have h0 := rngL_zero X P Y Q Z
  have hA := rngL_all X P Y Q Z hPQ
  have hS := rngL_step X P Y Q Z hPQ
  rw [← h0] at hd
  rw [← hA]
  clear h0 hA
  have hds : d.size = X.length + P.length + Y.length + Q.length + Z.length := by rw [hd]; exact hL 0 (Nat.zero_le _)
  have hR : ∀ k, k ≤ P.length → (rngL X P Y Q Z k).toArray.size = d.size := fun k hk => by rw [hds]; exact hL k hk
  have hS' : ∀ k, k < P.length → swp (rngL X P Y Q Z k).toArray (a + k) (b + k) = (rngL X P Y Q Z (k + 1)).toArray := fun k hk => by rw [ha, hb]; exact hS k hk
  have hbd : a + P.length ≤ d.size ∧ b + P.length ≤ d.size := by omega
  generalize hrl : rngL X P Y Q Z = rl at hd hR hS' ⊢
  clear hrl hL hS ha hb
  generalize P.length = n at hR hS' hbd ⊢
  have HH : Hid (HoldsK Fld.cs 6 w blk off d) := hH
  have HR := Lib.hid hR
  have HS := Lib.hid hS'
  have HD := Lib.hid hd
  clear hH hR hS' hd hds hPQ
  generalize hds : d.size = ds at hbd hsz HR ⊢
  have HDS := Lib.hid hds; clear hds
  go_enter Try.func62, Try.ntmps62
  go_wp2_with fail
  go_loopg [10] n (fun g1 vi wr => ∃ (k m : Nat) (os : Array Obj), vi = .int .i64 (k : Int) ∧ k ≤ n ∧ n - k ≤ g1 ∧ wr = SW w blk off m (rl k).toArray os)
  case atStart => exact ⟨0, 0, #[], rfl, Nat.zero_le _, by omega, by rw [← HD.out]; exact HST.out⟩
  case round =>
    obtain ⟨k, m, os, rfl, hk, hg1, rfl⟩ := hrel
    by_cases hlt : k < n
    · have hltz : (k : Int) < (n : Int) := by omega
      have wa : IntKind.i64.wrap ((a : Int) + (k : Int)) = (a : Int) + (k : Int) := by rw [IntKind.wrap_i64]; omega
      have wb : IntKind.i64.wrap ((b : Int) + (k : Int)) = (b : Int) + (k : Int) := by rw [IntKind.wrap_i64]; omega
      have ea : ((a : Int) + (k : Int)).toNat = a + k := by omega
      have eb : ((b : Int) + (k : Int)).toNat = b + k := by omega
      have za : (a : Int) + (k : Int) < (ds : Int) := by omega
      have zb : (b : Int) + (k : Int) < (ds : Int) := by omega
      have pa : (0 : Int) ≤ (a : Int) + (k : Int) := by omega
      have pb : (0 : Int) ≤ (b : Int) + (k : Int) := by omega
      obtain ⟨hsa, hsw⟩ := swap_facts HH.out hblk m (rl k).toArray os (by rw [HR.out k hk, HDS.out]) (a + k) (b + k) (by rw [HDS.out]; omega) (by rw [HDS.out]; omega)
      rw [HS.out k hlt] at hsw
      generalize (rl k).toArray[b + k]!.cs = cq at hsa hsw
      generalize (rl k).toArray[a + k]!.cs = cp at hsa hsw
      have HSW : Hid _ := hsa
      have HW2 : Hid _ := hsw
      clear hsa hsw
      generalize SW w blk off m (rl k).toArray os = wq2 at HSW HW2 ⊢
      go_upto_region 3 with (fail)
      refine wp_region_any (by assumption) ?_
      change wpAny _ _ _ _ _ _ _ (World.drew _)
      (refine grab (i := 0) (v := ?_) rfl rfl (by kernel_rfl) (by kernel_rfl) (by kernel_rfl) (fun _ _ _ h => h) (by rfl) ?_ ?_; rotate_left; (focus (intro w; go_simp; first | done | with_reducible rfl)); (simp only [Act.at, List.setIfInBounds_toArray, List.set_cons_zero, List.set_cons_succ]))
      (refine grab (i := 1) (v := ?_) rfl rfl (by kernel_rfl) (by kernel_rfl) (by kernel_rfl) (fun _ _ _ h => h) (by rfl) ?_ ?_; rotate_left; (focus (intro w; go_simp; first | done | with_reducible rfl)); (simp only [Act.at, List.setIfInBounds_toArray, List.set_cons_zero, List.set_cons_succ]))
      (refine grab (i := 2) (v := ?_) rfl rfl (by kernel_rfl) (by kernel_rfl) (by kernel_rfl) (fun _ _ _ h => h) (by rfl) ?_ ?_; rotate_left; (focus (intro w; go_simp; first | done | with_reducible rfl)); (simp only [Act.at, List.setIfInBounds_toArray, List.set_cons_zero, List.set_cons_succ]))
      (refine grab (i := 3) (v := ?_) rfl rfl (by kernel_rfl) (by kernel_rfl) (by kernel_rfl) (fun _ _ _ h => h) (by rfl) ?_ ?_; rotate_left; (focus (intro w; go_simp; first | done | with_reducible rfl)); (simp only [Act.at, List.setIfInBounds_toArray, List.set_cons_zero, List.set_cons_succ]))
      (refine grab (i := 4) (v := ?_) rfl rfl (by kernel_rfl) (by kernel_rfl) (by kernel_rfl) (fun _ _ _ h => h) (by rfl) ?_ ?_; rotate_left; (focus (intro w; go_simp; first | done | with_reducible rfl)); (simp only [Act.at, List.setIfInBounds_toArray, List.set_cons_zero, List.set_cons_succ]))
      (refine grab (i := 5) (v := ?_) rfl rfl (by kernel_rfl) (by kernel_rfl) (by kernel_rfl) (fun _ _ _ h => h) (by rfl) ?_ ?_; rotate_left; (focus (intro w; go_simp; first | done | with_reducible rfl)); (simp only [Act.at, List.setIfInBounds_toArray, List.set_cons_zero, List.set_cons_succ]))
      (refine grab (i := 6) (v := ?_) rfl rfl (by kernel_rfl) (by kernel_rfl) (by kernel_rfl) (fun _ _ _ h => h) (by rfl) ?_ ?_; rotate_left; (focus (intro w; go_simp; first | done | with_reducible rfl)); (simp only [Act.at, List.setIfInBounds_toArray, List.set_cons_zero, List.set_cons_succ]))
      (refine grab (i := 7) (v := ?_) rfl rfl (by kernel_rfl) (by kernel_rfl) (by kernel_rfl) (fun _ _ _ h => h) (by rfl) ?_ ?_; rotate_left; (focus (intro w; go_simp; first | done | with_reducible rfl)); (simp only [Act.at, List.setIfInBounds_toArray, List.set_cons_zero, List.set_cons_succ]))
      (refine grab (i := 8) (v := ?_) rfl rfl (by kernel_rfl) (by kernel_rfl) (by kernel_rfl) (fun _ _ _ h => h) (by rfl) ?_ ?_; rotate_left; (focus (intro w; go_simp; first | done | with_reducible rfl)); (simp only [Act.at, List.setIfInBounds_toArray, List.set_cons_zero, List.set_cons_succ]))
      (refine grab (i := 9) (v := ?_) rfl rfl (by kernel_rfl) (by kernel_rfl) (by kernel_rfl) (fun _ _ _ h => h) (by rfl) ?_ ?_; rotate_left; (focus (intro w; go_simp; first | done | with_reducible rfl)); (simp only [Act.at, List.setIfInBounds_toArray, List.set_cons_zero, List.set_cons_succ]))
      (refine grab (i := 10) (v := ?_) rfl rfl (by kernel_rfl) (by kernel_rfl) (by kernel_rfl) (fun _ _ _ h => h) (by rfl) ?_ ?_; rotate_left; (focus (intro w; go_simp; first | done | with_reducible rfl)); (simp only [Act.at, List.setIfInBounds_toArray, List.set_cons_zero, List.set_cons_succ]))
      (refine grab (i := 11) (v := ?_) rfl rfl (by kernel_rfl) (by kernel_rfl) (by kernel_rfl) (fun _ _ _ h => h) (by rfl) ?_ ?_; rotate_left; (focus (intro w; go_simp; first | done | with_reducible rfl)); (simp only [Act.at, List.setIfInBounds_toArray, List.set_cons_zero, List.set_cons_succ]))
      (refine grab (i := 12) (v := ?_) rfl rfl (by kernel_rfl) (by kernel_rfl) (by kernel_rfl) (fun _ _ _ h => h) (by rfl) ?_ ?_; rotate_left; (focus (intro w; go_simp; first | done | with_reducible rfl)); (simp only [Act.at, List.setIfInBounds_toArray, List.set_cons_zero, List.set_cons_succ]))
      (refine grab (i := 14) (v := ?_) rfl rfl (by kernel_rfl) (by kernel_rfl) (by kernel_rfl) (fun _ _ _ h => h) (by rfl) ?_ ?_; rotate_left; (focus (intro w; go_simp; first | done | with_reducible rfl)); (simp only [Act.at, List.setIfInBounds_toArray, List.set_cons_zero, List.set_cons_succ]))
      (refine grab (i := 15) (v := ?_) rfl rfl (by kernel_rfl) (by kernel_rfl) (by kernel_rfl) (fun _ _ _ h => h) (by rfl) ?_ ?_; rotate_left; (focus (intro w; go_simp; first | done | with_reducible rfl)); (simp only [Act.at, List.setIfInBounds_toArray, List.set_cons_zero, List.set_cons_succ]))
      (refine grab (i := 16) (v := ?_) rfl rfl (by kernel_rfl) (by kernel_rfl) (by kernel_rfl) (fun _ _ _ h => h) (by rfl) ?_ ?_; rotate_left; (focus (intro w; go_simp; first | done | with_reducible rfl)); (simp only [Act.at, List.setIfInBounds_toArray, List.set_cons_zero, List.set_cons_succ]))
      (refine grab (i := 17) (v := ?_) rfl rfl (by kernel_rfl) (by kernel_rfl) (by kernel_rfl) (fun _ _ _ h => h) (by rfl) ?_ ?_; rotate_left; (focus (intro w; go_simp; first | done | with_reducible rfl)); (simp only [Act.at, List.setIfInBounds_toArray, List.set_cons_zero, List.set_cons_succ]))
      (refine grab (i := 18) (v := ?_) rfl rfl (by kernel_rfl) (by kernel_rfl) (by kernel_rfl) (fun _ _ _ h => h) (by rfl) ?_ ?_; rotate_left; (focus (intro w; go_simp; first | done | with_reducible rfl)); (simp only [Act.at, List.setIfInBounds_toArray, List.set_cons_zero, List.set_cons_succ]))
      refine wpTwo (i := 13) (j := 19) (by kernel_rfl) rfl rfl (by rfl) (by rfl) (fun K hK => ?_) (fun K hK => ?_)
      · refine wp_load_mid _ _ rfl _ _ rfl _ _ HSW.out.1 Try.underlying40 rfl HSW.out.2.2.2.2.1 ?_
        refine hK _ _ ?_
        clear hK K
        simp only [Act.put, List.setIfInBounds_toArray]
        refine wpOne (i := 19) (by kernel_rfl) rfl (by rfl) (fun K hK => ?_)
        refine wp_load_mid _ _ rfl _ _ rfl _ _ HSW.out.2.1 Try.underlying40 rfl HSW.out.2.2.2.2.2.1 ?_
        refine hK _ _ ?_
        clear hK K
        simp only [Act.put]
        (refine grab (i := 20) (v := ?_) rfl rfl (by kernel_rfl) (by kernel_rfl) (by kernel_rfl) (fun _ _ _ h => h) (by rfl) ?_ ?_; rotate_left; (focus (intro w; go_simp; first | done | with_reducible rfl)); (simp only [Act.at]))
        refine wpOne (i := 21) (by kernel_rfl) rfl (by rfl) (fun K hK => ?_)
        refine wp_store_mid _ _ _ rfl _ _ _ rfl rfl HSW.out.2.2.1 HSW.out.2.2.2.2.2.2.1 HSW.out.2.2.2.2.2.2.2.2.1 ?_
        refine hK _ _ ?_
        clear hK K
        try simp only [Act.put]
        (refine grab (i := 22) (v := ?_) rfl rfl (by kernel_rfl) (by kernel_rfl) (by kernel_rfl) (fun _ _ _ h => h) (by rfl) ?_ ?_; rotate_left; (focus (intro w; go_simp; first | done | with_reducible rfl)); (simp only [Act.at]))
        refine wpOne (i := 23) (by kernel_rfl) rfl (by rfl) (fun K hK => ?_)
        refine wp_store_mid _ _ _ rfl _ _ _ rfl rfl HSW.out.2.2.2.1 HSW.out.2.2.2.2.2.2.2.1 HSW.out.2.2.2.2.2.2.2.2.2 ?_
        refine hK _ _ ?_
        clear hK K
        try simp only [Act.put]
        refine wpAny_done (by kernel_rfl) ?_ _
        (rw [HW2.out]; go_wp2_with fail; go_roundg (n - (k + 1)); (case measure => omega); case rel => exact ⟨k + 1, m + 1, os, by go_num, by omega, Nat.le_refl _, rfl⟩)
      · refine wp_load_mid _ _ rfl _ _ rfl _ _ HSW.out.2.1 Try.underlying40 rfl HSW.out.2.2.2.2.2.1 ?_
        refine hK _ _ ?_
        clear hK K
        simp only [Act.put, List.setIfInBounds_toArray]
        refine wpOne (i := 13) (by kernel_rfl) rfl (by rfl) (fun K hK => ?_)
        refine wp_load_mid _ _ rfl _ _ rfl _ _ HSW.out.1 Try.underlying40 rfl HSW.out.2.2.2.2.1 ?_
        refine hK _ _ ?_
        clear hK K
        simp only [Act.put]
        (refine grab (i := 20) (v := ?_) rfl rfl (by kernel_rfl) (by kernel_rfl) (by kernel_rfl) (fun _ _ _ h => h) (by rfl) ?_ ?_; rotate_left; (focus (intro w; go_simp; first | done | with_reducible rfl)); (simp only [Act.at]))
        refine wpOne (i := 21) (by kernel_rfl) rfl (by rfl) (fun K hK => ?_)
        refine wp_store_mid _ _ _ rfl _ _ _ rfl rfl HSW.out.2.2.1 HSW.out.2.2.2.2.2.2.1 HSW.out.2.2.2.2.2.2.2.2.1 ?_
        refine hK _ _ ?_
        clear hK K
        try simp only [Act.put]
        (refine grab (i := 22) (v := ?_) rfl rfl (by kernel_rfl) (by kernel_rfl) (by kernel_rfl) (fun _ _ _ h => h) (by rfl) ?_ ?_; rotate_left; (focus (intro w; go_simp; first | done | with_reducible rfl)); (simp only [Act.at]))
        refine wpOne (i := 23) (by kernel_rfl) rfl (by rfl) (fun K hK => ?_)
        refine wp_store_mid _ _ _ rfl _ _ _ rfl rfl HSW.out.2.2.2.1 HSW.out.2.2.2.2.2.2.2.1 HSW.out.2.2.2.2.2.2.2.2.2 ?_
        refine hK _ _ ?_
        clear hK K
        try simp only [Act.put]
        refine wpAny_done (by kernel_rfl) ?_ _
        (rw [HW2.out]; go_wp2_with fail; go_roundg (n - (k + 1)); (case measure => omega); case rel => exact ⟨k + 1, m + 1, os, by go_num, by omega, Nat.le_refl _, rfl⟩)
    · obtain rfl : k = n := by omega
      have hltz : ¬ (k : Int) < (k : Int) := by omega
      go_wp2_with fail
      go_end0
      exact ⟨rfl, m, os, rfl⟩
end Go.Proofs.Ytfppobnfajkmmaa

namespace Go.Proofs.Ytfppobnfajkmmaa
open Go.RowKit Go.Sort Go.Lib
set_option linter.unusedVariables false

/-- Where a rotation stands: U and V are still to change places, between what is done. -/
def RotAt (T : List Fld) (m i j : Nat) (C : List Fld) : Prop :=
  ∃ P U V Q : List Fld, C = P ++ (U ++ (V ++ Q)) ∧ T = P ++ (V ++ (U ++ Q)) ∧ U.length = i ∧ V.length = j ∧ P.length + i = m
theorem rot_more {T : List Fld} {m i j : Nat} {C : List Fld} (h : RotAt T m i j C) (hij : j < i) (hj : 0 < j) :
    ∃ X P Y Q Z : List Fld, C = X ++ (P ++ (Y ++ (Q ++ Z))) ∧ P.length = Q.length ∧ P.length = j ∧ m - i = X.length ∧ m = X.length + P.length + Y.length ∧ RotAt T m (i - j) j (X ++ (Q ++ (Y ++ (P ++ Z)))) := by
  obtain ⟨P, U, V, Q, rfl, rfl, hU, hV, hP⟩ := h
  refine ⟨P, U.take j, U.drop j, V, Q, ?_, ?_, ?_, by omega, ?_, P ++ V, U.drop j, U.take j, Q, ?_, ?_, ?_, ?_, ?_⟩
  · conv => lhs; rw [← List.take_append_drop j U]
    simp only [List.append_assoc]
  · rw [List.length_take]; omega
  · rw [List.length_take]; omega
  · rw [List.length_take, List.length_drop]; omega
  · simp only [List.append_assoc]
  · conv => lhs; rw [← List.take_append_drop j U]
    simp only [List.append_assoc]
  · rw [List.length_drop]; omega
  · rw [List.length_take]; omega
  · rw [List.length_append]; omega
theorem rot_less {T : List Fld} {m i j : Nat} {C : List Fld} (h : RotAt T m i j C) (hij : i < j) (hi : 0 < i) :
    ∃ X P Y Q Z : List Fld, C = X ++ (P ++ (Y ++ (Q ++ Z))) ∧ P.length = Q.length ∧ P.length = i ∧ m - i = X.length ∧ m + j - i = X.length + P.length + Y.length ∧ RotAt T m i (j - i) (X ++ (Q ++ (Y ++ (P ++ Z)))) := by
  obtain ⟨P, U, V, Q, rfl, rfl, hU, hV, hP⟩ := h
  refine ⟨P, U, V.take (j - i), V.drop (j - i), Q, ?_, ?_, hU, by omega, ?_, P, V.drop (j - i), V.take (j - i), U ++ Q, ?_, ?_, ?_, ?_, ?_⟩
  · conv => lhs; rw [← List.take_append_drop (j - i) V]
    simp only [List.append_assoc]
  · rw [List.length_drop]; omega
  · rw [List.length_take]; omega
  · rfl
  · conv => lhs; rw [← List.take_append_drop (j - i) V]
    simp only [List.append_assoc]
  · rw [List.length_drop]; omega
  · rw [List.length_take]; omega
  · omega
theorem rot_last {T : List Fld} {m i : Nat} {C : List Fld} (h : RotAt T m i i C) :
    ∃ X P Q Z : List Fld, C = X ++ (P ++ ([] ++ (Q ++ Z))) ∧ P.length = Q.length ∧ P.length = i ∧ m - i = X.length ∧ m = X.length + P.length + ([] : List Fld).length ∧ T = X ++ (Q ++ ([] ++ (P ++ Z))) := by
  obtain ⟨P, U, V, Q, rfl, rfl, hU, hV, hP⟩ := h
  exact ⟨P, U, V, Q, rfl, by omega, hU, by omega, by simp; omega, rfl⟩
theorem RotAt.len {T : List Fld} {m i j : Nat} {C : List Fld} (h : RotAt T m i j C) : C.length = T.length ∧ i ≤ m ∧ m + j ≤ C.length := by
  obtain ⟨P, U, V, Q, rfl, rfl, hU, hV, hP⟩ := h
  simp only [List.length_append]
  omega

theorem range_at {w : World} {blk off : Nat} {d0 : Array Fld} (hH : HoldsK Fld.cs 6 w blk off d0) (hblk : blk < w.heap.size) (hsz : d0.size < 1000000) (n cap : Nat) (C : List Fld) (os : Array Obj) (hC : C.length = d0.size) (x y c : Nat) (X P Y Q Z : List Fld)
    (hCe : C = X ++ (P ++ (Y ++ (Q ++ Z)))) (hPQ : P.length = Q.length) (hc : P.length = c) (hx : x = X.length) (hy : y = X.length + P.length + Y.length) :
    Calls Try.prog 62 #[.slice (some ⟨blk, off, none⟩) d0.size cap, .int .i64 (x : Int), .int .i64 (y : Int), .int .i64 (c : Int), .func (.func 20) #[] #[]] (SW w blk off n C.toArray os) fun e w' =>
      e = .returned (.tuple #[]) ∧ ∃ m os, w' = SW w blk off m (X ++ (Q ++ (Y ++ (P ++ Z)))).toArray os := by
  have h := range_any X P Y Q Z hPQ blk off cap x y (SW w blk off n C.toArray os) C.toArray (by rw [hCe]) (SW_holds hH hblk n C.toArray os hC) (Nat.lt_of_lt_of_le hblk (SW_size w blk off n C.toArray os)) (by show C.length < 1000000; omega) hx hy
  rw [hc, show C.toArray.size = d0.size from hC] at h
  refine h.mono fun e w' hh => ⟨hh.1, ?_⟩
  obtain ⟨m, os', rfl⟩ := hh.2
  refine ⟨n + m, os ++ os', SW_SW w blk off n m C.toArray _ os os' hblk ?_⟩
  show (X ++ (Q ++ (Y ++ (P ++ Z)))).length = C.length
  rw [hCe]
  simp only [List.length_append]
  omega

set_option maxHeartbeats 4000000 in
set_option maxRecDepth 100000 in
theorem rotate_any (X A B Y : List Fld) (hA : 0 < A.length) (hB : 0 < B.length) (blk off cap a m b : Nat) (w : World) (d : Array Fld) (hd : d = (X ++ (A ++ (B ++ Y))).toArray) (hH : HoldsK Fld.cs 6 w blk off d) (hblk : blk < w.heap.size) (hsz : d.size < 1000000)
    (ha : a = X.length) (hm : m = X.length + A.length) (hb : b = X.length + A.length + B.length) :
    Calls Try.prog 61 #[.slice (some ⟨blk, off, none⟩) d.size cap, .int .i64 (a : Int), .int .i64 (m : Int), .int .i64 (b : Int), .func (.func 20) #[] #[]] w fun e w' =>
      e = .returned (.tuple #[]) ∧ ∃ n os, w' = SW w blk off n (X ++ (B ++ (A ++ Y))).toArray os := by
  have HST : Hid (w = SW w blk off 0 d #[]) := by
    show w = _
    unfold SW sortWorldK
    rw [grow_empty]
    exact (putRowK_self Fld.cs 6 w blk off d hH).symm
  have hR0 : RotAt (X ++ (B ++ (A ++ Y))) m A.length B.length (X ++ (A ++ (B ++ Y))) := ⟨X, A, B, Y, rfl, rfl, rfl, rfl, by omega⟩
  have hTl : (X ++ (B ++ (A ++ Y))).length = d.size := by rw [hd]; simp only [List.size_toArray, List.length_append]; omega
  have hbs : b ≤ d.size := by rw [hd]; simp only [List.size_toArray, List.length_append]; omega
  have hi0 : (m : Int) - (a : Int) = (A.length : Int) := by omega
  have hj0 : (b : Int) - (m : Int) = (B.length : Int) := by omega
  have hm6 : (m : Int) ≤ 1000000 := by omega
  have hb6 : (b : Int) ≤ 1000000 := by omega
  have hRA := fun n C os hC x y c X P Y Q Z => range_at hH hblk hsz n cap C os hC x y c X P Y Q Z
  generalize X ++ (B ++ (A ++ Y)) = T at hR0 hTl ⊢
  obtain ⟨C0, hC0⟩ : ∃ C, X ++ (A ++ (B ++ Y)) = C := ⟨_, rfl⟩
  rw [hC0] at hR0 hd
  clear hC0 ha hm hb hH
  generalize A.length = i0 at hA hR0 hi0
  generalize B.length = j0 at hB hR0 hj0
  have HD := Lib.hid hd; clear hd
  have HR0 := Lib.hid hR0; clear hR0
  have HRA := Lib.hid hRA; clear hRA
  have HTL := Lib.hid hTl; clear hTl
  clear hblk
  generalize hds : d.size = ds at hbs hsz HRA HTL ⊢
  have hb0 : (m : Int) ≤ (b : Int) := by omega
  have ha0 : (a : Int) ≤ (m : Int) := by omega
  go_enter Try.func61, Try.ntmps61
  go_wp2_with fail
  go_loopg [10, 11] (i0 + j0) (fun g1 vi vj wr => ∃ (i j n : Nat) (C : List Fld) (os : Array Obj), vi = .int .i64 (i : Int) ∧ vj = .int .i64 (j : Int) ∧ 0 < i ∧ 0 < j ∧ i + j ≤ g1 ∧ Hid (RotAt T m i j C) ∧ wr = SW w blk off n C.toArray os)
  case atStart => exact ⟨i0, j0, 0, C0, #[], rfl, rfl, hA, hB, Nat.le_refl _, HR0, by rw [← HD.out]; exact HST.out⟩
  case round =>
    clear hi0 hj0
    obtain ⟨i, j, n, C, os, rfl, rfl, hi, hj, hg1, HC, rfl⟩ := hrel
    obtain ⟨hCl, him, hjC⟩ := HC.out.len
    have hmi0 : (i : Int) ≤ (m : Int) := by omega
    have hCd : C.length = ds := by rw [hCl]; exact HTL.out
    rcases Nat.lt_trichotomy i j with hlt | heq | hgt
    · obtain ⟨x, hx⟩ : ∃ x, m - i = x := ⟨_, rfl⟩
      obtain ⟨y, hy⟩ : ∃ y, m + j - i = y := ⟨_, rfl⟩
      have e1 : (m : Int) - (i : Int) = (x : Int) := by omega
      have e2 : (m : Int) + (j : Int) - (i : Int) = (y : Int) := by omega
      obtain ⟨X, P, Y, Q, Z, hCe, hPQ, hc, hxx, hyy, hnext⟩ := rot_less HC.out hlt hi
      have hRG := HRA.out n C os hCd x y i X P Y Q Z hCe hPQ hc (by rw [← hx]; exact hxx) (by rw [← hy]; exact hyy)
      generalize X ++ (Q ++ (Y ++ (P ++ Z))) = C2 at hRG hnext
      have HRG := Lib.hid hRG
      have HN := Lib.hid hnext
      have hj6 : (m : Int) + (j : Int) ≤ 2000000 := by omega
      have n1 : ¬ (i : Int) = (j : Int) := by omega
      have n2 : ¬ (j : Int) < (i : Int) := by omega
      clear hRG hnext hCe hPQ hc hxx hyy hx hy hCl hCd HC
      generalize SW w blk off n C.toArray os = W1 at HRG ⊢
      go_wp2_with fail
      refine HRG.out.mono ?_
      rintro r w2 ⟨rfl, m2, os2, rfl⟩
      go_wp2_with fail
      go_roundg (i + (j - i))
      case measure => omega
      case rel => exact ⟨i, j - i, m2, C2, os2, rfl, by first | rfl | go_num | (congr 1; omega), hi, by omega, Nat.le_refl _, HN, rfl⟩
    · subst heq
      obtain ⟨x, hx⟩ : ∃ x, m - i = x := ⟨_, rfl⟩
      have e1 : (m : Int) - (i : Int) = (x : Int) := by omega
      obtain ⟨X, P, Q, Z, hCe, hPQ, hc, hxx, hyy, hT⟩ := rot_last HC.out
      have hRG := HRA.out n C os hCd x m i X P [] Q Z hCe hPQ hc (by rw [← hx]; exact hxx) hyy
      rw [← hT] at hRG
      have HRG := Lib.hid hRG
      clear hRG hCe hPQ hc hxx hyy hx hCl hCd HC hT
      generalize SW w blk off n C.toArray os = W1 at HRG ⊢
      go_wp2_with fail
      refine HRG.out.mono ?_
      rintro r w2 ⟨rfl, m2, os2, rfl⟩
      go_wp2_with fail
      go_end0
      exact ⟨rfl, m2, os2, rfl⟩
    · obtain ⟨x, hx⟩ : ∃ x, m - i = x := ⟨_, rfl⟩
      have e1 : (m : Int) - (i : Int) = (x : Int) := by omega
      obtain ⟨X, P, Y, Q, Z, hCe, hPQ, hc, hxx, hyy, hnext⟩ := rot_more HC.out hgt hj
      have hRG := HRA.out n C os hCd x m j X P Y Q Z hCe hPQ hc (by rw [← hx]; exact hxx) hyy
      generalize X ++ (Q ++ (Y ++ (P ++ Z))) = C2 at hRG hnext
      have HRG := Lib.hid hRG
      have HN := Lib.hid hnext
      have n1 : ¬ (i : Int) = (j : Int) := by omega
      have n2 : (j : Int) < (i : Int) := by omega
      clear hRG hnext hCe hPQ hc hxx hyy hx hCl hCd HC
      generalize SW w blk off n C.toArray os = W1 at HRG ⊢
      go_wp2_with fail
      refine HRG.out.mono ?_
      rintro r w2 ⟨rfl, m2, os2, rfl⟩
      go_wp2_with fail
      go_roundg (i - j + j)
      case measure => omega
      case rel => exact ⟨i - j, j, m2, C2, os2, by first | rfl | go_num | (congr 1; omega), rfl, by omega, hj, Nat.le_refl _, HN, rfl⟩
end Go.Proofs.Ytfppobnfajkmmaa
