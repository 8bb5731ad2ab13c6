/-
  The contract of the seventh layer's statements' own Leaves.
-/
import Derived.Test.YtphhaiccpllnpaaDoorMkPath
namespace Go.Proofs.YtphhaiccpllnpaaDoor
open Go.RowKit
set_option linter.unusedVariables false

namespace Mk
def leaf (l : List Mill.En) (s : T) : T := Mill.hash l (0 :: s.take 100)
def leaves (l : List Mill.En) (L : List T) : List T := (L.take 40).map (leaf l)
theorem leaves_len (l : List Mill.En) (L : List T) : (leaves l L).length ≤ 40 := by unfold leaves; rw [List.length_map, List.length_take]; omega
theorem leaves_sums (l : List Mill.En) (hr : Mill.right l = true) (L : List T) : ∀ s, s ∈ leaves l L → s.length = 32 := fun s hs => by
  unfold leaves at hs
  obtain ⟨x, _, rfl⟩ := List.mem_map.1 hs
  exact Mill.hash_len l hr _
def leavesK (l : List Mill.En) (L : List T) (k : Nat) : List T := (L.take k).map (leaf l)
theorem leavesK_len (l : List Mill.En) (L : List T) (k : Nat) (hk : k ≤ L.length) : (leavesK l L k).length = k := by unfold leavesK; rw [List.length_map, List.length_take]; omega
theorem leavesK_step (l : List Mill.En) (L : List T) (k : Nat) (hk : k < L.length) : leavesK l L (k + 1) = leavesK l L k ++ [leaf l (L[k]'hk)] := by
  unfold leavesK
  rw [List.take_succ_eq_append_getElem hk, List.map_append]; rfl
theorem leavesK_end (l : List Mill.En) (L : List T) (k : Nat) (h : k = 40 ∨ (k = L.length ∧ k ≤ 40)) : leavesK l L k = leaves l L := by
  unfold leavesK leaves
  rcases h with rfl | ⟨h1, h2⟩
  · rfl
  · rw [List.take_of_length_le (by omega), List.take_of_length_le (by omega)]
end Mk

section
variable (g nb : Nat) (tv : Option Nat) (l : List Mill.En)
set_option maxRecDepth 100000 in
set_option maxHeartbeats 4000000 in
theorem mkLeaves_any (hr : Mill.right l = true) (A : Option Addr) (L : List (List UInt8)) (cap : Nat) (st : Mill.St) (w : World) (hcap : L.length ≤ cap) (hcm : cap ≤ 9223372036854775807) (hrow : RowS w [g, nb] A L) (hsum : st.sums ≤ 1000000) (hm : MkW w g nb tv l st) :
    Calls Tryd.prog 12 #[.pointer (some ⟨g, 0, none⟩), .slice A L.length cap] w (RowPost w g nb tv l st (Mk.leaves l L) 40) := by
  obtain ⟨i0, hi0, hz0, hz1, hz2⟩ := info_parts mkinfo
  have HIN := Lib.hid (And.intro hi0 (And.intro hz0 (And.intro hz1 hz2))); clear hi0 hz0 hz1 hz2
  have HM := Lib.hid hm
  have hgn := hm.m.lt
  clear hm
  obtain ⟨n, hN⟩ : ∃ n, L.length = n := ⟨_, rfl⟩
  rw [hN] at hcap ⊢
  have HN := Lib.hid hN; clear hN
  have HROW := Lib.hid hrow; clear hrow
  go_enter Tryd.func12, Tryd.ntmps12
  go_wp2_with fail
  go_loopw [5, 6] (fun v5 v6 wr => ∃ (k : Nat) (ts : List (List UInt8)), k ≤ n ∧ k ≤ 40 ∧ v6 = .int .i64 (k : Int) ∧ wr.ownsRow w.heap.size 9 1 v5 k (tvs (Mk.leavesK l L k)) ∧ ts.length = k ∧ MkW wr g nb tv l (Mill.steps l ts st) ∧ Mv w wr [g, nb]) (fun _ v6 _ => n - (intOf v6).toNat)
  case atStart => exact ⟨0, [], Nat.zero_le _, Nat.zero_le _, rfl, World.ownsRow_nil _ _ _ _, rfl, HM.out, Mv.refl _ _⟩
  case round =>
    obtain ⟨k, ts, hk, hk4, rfl, hown, hts, hmk, hvk⟩ := hrel
    by_cases hlt : k < n ∧ k < 40
    · obtain ⟨hlt, hl40⟩ := hlt
      have hkl : k < L.length := by rw [HN.out]; exact hlt
      obtain ⟨b, off, rfl, hbl, hbn, hrw⟩ := HROW.out (fun e => by rw [e] at hkl; exact absurd hkl (Nat.not_lt_zero _))
      have hcell : wr.cell? ⟨b, off + k, none⟩ = some (.string (S (L[k]'hkl))) := (hrw.mv hvk hbl hbn) k hkl
      have HST := Lib.hid (Mk.leavesK_step l L k hkl)
      have hll := Mk.leavesK_len l L k (Nat.le_of_lt hkl)
      have hl40' : (k : Int) < 40 := by omega
      have hLf := fun x (hx : x.length ≤ 100) => mkLeaf_any g nb tv l hr (Mill.steps l ts st) wr x hmk (by omega) (by rw [Mill.steps_sums]; omega)
      unfold MkPost at hLf
      have hfit : ∀ x : List UInt8, (x.take 100).length ≤ 100 := fun x => by rw [List.length_take]; omega
      unfold Mk.leaf at HST
      generalize L[k]'hkl = x at hcell HST
      have hLf' := hLf (x.take 100) (hfit x)
      clear hLf
      have hcutx : (100 : Int) < (x.length : Int) ∨ (¬ (100 : Int) < (x.length : Int) ∧ x.take 100 = x) := by
        by_cases h : 100 < x.length
        · exact Or.inl (by omega)
        · exact Or.inr ⟨by omega, List.take_of_length_le (by omega)⟩
      generalize Mill.hash l (0 :: x.take 100) = y at hLf' HST
      obtain ⟨tx, htx⟩ : ∃ t, [0 :: x.take 100] = t := ⟨_, rfl⟩
      rw [htx] at hLf'
      have htl : tx.length = 1 := by rw [← htx]; rfl
      generalize Mk.leavesK l L k = R at *
      have HL := Lib.hid hLf'; clear hLf'
      clear htx hrw hbn hfit
      have HOWN0 := Lib.hid hown; clear hown
      have HS2 := Lib.hid (And.intro hts (And.intro hmk hvk)); clear hts hmk hvk
      rcases hcutx with h100 | ⟨h100, hx100⟩
      case' inr => rw [hx100] at HL
      all_goals
        go_wp2_with fail
        refine (HL.out).mono ?_
        rintro e w3 ⟨rfl, hm3, hv3⟩
        have hown3 := own_mv HOWN0.out hv3 (by intro z hz; simp only [List.mem_cons, List.not_mem_nil, or_false] at hz; omega)
        have hv03 := HS2.out.2.2.trans hv3
        have hs3 := hv03.size
        have HOWN := Lib.hid (hown3.alloc (.cells #[.string (S y)] 9))
        have HMADE := Lib.hid (made_one w3 y)
        go_wp2_with (at_builtin; refine wpList_append_own _ rfl (.tmp 27) (.tmp 31) 22 rfl w.heap.size 9 i0 (.string ⟨#[]⟩) 1 16 Tryd.underlying22 HIN.out.1 HIN.out.2.1 HIN.out.2.2.1 HIN.out.2.2.2 rfl (by decide) u5 k (tvs R) rfl HOWN.out ⟨w3.heap.size, 0, none⟩ 1 1 [.string (S y)] rfl rfl HMADE.out (by simp [Value.oneCell']) (by simp only [maxLen]; omega) (by omega) (by simp; omega) ?_; intro v8 w5 hown5 hg5 hnil5)
        have hg5' := grown_alloc _ hg5
        have hrw5 : ∀ q, u5.ownBlock = some q → w.heap.size ≤ q := fun q hq => (hown3.lt q hq).1
        have hv5 := hv03.own hg5' hrw5
        have hm5 := MkW.own HM.out hm3 hg5' hrw5
        have hown6 : w5.ownsRow w.heap.size 9 1 v8 (k + 1) (tvs (Mk.leavesK l L (k + 1))) := by rw [HST.out, ← tvs_snoc]; exact hown5
        clear hown5 hg5 hnil5 hg5' hown3
        go_wp2_with fail
        go_roundw
        case rel => exact ⟨k + 1, ts ++ tx, by omega, by omega, by go_num, hown6, by rw [List.length_append, HS2.out.1, htl], by rw [Mill.steps_app]; exact hm5, hv5⟩
        case measure => simp [intOf]; omega
    · have hend := Mk.leavesK_end l L k (by rw [HN.out]; omega)
      have hll := Mk.leavesK_len l L k (by rw [HN.out]; exact hk)
      have HF : Hid (RowPost w g nb tv l st (Mk.leaves l L) 40 (.returned u5) wr) := ⟨u5, ts, rfl, by rw [← hend, hll]; exact hown, by omega, hmk, hvk⟩
      clear hown hmk hvk hend hll
      by_cases h1 : k < n
      · have h40 : k = 40 := by omega
        subst h40
        go_wp2_with fail
        go_ret
        exact HF.out
      · have hkn : k = n := by omega
        subst hkn
        go_wp2_with fail
        go_ret
        exact HF.out
end
end Go.Proofs.YtphhaiccpllnpaaDoor
