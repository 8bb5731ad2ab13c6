/-
  The contract of the eighth layer's statements' own few.
-/
import Derived.Test.YtgjknfphmmlcdaaDoorShtSibs
namespace Go.Proofs.YtgjknfphmmlcdaaDoor
open Go.RowKit
set_option linter.unusedVariables false

namespace Sht
def cutS (x : Slp) : Slp := ⟨x.n.take 100, x.p.take 100, x.c, x.e⟩
def few (L : List Slp) : List Slp := (L.take 12).map cutS
def fewK (L : List Slp) (k : Nat) : List Slp := (L.take k).map cutS
theorem few_len (L : List Slp) : (few L).length ≤ 12 := by unfold few; rw [List.length_map, List.length_take]; omega
theorem fewK_len (L : List Slp) (k : Nat) (hk : k ≤ L.length) : (fewK L k).length = k := by unfold fewK; rw [List.length_map, List.length_take]; omega
theorem fewK_step (L : List Slp) (k : Nat) (hk : k < L.length) : fewK L (k + 1) = fewK L k ++ [cutS (L[k]'hk)] := by
  unfold fewK
  rw [List.take_succ_eq_append_getElem hk, List.map_append]; rfl
theorem fewK_end (L : List Slp) (k : Nat) (h : k = 12 ∨ (k = L.length ∧ k ≤ 12)) : fewK L k = few L := by
  unfold fewK few
  rcases h with rfl | ⟨h1, h2⟩
  · rfl
  · rw [List.take_of_length_le (by omega), List.take_of_length_le (by omega)]
theorem few_short (L : List Slp) : ∀ x ∈ few L, x.n.length ≤ 100 ∧ x.p.length ≤ 100 := fun x hx => by
  unfold few at hx
  obtain ⟨y, _, rfl⟩ := List.mem_map.1 hx
  exact ⟨by show (y.n.take 100).length ≤ 100; rw [List.length_take]; omega, by show (y.p.take 100).length ≤ 100; rw [List.length_take]; omega⟩
end Sht
theorem slinfo : (Tryd.prog.info? 27).map (fun i => (i.zero, i.size, i.bytes)) = some (some (.agg #[.string ⟨#[]⟩, .string ⟨#[]⟩, .string ⟨#[]⟩, .bool false]), 4, 56) := by kernel_rfl
theorem made_slip (w : World) (n p c : List UInt8) (e : Bool) : ∀ (j : Nat) (u : Value), (⟨n, p, c, e⟩ : Slp).cs[j]? = some u → (w.alloc (.cells #[.string (S n), .string (S p), .string (S c), .bool e] 27)).cell? ((⟨w.heap.size, 0, none⟩ : Addr).add j) = some u := by
  intro j u hu
  rw [add_flat', Nat.zero_add, (Has.made w 27 #[.string (S n), .string (S p), .string (S c), .bool e]).cell j]
  rw [← hu]
  unfold Slp.cs
  exact List.getElem?_toArray ..
theorem cut_or (x : List UInt8) : ((100 : Int) < (x.length : Int)) ∨ (¬ (100 : Int) < (x.length : Int) ∧ x.take 100 = x) := by
  by_cases h : 100 < x.length
  · exact Or.inl (by omega)
  · exact Or.inr ⟨by omega, List.take_of_length_le (by omega)⟩
/-- What a call leaves that answers a new row of slips. -/
def SlpPost (w : World) (R : List Slp) (e : Ending) (w' : World) : Prop := ∃ v, e = .returned v ∧ w'.ownsRow w.heap.size 27 4 v R.length (svs R) ∧ Below w.heap.size w w'
theorem Below.grow {w w3 w5 : World} {row : Option Nat} (h : Below w.heap.size w w3) (hg : w3.grownBy w5 row) (hr : ∀ k, row = some k → w.heap.size ≤ k) : Below w.heap.size w w5 :=
  ⟨hg.os.trans h.os, hg.tape.trans h.tape, hg.output.trans h.output, Nat.le_trans h.size hg.size, fun i hi => (hg.block i (Nat.lt_of_lt_of_le hi h.size) (fun e => by have := hr i e.symm; omega)).trans (h.block i hi)⟩

set_option maxRecDepth 100000 in
set_option maxHeartbeats 4000000 in
theorem slFew_any (A : Option Addr) (L : List Slp) (cap : Nat) (w : World) (hcap : L.length ≤ cap) (hcm : cap ≤ 9223372036854775807) (hrow : RowP w [] A L) :
    Calls Tryd.prog 9 #[.slice A L.length cap] w (SlpPost w (Sht.few L)) := by
  obtain ⟨i0, hi0, hz0, hz1, hz2⟩ := info_parts slinfo
  have HIN := Lib.hid (And.intro hi0 (And.intro hz0 (And.intro hz1 hz2))); clear hi0 hz0 hz1 hz2
  have HZC : (Value.agg #[.string ⟨#[]⟩, .string ⟨#[]⟩, .string ⟨#[]⟩, .bool false]).cells.size = 4 := rfl
  obtain ⟨n, hN⟩ : ∃ n, L.length = n := ⟨_, rfl⟩
  rw [hN] at hcap ⊢
  have HN := Lib.hid hN; clear hN
  have HROW := Lib.hid hrow; clear hrow
  go_enter Tryd.func9, Tryd.ntmps9
  go_wp2_with fail
  go_loopw [3, 4] (fun v3 v4 wr => ∃ (k : Nat), k ≤ n ∧ k ≤ 12 ∧ v4 = .int .i64 (k : Int) ∧ wr.ownsRow w.heap.size 27 4 v3 k (svs (Sht.fewK L k)) ∧ Below w.heap.size w wr) (fun _ v4 _ => n - (intOf v4).toNat)
  case atStart => exact ⟨0, Nat.zero_le _, Nat.zero_le _, rfl, World.ownsRow_nil _ _ _ _, Below.refl _ _⟩
  case round =>
    obtain ⟨k, hk, hk4, rfl, hown, hbw⟩ := hrel
    by_cases hlt : k < n ∧ k < 12
    · obtain ⟨hlt, hl12⟩ := hlt
      have hkl : k < L.length := by rw [HN.out]; exact hlt
      obtain ⟨b, off, rfl, hbl, hbs, hat⟩ := RowP.get (RowC.below HROW.out hbw) k hkl
      have hst := Sht.fewK_step L k hkl
      have hlk := Sht.fewK_len L k (Nat.le_of_lt hkl)
      generalize L[k]'hkl = x at hat hst
      obtain ⟨xn, xp, xc, xe⟩ := x
      obtain ⟨c0, c1, c2, c3⟩ := hat
      dsimp only at c0 c1 c2 c3
      have HST := Lib.hid hst; clear hst
      unfold Sht.cutS at HST
      dsimp only at HST
      have hl12' : (k : Int) < 12 := by omega
      generalize Sht.fewK L k = R at *
      have HOWN0 := Lib.hid hown; clear hown
      have HB := Lib.hid hbw; clear hbw hbs
      rcases cut_or xn with hn | ⟨hn, hnt⟩
      all_goals rcases cut_or xp with hp | ⟨hp, hpt⟩
      · skip
        go_upto_region 10 with (fail)
        have hba := belowB wr (.cells #[.string (S (xn.take 100)), .string (S (xp.take 100)), .string (S xc), .bool xe] 27)
        have hown3 := own_below HOWN0.out hba
        have hH := Has.made wr 27 #[.string (S (xn.take 100)), .string (S (xp.take 100)), .string (S xc), .bool xe]
        have hb3 := HB.out.trans (hba.mono HB.out.size)
        generalize wr.alloc (.cells #[.string (S (xn.take 100)), .string (S (xp.take 100)), .string (S xc), .bool xe] 27) = w3 at *
        have c0' : w3.cell? ⟨wr.heap.size, 0, none⟩ = some (.string (S (xn.take 100))) := hH.cell 0
        have c1' : w3.cell? ⟨wr.heap.size, 1, none⟩ = some (.string (S (xp.take 100))) := hH.cell 1
        have c2' : w3.cell? ⟨wr.heap.size, 2, none⟩ = some (.string (S xc)) := hH.cell 2
        have c3' : w3.cell? ⟨wr.heap.size, 3, none⟩ = some (.bool xe) := hH.cell 3
        have hs3 := hb3.size
        have HOWN := Lib.hid (hown3.alloc (.cells #[.string (S (xn.take 100)), .string (S (xp.take 100)), .string (S xc), .bool xe] 27))
        have HMADE := Lib.hid (made_slip w3 (xn.take 100) (xp.take 100) xc xe)
        go_wp2_with (at_builtin; refine wpList_append_own _ rfl (.tmp 36) (.tmp 38) 22 rfl w.heap.size 27 i0 (.agg #[.string ⟨#[]⟩, .string ⟨#[]⟩, .string ⟨#[]⟩, .bool false]) 4 56 Tryd.underlying22 HIN.out.1 HIN.out.2.1 HIN.out.2.2.1 HIN.out.2.2.2 HZC (by decide) u3 k (svs R) rfl HOWN.out ⟨w3.heap.size, 0, none⟩ 1 1 (⟨(xn.take 100), (xp.take 100), xc, xe⟩ : Slp).cs rfl rfl HMADE.out (by simp [Slp.cs, Value.oneCell']) (by simp only [maxLen]; omega) (by omega) (by simp; omega) ?_; intro v8 w5 hown5 hg5 hnil5)
        have hg5' := grown_alloc _ hg5
        have hrw5 : ∀ q, u3.ownBlock = some q → w.heap.size ≤ q := fun q hq => (hown3.lt q hq).1
        have hb5 := Below.grow hb3 hg5' hrw5
        have hown6 : w5.ownsRow w.heap.size 27 4 v8 (k + 1) (svs (Sht.fewK L (k + 1))) := by rw [HST.out, ← svs_snoc]; exact hown5
        clear hown5 hg5 hnil5 hg5' hown3
        go_wp2_with fail
        go_roundw
        case rel => exact ⟨k + 1, by omega, by omega, by go_num, hown6, hb5⟩
        case measure => simp [intOf]; omega
      · rw [hpt] at HST
        go_upto_region 10 with (fail)
        have hba := belowB wr (.cells #[.string (S (xn.take 100)), .string (S xp), .string (S xc), .bool xe] 27)
        have hown3 := own_below HOWN0.out hba
        have hH := Has.made wr 27 #[.string (S (xn.take 100)), .string (S xp), .string (S xc), .bool xe]
        have hb3 := HB.out.trans (hba.mono HB.out.size)
        generalize wr.alloc (.cells #[.string (S (xn.take 100)), .string (S xp), .string (S xc), .bool xe] 27) = w3 at *
        have c0' : w3.cell? ⟨wr.heap.size, 0, none⟩ = some (.string (S (xn.take 100))) := hH.cell 0
        have c1' : w3.cell? ⟨wr.heap.size, 1, none⟩ = some (.string (S xp)) := hH.cell 1
        have c2' : w3.cell? ⟨wr.heap.size, 2, none⟩ = some (.string (S xc)) := hH.cell 2
        have c3' : w3.cell? ⟨wr.heap.size, 3, none⟩ = some (.bool xe) := hH.cell 3
        have hs3 := hb3.size
        have HOWN := Lib.hid (hown3.alloc (.cells #[.string (S (xn.take 100)), .string (S xp), .string (S xc), .bool xe] 27))
        have HMADE := Lib.hid (made_slip w3 (xn.take 100) xp xc xe)
        go_wp2_with (at_builtin; refine wpList_append_own _ rfl (.tmp 36) (.tmp 38) 22 rfl w.heap.size 27 i0 (.agg #[.string ⟨#[]⟩, .string ⟨#[]⟩, .string ⟨#[]⟩, .bool false]) 4 56 Tryd.underlying22 HIN.out.1 HIN.out.2.1 HIN.out.2.2.1 HIN.out.2.2.2 HZC (by decide) u3 k (svs R) rfl HOWN.out ⟨w3.heap.size, 0, none⟩ 1 1 (⟨(xn.take 100), xp, xc, xe⟩ : Slp).cs rfl rfl HMADE.out (by simp [Slp.cs, Value.oneCell']) (by simp only [maxLen]; omega) (by omega) (by simp; omega) ?_; intro v8 w5 hown5 hg5 hnil5)
        have hg5' := grown_alloc _ hg5
        have hrw5 : ∀ q, u3.ownBlock = some q → w.heap.size ≤ q := fun q hq => (hown3.lt q hq).1
        have hb5 := Below.grow hb3 hg5' hrw5
        have hown6 : w5.ownsRow w.heap.size 27 4 v8 (k + 1) (svs (Sht.fewK L (k + 1))) := by rw [HST.out, ← svs_snoc]; exact hown5
        clear hown5 hg5 hnil5 hg5' hown3
        go_wp2_with fail
        go_roundw
        case rel => exact ⟨k + 1, by omega, by omega, by go_num, hown6, hb5⟩
        case measure => simp [intOf]; omega
      · rw [hnt] at HST
        go_upto_region 10 with (fail)
        have hba := belowB wr (.cells #[.string (S xn), .string (S (xp.take 100)), .string (S xc), .bool xe] 27)
        have hown3 := own_below HOWN0.out hba
        have hH := Has.made wr 27 #[.string (S xn), .string (S (xp.take 100)), .string (S xc), .bool xe]
        have hb3 := HB.out.trans (hba.mono HB.out.size)
        generalize wr.alloc (.cells #[.string (S xn), .string (S (xp.take 100)), .string (S xc), .bool xe] 27) = w3 at *
        have c0' : w3.cell? ⟨wr.heap.size, 0, none⟩ = some (.string (S xn)) := hH.cell 0
        have c1' : w3.cell? ⟨wr.heap.size, 1, none⟩ = some (.string (S (xp.take 100))) := hH.cell 1
        have c2' : w3.cell? ⟨wr.heap.size, 2, none⟩ = some (.string (S xc)) := hH.cell 2
        have c3' : w3.cell? ⟨wr.heap.size, 3, none⟩ = some (.bool xe) := hH.cell 3
        have hs3 := hb3.size
        have HOWN := Lib.hid (hown3.alloc (.cells #[.string (S xn), .string (S (xp.take 100)), .string (S xc), .bool xe] 27))
        have HMADE := Lib.hid (made_slip w3 xn (xp.take 100) xc xe)
        go_wp2_with (at_builtin; refine wpList_append_own _ rfl (.tmp 36) (.tmp 38) 22 rfl w.heap.size 27 i0 (.agg #[.string ⟨#[]⟩, .string ⟨#[]⟩, .string ⟨#[]⟩, .bool false]) 4 56 Tryd.underlying22 HIN.out.1 HIN.out.2.1 HIN.out.2.2.1 HIN.out.2.2.2 HZC (by decide) u3 k (svs R) rfl HOWN.out ⟨w3.heap.size, 0, none⟩ 1 1 (⟨xn, (xp.take 100), xc, xe⟩ : Slp).cs rfl rfl HMADE.out (by simp [Slp.cs, Value.oneCell']) (by simp only [maxLen]; omega) (by omega) (by simp; omega) ?_; intro v8 w5 hown5 hg5 hnil5)
        have hg5' := grown_alloc _ hg5
        have hrw5 : ∀ q, u3.ownBlock = some q → w.heap.size ≤ q := fun q hq => (hown3.lt q hq).1
        have hb5 := Below.grow hb3 hg5' hrw5
        have hown6 : w5.ownsRow w.heap.size 27 4 v8 (k + 1) (svs (Sht.fewK L (k + 1))) := by rw [HST.out, ← svs_snoc]; exact hown5
        clear hown5 hg5 hnil5 hg5' hown3
        go_wp2_with fail
        go_roundw
        case rel => exact ⟨k + 1, by omega, by omega, by go_num, hown6, hb5⟩
        case measure => simp [intOf]; omega
      · rw [hnt, hpt] at HST
        go_upto_region 10 with (fail)
        have hba := belowB wr (.cells #[.string (S xn), .string (S xp), .string (S xc), .bool xe] 27)
        have hown3 := own_below HOWN0.out hba
        have hH := Has.made wr 27 #[.string (S xn), .string (S xp), .string (S xc), .bool xe]
        have hb3 := HB.out.trans (hba.mono HB.out.size)
        generalize wr.alloc (.cells #[.string (S xn), .string (S xp), .string (S xc), .bool xe] 27) = w3 at *
        have c0' : w3.cell? ⟨wr.heap.size, 0, none⟩ = some (.string (S xn)) := hH.cell 0
        have c1' : w3.cell? ⟨wr.heap.size, 1, none⟩ = some (.string (S xp)) := hH.cell 1
        have c2' : w3.cell? ⟨wr.heap.size, 2, none⟩ = some (.string (S xc)) := hH.cell 2
        have c3' : w3.cell? ⟨wr.heap.size, 3, none⟩ = some (.bool xe) := hH.cell 3
        have hs3 := hb3.size
        have HOWN := Lib.hid (hown3.alloc (.cells #[.string (S xn), .string (S xp), .string (S xc), .bool xe] 27))
        have HMADE := Lib.hid (made_slip w3 xn xp xc xe)
        go_wp2_with (at_builtin; refine wpList_append_own _ rfl (.tmp 36) (.tmp 38) 22 rfl w.heap.size 27 i0 (.agg #[.string ⟨#[]⟩, .string ⟨#[]⟩, .string ⟨#[]⟩, .bool false]) 4 56 Tryd.underlying22 HIN.out.1 HIN.out.2.1 HIN.out.2.2.1 HIN.out.2.2.2 HZC (by decide) u3 k (svs R) rfl HOWN.out ⟨w3.heap.size, 0, none⟩ 1 1 (⟨xn, xp, xc, xe⟩ : Slp).cs rfl rfl HMADE.out (by simp [Slp.cs, Value.oneCell']) (by simp only [maxLen]; omega) (by omega) (by simp; omega) ?_; intro v8 w5 hown5 hg5 hnil5)
        have hg5' := grown_alloc _ hg5
        have hrw5 : ∀ q, u3.ownBlock = some q → w.heap.size ≤ q := fun q hq => (hown3.lt q hq).1
        have hb5 := Below.grow hb3 hg5' hrw5
        have hown6 : w5.ownsRow w.heap.size 27 4 v8 (k + 1) (svs (Sht.fewK L (k + 1))) := by rw [HST.out, ← svs_snoc]; exact hown5
        clear hown5 hg5 hnil5 hg5' hown3
        go_wp2_with fail
        go_roundw
        case rel => exact ⟨k + 1, by omega, by omega, by go_num, hown6, hb5⟩
        case measure => simp [intOf]; omega
    · have hend := Sht.fewK_end L k (by rw [HN.out]; omega)
      have hll := Sht.fewK_len L k (by rw [HN.out]; exact hk)
      have HF : Hid (SlpPost w (Sht.few L) (.returned u3) wr) := ⟨u3, rfl, by rw [← hend, hll]; exact hown, hbw⟩
      clear hown hbw hend hll
      by_cases h1 : k < n
      · have h12 : k = 12 := by omega
        subst h12
        go_wp2_with fail
        go_ret
        exact HF.out
      · have hkn : k = n := by omega
        subst hkn
        go_wp2_with fail
        go_ret
        exact HF.out
end Go.Proofs.YtgjknfphmmlcdaaDoor
