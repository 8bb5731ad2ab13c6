/-
  The contract of SheetRoots.
-/
import Derived.Test.YtgjknfphmmlcdaaDoorShtAwake
import Derived.Test.YtgjknfphmmlcdaaDoorShtFew
import Derived.Test.YtgjknfphmmlcdaaDoorShtArg
namespace Go.Proofs.YtgjknfphmmlcdaaDoor
open Go.ChangeShapes Go.WideShapes Go.ChangeAt Go.RowKit
open Go.ChangeMaps (open_string shut_string)
set_option linter.unusedVariables false

namespace Sht
def erS (x : Slp) : Slp := ⟨x.n, x.p, [], true⟩
def ers (L : List Slp) : List Slp := L.map erS
theorem ers_step (L : List Slp) (k : Nat) (hk : k < L.length) : ers (L.take (k + 1)) = ers (L.take k) ++ [erS (L[k]'hk)] := by
  unfold ers
  rw [List.take_succ_eq_append_getElem hk, List.map_append]; rfl
theorem ers_len (L : List Slp) : (ers L).length = L.length := by unfold ers; rw [List.length_map]
theorem ers_leaves (l : List Mill.En) (L : List Slp) : leaves l (ers L) = leaves l L := by
  unfold leaves ers
  rw [List.map_map]
  rfl
theorem ers_short {L : List Slp} (h : Short L) : Short (ers L) := fun x hx => by
  unfold ers at hx
  obtain ⟨y, hy, rfl⟩ := List.mem_map.1 hx
  exact h y hy
theorem few_short' (L : List Slp) : Short (few L) := fun x hx => by have := few_short L x hx; omega
end Sht
/-- The cells of a slip. -/
abbrev PL (b o : Nat) (n p c : List UInt8) (e : Bool) (W : World) : Prop :=
  W.cell? ⟨b, o, none⟩ = some (.string (S n)) ∧ W.cell? ⟨b, o + 1, none⟩ = some (.string (S p)) ∧ W.cell? ⟨b, o + 2, none⟩ = some (.string (S c)) ∧ W.cell? ⟨b, o + 3, none⟩ = some (.bool e)
theorem PL.keep {b o : Nat} {n p c : List UInt8} {e : Bool} {W W' : World} (h : PL b o n p c e W) (hb : W'.heap[b]? = W.heap[b]?) : PL b o n p c e W' :=
  ⟨World.cell_block hb h.1, World.cell_block hb h.2.1, World.cell_block hb h.2.2.1, World.cell_block hb h.2.2.2⟩
theorem OneK.awakeS {w0 W : World} {st : Mill.St} (h : OneK w0 W st) : Calls Tryd.prog 15 #[] W fun e w' => e = .returned (.bool true) ∧ Below w0.heap.size w0 w' :=
  (slAwake_any W h.m.t).mono fun e w' ⟨he, hb⟩ => ⟨he, h.b.trans (hb.mono h.b.size)⟩

set_option maxHeartbeats 4000000 in
set_option maxRecDepth 100000 in
theorem sheetRoots_any (A : Option Addr) (L : List Slp) (cap : Nat) (w : World) (hcap : L.length ≤ cap) (hcm : cap ≤ 9223372036854775807) (hrow : RowP w [] A L) (hT : Tabs w) :
    Calls Tryd.prog 3 #[.slice A L.length cap] w fun e w' => e = .returned (.bool true) ∧ Below w.heap.size w w' := by
  obtain ⟨i0, hi0, hz0, hz1, hz2⟩ := info_parts slinfo
  have HIN := Lib.hid (And.intro hi0 (And.intro hz0 (And.intro hz1 hz2))); clear hi0 hz0 hz1 hz2
  have HZC : (Value.agg #[.string ⟨#[]⟩, .string ⟨#[]⟩, .string ⟨#[]⟩, .bool false]).cells.size = 4 := rfl
  have HF := Lib.hid (fun W (hb : Below w.heap.size w W) => slFew_any A L cap W hcap hcm (RowC.below hrow hb))
  unfold SlpPost at HF
  have hshort := Sht.few_short' L
  have hfl := Sht.few_len L
  have hT2 := hT.2.2
  have HT := Lib.hid hT
  clear hT hrow
  generalize L.length = n0 at *
  generalize Sht.few L = R at *
  go_enter Tryd.func3, Tryd.ntmps3
  go_wp2_with fail
  refine (newMill_tv w).mono ?_
  rintro r1 w1 ⟨rfl, hM1, hb1, hs1⟩
  have H1 := OneK.made HT.out hM1 hb1
  have hf0 : Mill.fresh.sums = 0 := rfl
  generalize Mill.fresh = s0 at H1 hf0
  clear hM1
  go_wp2_with fail
  refine (HF.out _ hb1).mono ?_
  rintro r w2 ⟨v, rfl, hown2, hb2⟩
  have H2 := H1.below hb2
  have hz2 := hb2.size
  have hlow : ∀ x ∈ [w.heap.size + 1, w.heap.size], x < w1.heap.size := fun x hx => by simp only [List.mem_cons, List.not_mem_nil, or_false] at hx; omega
  obtain ⟨A2, cap2, rfl, hc2, hcm2, _, _, hR2⟩ := own_rowC (s := [w.heap.size + 1, w.heap.size]) hown2 hlow (by decide)
  have hcm2' : cap2 ≤ 9223372036854775807 := by simpa only [maxLen] using hcm2
  have HR2 := Lib.hid hR2
  have HW2 := Lib.hid H2
  clear hown2 hR2 hcm2 hb2 H1 H2
  go_wp2_with fail
  go_loopw [4, 5] (fun v4 v5 wr => ∃ (k : Nat) (ts : List (List UInt8)), k ≤ R.length ∧ v5 = .int .i64 (k : Int) ∧ wr.ownsRow w2.heap.size 27 4 v4 k (svs (Sht.ers (R.take k))) ∧ ts.length ≤ 2 * k ∧ MkW wr (w.heap.size + 1) w.heap.size none [] (Mill.steps [] ts s0) ∧ Mv w2 wr [w.heap.size + 1, w.heap.size]) (fun _ v5 _ => R.length - (intOf v5).toNat)
  case atStart => exact ⟨0, [], Nat.zero_le _, rfl, World.ownsRow_nil _ _ _ _, Nat.zero_le _, HW2.out.m, Mv.refl _ _⟩
  case round =>
    obtain ⟨k, ts, hk, rfl, hown, hts, hmk, hvk⟩ := hrel
    by_cases hlt : k < R.length
    · obtain ⟨b, off, rfl, hbl, hbs, hat⟩ := RowP.get HR2.out k hlt
      have hat3 : PL b (off + k * 4) (R[k]'hlt).n (R[k]'hlt).p (R[k]'hlt).c (R[k]'hlt).e wr := PL.keep hat (hvk.block b hbl hbs)
      have hsh := hshort _ (List.getElem_mem hlt)
      have hst := Sht.ers_step R k hlt
      generalize R[k]'hlt = x at hat3 hsh hst
      clear hat
      obtain ⟨xn, xp, xc, xe⟩ := x
      unfold Sht.erS at hst
      dsimp only at hat3 hsh hst
      have HST := Lib.hid hst; clear hst
      have hL1 := fun W st (hM : MkW W (w.heap.size + 1) w.heap.size none [] st) hs => shLeaf_any (w.heap.size + 1) w.heap.size none [] rfl st W xn xp hM hsh.1 hsh.2 hs
      have hL2 := fun W st (hM : MkW W (w.heap.size + 1) w.heap.size none [] st) hs => slLeaf_any (w.heap.size + 1) w.heap.size none [] rfl st W xn xp xc xe hM hsh.1 hsh.2 hs
      unfold MkPost at hL1 hL2
      generalize Sht.leaf [] xn xp = y at *
      have hql : ([Sht.leafT xn xp] : List (List UInt8)).length = 1 := rfl
      generalize [Sht.leafT xn xp] = q at *
      have HL := Lib.hid (And.intro hL1 hL2); clear hL1 hL2
      generalize Sht.ers (R.take k) = Q at *
      obtain ⟨r, hRN⟩ : ∃ r, R.length = r := ⟨_, rfl⟩
      rw [hRN] at hlt hk hfl hc2 ⊢
      have HRN := Lib.hid hRN; clear hRN
      have hyy : (y != y) = false := by simp
      have hbw2 : b < w2.heap.size := hbl
      have hbr : b < wr.heap.size := Nat.lt_of_lt_of_le hbl hvk.size
      have H0 := Lib.hid (And.intro hmk (And.intro hvk hts)); clear hmk hvk hts
      have hsz := H0.out.2.1.size
      go_upto_region 7 with (fail)
      have hx : PL b (off + k * 4) xn xp xc xe wr.drew := hat3
      have hown0 := hown
      clear hat3 hown
      refine wp_region_held_drew (S := PL b (off + k * 4) xn xp xc xe) (by kernel_rfl) hx (fun hHeld => ?_)
      first
      | (refine take_wanted (i := 0) (v := ?_) rfl rfl (by kernel_rfl) (by kernel_rfl) (by kernel_rfl) (fun _ _ _ h => h) (by rfl) (by assumption) ?_ ?_; rotate_left; (focus (intro w hSw; (try dsimp only at hSw); go_simp; first | done | with_reducible rfl)); (simp only [Act.at, List.setIfInBounds_toArray, List.set_cons_zero, List.set_cons_succ]))
      | (refine take_unwanted (i := 0) rfl rfl (by kernel_rfl) (by kernel_rfl) (by kernel_rfl) (fun _ _ _ h => h) (by rfl) (by assumption) ?_; (simp only [Act.at, List.setIfInBounds_toArray, List.set_cons_zero, List.set_cons_succ]))
      first
      | (refine take_wanted (i := 1) (v := ?_) rfl rfl (by kernel_rfl) (by kernel_rfl) (by kernel_rfl) (fun _ _ _ h => h) (by rfl) (by assumption) ?_ ?_; rotate_left; (focus (intro w hSw; (try dsimp only at hSw); go_simp; first | done | with_reducible rfl)); (simp only [Act.at, List.setIfInBounds_toArray, List.set_cons_zero, List.set_cons_succ]))
      | (refine take_unwanted (i := 1) rfl rfl (by kernel_rfl) (by kernel_rfl) (by kernel_rfl) (fun _ _ _ h => h) (by rfl) (by assumption) ?_; (simp only [Act.at, List.setIfInBounds_toArray, List.set_cons_zero, List.set_cons_succ]))
      first
      | (refine take_wanted (i := 2) (v := ?_) rfl rfl (by kernel_rfl) (by kernel_rfl) (by kernel_rfl) (fun _ _ _ h => h) (by rfl) (by assumption) ?_ ?_; rotate_left; (focus (intro w hSw; (try dsimp only at hSw); go_simp; first | done | with_reducible rfl)); (simp only [Act.at, List.setIfInBounds_toArray, List.set_cons_zero, List.set_cons_succ]))
      | (refine take_unwanted (i := 2) rfl rfl (by kernel_rfl) (by kernel_rfl) (by kernel_rfl) (fun _ _ _ h => h) (by rfl) (by assumption) ?_; (simp only [Act.at, List.setIfInBounds_toArray, List.set_cons_zero, List.set_cons_succ]))
      first
      | (refine take_wanted (i := 3) (v := ?_) rfl rfl (by kernel_rfl) (by kernel_rfl) (by kernel_rfl) (fun _ _ _ h => h) (by rfl) (by assumption) ?_ ?_; rotate_left; (focus (intro w hSw; (try dsimp only at hSw); go_simp; first | done | with_reducible rfl)); (simp only [Act.at, List.setIfInBounds_toArray, List.set_cons_zero, List.set_cons_succ]))
      | (refine take_unwanted (i := 3) rfl rfl (by kernel_rfl) (by kernel_rfl) (by kernel_rfl) (fun _ _ _ h => h) (by rfl) (by assumption) ?_; (simp only [Act.at, List.setIfInBounds_toArray, List.set_cons_zero, List.set_cons_succ]))
      first
      | (refine take_wanted (i := 4) (v := ?_) rfl rfl (by kernel_rfl) (by kernel_rfl) (by kernel_rfl) (fun _ _ _ h => h) (by rfl) (by assumption) ?_ ?_; rotate_left; (focus (intro w hSw; (try dsimp only at hSw); go_simp; first | done | with_reducible rfl)); (simp only [Act.at, List.setIfInBounds_toArray, List.set_cons_zero, List.set_cons_succ]))
      | (refine take_unwanted (i := 4) rfl rfl (by kernel_rfl) (by kernel_rfl) (by kernel_rfl) (fun _ _ _ h => h) (by rfl) (by assumption) ?_; (simp only [Act.at, List.setIfInBounds_toArray, List.set_cons_zero, List.set_cons_succ]))
      first
      | (refine take_wanted (i := 5) (v := ?_) rfl rfl (by kernel_rfl) (by kernel_rfl) (by kernel_rfl) (fun _ _ _ h => h) (by rfl) (by assumption) ?_ ?_; rotate_left; (focus (intro w hSw; (try dsimp only at hSw); go_simp; first | done | with_reducible rfl)); (simp only [Act.at, List.setIfInBounds_toArray, List.set_cons_zero, List.set_cons_succ]))
      | (refine take_unwanted (i := 5) rfl rfl (by kernel_rfl) (by kernel_rfl) (by kernel_rfl) (fun _ _ _ h => h) (by rfl) (by assumption) ?_; (simp only [Act.at, List.setIfInBounds_toArray, List.set_cons_zero, List.set_cons_succ]))
      first
      | (refine take_wanted (i := 6) (v := ?_) rfl rfl (by kernel_rfl) (by kernel_rfl) (by kernel_rfl) (fun _ _ _ h => h) (by rfl) (by assumption) ?_ ?_; rotate_left; (focus (intro w hSw; (try dsimp only at hSw); go_simp; first | done | with_reducible rfl)); (simp only [Act.at, List.setIfInBounds_toArray, List.set_cons_zero, List.set_cons_succ]))
      | (refine take_unwanted (i := 6) rfl rfl (by kernel_rfl) (by kernel_rfl) (by kernel_rfl) (fun _ _ _ h => h) (by rfl) (by assumption) ?_; (simp only [Act.at, List.setIfInBounds_toArray, List.set_cons_zero, List.set_cons_succ]))
      first
      | (refine take_wanted (i := 7) (v := ?_) rfl rfl (by kernel_rfl) (by kernel_rfl) (by kernel_rfl) (fun _ _ _ h => h) (by rfl) (by assumption) ?_ ?_; rotate_left; (focus (intro w hSw; (try dsimp only at hSw); go_simp; first | done | with_reducible rfl)); (simp only [Act.at, List.setIfInBounds_toArray, List.set_cons_zero, List.set_cons_succ]))
      | (refine take_unwanted (i := 7) rfl rfl (by kernel_rfl) (by kernel_rfl) (by kernel_rfl) (fun _ _ _ h => h) (by rfl) (by assumption) ?_; (simp only [Act.at, List.setIfInBounds_toArray, List.set_cons_zero, List.set_cons_succ]))
      first
      | (refine take_wanted (i := 8) (v := ?_) rfl rfl (by kernel_rfl) (by kernel_rfl) (by kernel_rfl) (fun _ _ _ h => h) (by rfl) (by assumption) ?_ ?_; rotate_left; (focus (intro w hSw; (try dsimp only at hSw); go_simp; first | done | with_reducible rfl)); (simp only [Act.at, List.setIfInBounds_toArray, List.set_cons_zero, List.set_cons_succ]))
      | (refine take_unwanted (i := 8) rfl rfl (by kernel_rfl) (by kernel_rfl) (by kernel_rfl) (fun _ _ _ h => h) (by rfl) (by assumption) ?_; (simp only [Act.at, List.setIfInBounds_toArray, List.set_cons_zero, List.set_cons_succ]))
      first
      | (refine take_wanted (i := 9) (v := ?_) rfl rfl (by kernel_rfl) (by kernel_rfl) (by kernel_rfl) (fun _ _ _ h => h) (by rfl) (by assumption) ?_ ?_; rotate_left; (focus (intro w hSw; (try dsimp only at hSw); go_simp; first | done | with_reducible rfl)); (simp only [Act.at, List.setIfInBounds_toArray, List.set_cons_zero, List.set_cons_succ]))
      | (refine take_unwanted (i := 9) rfl rfl (by kernel_rfl) (by kernel_rfl) (by kernel_rfl) (fun _ _ _ h => h) (by rfl) (by assumption) ?_; (simp only [Act.at, List.setIfInBounds_toArray, List.set_cons_zero, List.set_cons_succ]))
      first
      | (refine take_wanted (i := 10) (v := ?_) rfl rfl (by kernel_rfl) (by kernel_rfl) (by kernel_rfl) (fun _ _ _ h => h) (by rfl) (by assumption) ?_ ?_; rotate_left; (focus (intro w hSw; (try dsimp only at hSw); go_simp; first | done | with_reducible rfl)); (simp only [Act.at, List.setIfInBounds_toArray, List.set_cons_zero, List.set_cons_succ]))
      | (refine take_unwanted (i := 10) rfl rfl (by kernel_rfl) (by kernel_rfl) (by kernel_rfl) (fun _ _ _ h => h) (by rfl) (by assumption) ?_; (simp only [Act.at, List.setIfInBounds_toArray, List.set_cons_zero, List.set_cons_succ]))
      first
      | (refine take_wanted (i := 11) (v := ?_) rfl rfl (by kernel_rfl) (by kernel_rfl) (by kernel_rfl) (fun _ _ _ h => h) (by rfl) (by assumption) ?_ ?_; rotate_left; (focus (intro w hSw; (try dsimp only at hSw); go_simp; first | done | with_reducible rfl)); (simp only [Act.at, List.setIfInBounds_toArray, List.set_cons_zero, List.set_cons_succ]))
      | (refine take_unwanted (i := 11) rfl rfl (by kernel_rfl) (by kernel_rfl) (by kernel_rfl) (fun _ _ _ h => h) (by rfl) (by assumption) ?_; (simp only [Act.at, List.setIfInBounds_toArray, List.set_cons_zero, List.set_cons_succ]))
      refine take_call (i := 12) (by kernel_rfl) rfl rfl (by rfl) (fun K hK => ?_)
      go_simp
      have hown3 : (wr.alloc (.cells #[.string (S xn), .string (S xp), .string ⟨#[]⟩, .bool true] 27)).drew.ownsRow w2.heap.size 27 4 u4 k (svs Q) := own_below (hown0.alloc _) (Below.drew (Below.refl _ _))
      have hx1 : PL b (off + k * 4) xn xp xc xe (wr.alloc (.cells #[.string (S xn), .string (S xp), .string ⟨#[]⟩, .bool true] 27)).drew := PL.keep hx (Below.heap_alloc wr _ _ hbr)
      have hmade := made_slip wr xn xp [] true
      have hmade3 : ∀ (j : Nat) (u : Value), (⟨xn, xp, [], true⟩ : Slp).cs[j]? = some u → (wr.alloc (.cells #[.string (S xn), .string (S xp), .string ⟨#[]⟩, .bool true] 27)).drew.cell? ((⟨wr.heap.size, 0, none⟩ : Addr).add j) = some u := hmade
      have hM3 : MkW (wr.alloc (.cells #[.string (S xn), .string (S xp), .string ⟨#[]⟩, .bool true] 27)).drew (w.heap.size + 1) w.heap.size none [] (Mill.steps [] ts s0) := (H0.out.1.below (belowB wr _)).below (Below.drew (Below.refl _ _))
      have hv3 : Mv w2 (wr.alloc (.cells #[.string (S xn), .string (S xp), .string ⟨#[]⟩, .bool true] 27)).drew [w.heap.size + 1, w.heap.size] := (H0.out.2.1.trans (Mv.of_below (belowB wr _) _)).drew
      generalize (wr.alloc (.cells #[.string (S xn), .string (S xp), .string ⟨#[]⟩, .bool true] 27)).drew = w3 at *
      generalize wr.heap.size = gb at *
      have H3 := Lib.hid (And.intro hM3 hv3)
      have hts' := H0.out.2.2
      clear hown0 hmade hM3 hv3 H0 hx hHeld
      refine hK.out _ _ hx1 (fun hHeld => ?_)
      clear hK K
      try simp only [Act.put, List.setIfInBounds_toArray, List.set_cons_zero, List.set_cons_succ]
      refine take_call (i := 13) (by kernel_rfl) rfl rfl (by rfl) (fun K hK => ?_)
      refine wp_append_own w3 (.tmp 16) (.tmp 28) 22 rfl w2.heap.size 27 i0 (.agg #[.string ⟨#[]⟩, .string ⟨#[]⟩, .string ⟨#[]⟩, .bool false]) 4 56 Tryd.underlying22 HIN.out.1 HIN.out.2.1 HIN.out.2.2.1 HIN.out.2.2.2 HZC (by decide) u4 k (svs Q) rfl hown3 ⟨gb, 0, none⟩ 1 1 (⟨xn, xp, [], true⟩ : Slp).cs rfl rfl hmade3 (by simp [Slp.cs, Value.oneCell']) (by simp only [maxLen]; omega) (by omega) H3.out.2.size ?_
      intro v8 w5 hown5 hg5 _
      have hrw5 : ∀ q, u4.ownBlock = some q → w2.heap.size ≤ q := fun q hq => (hown3.lt q hq).1
      have hx5 := PL.keep hx1 (hg5.block b (by have := H3.out.2.size; omega) (fun e => by have := hrw5 b e.symm; omega))
      have hv5 := H3.out.2.own hg5 hrw5
      have hm5 := MkW.own HW2.out.m H3.out.1 hg5 hrw5
      have hown6 : w5.ownsRow w2.heap.size 27 4 v8 (k + 1) (svs (Sht.ers (R.take (k + 1)))) := by rw [HST.out, ← svs_snoc]; exact hown5
      clear hown5 hg5 hrw5 hown3 hmade3 hx1 hHeld H3
      refine hK.out _ _ hx5 (fun hHeld => ?_)
      clear hK K
      try simp only [Act.put, List.setIfInBounds_toArray]
      first
      | (refine take_wanted (i := 14) (v := ?_) rfl rfl (by kernel_rfl) (by kernel_rfl) (by kernel_rfl) (fun _ _ _ h => h) (by rfl) (by assumption) ?_ ?_; rotate_left; (focus (intro w hSw; (try dsimp only at hSw); go_simp; first | done | with_reducible rfl)); (simp only [Act.at]))
      | (refine take_unwanted (i := 14) rfl rfl (by kernel_rfl) (by kernel_rfl) (by kernel_rfl) (fun _ _ _ h => h) (by rfl) (by assumption) ?_; (simp only [Act.at, List.setIfInBounds_toArray, List.set_cons_zero, List.set_cons_succ]))
      refine wpAnyH_done (by kernel_rfl) ?_ _
      go_upto_region 8 with (fail)
      have hx6 : PL b (off + k * 4) xn xp xc xe w5.drew := hx5
      have hb5 : b < w5.drew.heap.size := Nat.lt_of_lt_of_le hbw2 hv5.size
      have H6 := Lib.hid (And.intro (hm5.below (Below.drew (Below.refl w5.heap.size w5))) (And.intro hv5.drew (own_below hown6 (Below.drew (Below.refl w5.heap.size w5))))); clear hx5 hm5 hv5 hown6 hHeld
      refine wp_region_held_drew (S := PL b (off + k * 4) xn xp xc xe) (by kernel_rfl) hx6 (fun hHeld => ?_)
      first
      | (refine take_wanted (i := 0) (v := ?_) rfl rfl (by kernel_rfl) (by kernel_rfl) (by kernel_rfl) (fun _ _ _ h => h) (by rfl) (by assumption) ?_ ?_; rotate_left; (focus (intro w hSw; (try dsimp only at hSw); go_simp; first | done | with_reducible rfl)); (simp only [Act.at]))
      | (refine take_unwanted (i := 0) rfl rfl (by kernel_rfl) (by kernel_rfl) (by kernel_rfl) (fun _ _ _ h => h) (by rfl) (by assumption) ?_; (simp only [Act.at, List.setIfInBounds_toArray, List.set_cons_zero, List.set_cons_succ]))
      first
      | (refine take_wanted (i := 1) (v := ?_) rfl rfl (by kernel_rfl) (by kernel_rfl) (by kernel_rfl) (fun _ _ _ h => h) (by rfl) (by assumption) ?_ ?_; rotate_left; (focus (intro w hSw; (try dsimp only at hSw); go_simp; first | done | with_reducible rfl)); (simp only [Act.at]))
      | (refine take_unwanted (i := 1) rfl rfl (by kernel_rfl) (by kernel_rfl) (by kernel_rfl) (fun _ _ _ h => h) (by rfl) (by assumption) ?_; (simp only [Act.at, List.setIfInBounds_toArray, List.set_cons_zero, List.set_cons_succ]))
      first
      | (refine take_wanted (i := 2) (v := ?_) rfl rfl (by kernel_rfl) (by kernel_rfl) (by kernel_rfl) (fun _ _ _ h => h) (by rfl) (by assumption) ?_ ?_; rotate_left; (focus (intro w hSw; (try dsimp only at hSw); go_simp; first | done | with_reducible rfl)); (simp only [Act.at]))
      | (refine take_unwanted (i := 2) rfl rfl (by kernel_rfl) (by kernel_rfl) (by kernel_rfl) (fun _ _ _ h => h) (by rfl) (by assumption) ?_; (simp only [Act.at, List.setIfInBounds_toArray, List.set_cons_zero, List.set_cons_succ]))
      first
      | (refine take_wanted (i := 3) (v := ?_) rfl rfl (by kernel_rfl) (by kernel_rfl) (by kernel_rfl) (fun _ _ _ h => h) (by rfl) (by assumption) ?_ ?_; rotate_left; (focus (intro w hSw; (try dsimp only at hSw); go_simp; first | done | with_reducible rfl)); (simp only [Act.at]))
      | (refine take_unwanted (i := 3) rfl rfl (by kernel_rfl) (by kernel_rfl) (by kernel_rfl) (fun _ _ _ h => h) (by rfl) (by assumption) ?_; (simp only [Act.at, List.setIfInBounds_toArray, List.set_cons_zero, List.set_cons_succ]))
      first
      | (refine take_wanted (i := 4) (v := ?_) rfl rfl (by kernel_rfl) (by kernel_rfl) (by kernel_rfl) (fun _ _ _ h => h) (by rfl) (by assumption) ?_ ?_; rotate_left; (focus (intro w hSw; (try dsimp only at hSw); go_simp; first | done | with_reducible rfl)); (simp only [Act.at]))
      | (refine take_unwanted (i := 4) rfl rfl (by kernel_rfl) (by kernel_rfl) (by kernel_rfl) (fun _ _ _ h => h) (by rfl) (by assumption) ?_; (simp only [Act.at, List.setIfInBounds_toArray, List.set_cons_zero, List.set_cons_succ]))
      first
      | (refine take_wanted (i := 5) (v := ?_) rfl rfl (by kernel_rfl) (by kernel_rfl) (by kernel_rfl) (fun _ _ _ h => h) (by rfl) (by assumption) ?_ ?_; rotate_left; (focus (intro w hSw; (try dsimp only at hSw); go_simp; first | done | with_reducible rfl)); (simp only [Act.at]))
      | (refine take_unwanted (i := 5) rfl rfl (by kernel_rfl) (by kernel_rfl) (by kernel_rfl) (fun _ _ _ h => h) (by rfl) (by assumption) ?_; (simp only [Act.at, List.setIfInBounds_toArray, List.set_cons_zero, List.set_cons_succ]))
      first
      | (refine take_wanted (i := 6) (v := ?_) rfl rfl (by kernel_rfl) (by kernel_rfl) (by kernel_rfl) (fun _ _ _ h => h) (by rfl) (by assumption) ?_ ?_; rotate_left; (focus (intro w hSw; (try dsimp only at hSw); go_simp; first | done | with_reducible rfl)); (simp only [Act.at]))
      | (refine take_unwanted (i := 6) rfl rfl (by kernel_rfl) (by kernel_rfl) (by kernel_rfl) (fun _ _ _ h => h) (by rfl) (by assumption) ?_; (simp only [Act.at, List.setIfInBounds_toArray, List.set_cons_zero, List.set_cons_succ]))
      first
      | (refine take_wanted (i := 7) (v := ?_) rfl rfl (by kernel_rfl) (by kernel_rfl) (by kernel_rfl) (fun _ _ _ h => h) (by rfl) (by assumption) ?_ ?_; rotate_left; (focus (intro w hSw; (try dsimp only at hSw); go_simp; first | done | with_reducible rfl)); (simp only [Act.at]))
      | (refine take_unwanted (i := 7) rfl rfl (by kernel_rfl) (by kernel_rfl) (by kernel_rfl) (fun _ _ _ h => h) (by rfl) (by assumption) ?_; (simp only [Act.at, List.setIfInBounds_toArray, List.set_cons_zero, List.set_cons_succ]))
      first
      | (refine take_wanted (i := 8) (v := ?_) rfl rfl (by kernel_rfl) (by kernel_rfl) (by kernel_rfl) (fun _ _ _ h => h) (by rfl) (by assumption) ?_ ?_; rotate_left; (focus (intro w hSw; (try dsimp only at hSw); go_simp; first | done | with_reducible rfl)); (simp only [Act.at]))
      | (refine take_unwanted (i := 8) rfl rfl (by kernel_rfl) (by kernel_rfl) (by kernel_rfl) (fun _ _ _ h => h) (by rfl) (by assumption) ?_; (simp only [Act.at, List.setIfInBounds_toArray, List.set_cons_zero, List.set_cons_succ]))
      first
      | (refine take_wanted (i := 9) (v := ?_) rfl rfl (by kernel_rfl) (by kernel_rfl) (by kernel_rfl) (fun _ _ _ h => h) (by rfl) (by assumption) ?_ ?_; rotate_left; (focus (intro w hSw; (try dsimp only at hSw); go_simp; first | done | with_reducible rfl)); (simp only [Act.at]))
      | (refine take_unwanted (i := 9) rfl rfl (by kernel_rfl) (by kernel_rfl) (by kernel_rfl) (fun _ _ _ h => h) (by rfl) (by assumption) ?_; (simp only [Act.at, List.setIfInBounds_toArray, List.set_cons_zero, List.set_cons_succ]))
      first
      | (refine take_wanted (i := 10) (v := ?_) rfl rfl (by kernel_rfl) (by kernel_rfl) (by kernel_rfl) (fun _ _ _ h => h) (by rfl) (by assumption) ?_ ?_; rotate_left; (focus (intro w hSw; (try dsimp only at hSw); go_simp; first | done | with_reducible rfl)); (simp only [Act.at]))
      | (refine take_unwanted (i := 10) rfl rfl (by kernel_rfl) (by kernel_rfl) (by kernel_rfl) (fun _ _ _ h => h) (by rfl) (by assumption) ?_; (simp only [Act.at, List.setIfInBounds_toArray, List.set_cons_zero, List.set_cons_succ]))
      first
      | (refine take_wanted (i := 12) (v := ?_) rfl rfl (by kernel_rfl) (by kernel_rfl) (by kernel_rfl) (fun _ _ _ h => h) (by rfl) (by assumption) ?_ ?_; rotate_left; (focus (intro w hSw; (try dsimp only at hSw); go_simp; first | done | with_reducible rfl)); (simp only [Act.at]))
      | (refine take_unwanted (i := 12) rfl rfl (by kernel_rfl) (by kernel_rfl) (by kernel_rfl) (fun _ _ _ h => h) (by rfl) (by assumption) ?_; (simp only [Act.at, List.setIfInBounds_toArray, List.set_cons_zero, List.set_cons_succ]))
      first
      | (refine take_wanted (i := 13) (v := ?_) rfl rfl (by kernel_rfl) (by kernel_rfl) (by kernel_rfl) (fun _ _ _ h => h) (by rfl) (by assumption) ?_ ?_; rotate_left; (focus (intro w hSw; (try dsimp only at hSw); go_simp; first | done | with_reducible rfl)); (simp only [Act.at]))
      | (refine take_unwanted (i := 13) rfl rfl (by kernel_rfl) (by kernel_rfl) (by kernel_rfl) (fun _ _ _ h => h) (by rfl) (by assumption) ?_; (simp only [Act.at, List.setIfInBounds_toArray, List.set_cons_zero, List.set_cons_succ]))
      first
      | (refine take_wanted (i := 14) (v := ?_) rfl rfl (by kernel_rfl) (by kernel_rfl) (by kernel_rfl) (fun _ _ _ h => h) (by rfl) (by assumption) ?_ ?_; rotate_left; (focus (intro w hSw; (try dsimp only at hSw); go_simp; first | done | with_reducible rfl)); (simp only [Act.at]))
      | (refine take_unwanted (i := 14) rfl rfl (by kernel_rfl) (by kernel_rfl) (by kernel_rfl) (fun _ _ _ h => h) (by rfl) (by assumption) ?_; (simp only [Act.at, List.setIfInBounds_toArray, List.set_cons_zero, List.set_cons_succ]))
      first
      | (refine take_wanted (i := 15) (v := ?_) rfl rfl (by kernel_rfl) (by kernel_rfl) (by kernel_rfl) (fun _ _ _ h => h) (by rfl) (by assumption) ?_ ?_; rotate_left; (focus (intro w hSw; (try dsimp only at hSw); go_simp; first | done | with_reducible rfl)); (simp only [Act.at]))
      | (refine take_unwanted (i := 15) rfl rfl (by kernel_rfl) (by kernel_rfl) (by kernel_rfl) (fun _ _ _ h => h) (by rfl) (by assumption) ?_; (simp only [Act.at, List.setIfInBounds_toArray, List.set_cons_zero, List.set_cons_succ]))
      first
      | (refine take_wanted (i := 16) (v := ?_) rfl rfl (by kernel_rfl) (by kernel_rfl) (by kernel_rfl) (fun _ _ _ h => h) (by rfl) (by assumption) ?_ ?_; rotate_left; (focus (intro w hSw; (try dsimp only at hSw); go_simp; first | done | with_reducible rfl)); (simp only [Act.at]))
      | (refine take_unwanted (i := 16) rfl rfl (by kernel_rfl) (by kernel_rfl) (by kernel_rfl) (fun _ _ _ h => h) (by rfl) (by assumption) ?_; (simp only [Act.at, List.setIfInBounds_toArray, List.set_cons_zero, List.set_cons_succ]))
      refine take_call (i := 11) (by kernel_rfl) rfl rfl (by rfl) (fun K hK => ?_)
      go_simp
      refine (HL.out.1 _ _ H6.out.1 (by rw [Mill.steps_sums]; omega)).mono ?_
      rintro e w7 ⟨rfl, hm7, hv7⟩
      have hx7 := PL.keep hx6 (hv7.block b hb5 hbs)
      have hb7 : b < w7.heap.size := Nat.lt_of_lt_of_le hb5 hv7.size
      have H7 := Lib.hid (And.intro hm7 (And.intro (H6.out.2.1.trans hv7) (own_mv H6.out.2.2 hv7 (fun x hx => Nat.lt_of_lt_of_le (hlow x hx) hz2)))); clear hx6 hm7 hv7 H6 hHeld hb5
      refine hK.out _ _ hx7 (fun hHeld => ?_)
      clear hK K
      try simp only [Act.put, List.setIfInBounds_toArray, List.set_cons_zero, List.set_cons_succ]
      refine take_call (i := 17) (by kernel_rfl) rfl rfl (by rfl) (fun K hK => ?_)
      go_simp
      refine (HL.out.2 _ _ H7.out.1 (by rw [Mill.steps_sums, Mill.steps_sums]; omega)).mono ?_
      rintro e w8 ⟨rfl, hm8, hv8⟩
      have hx8 := PL.keep hx7 (hv8.block b hb7 hbs)
      have H8 := Lib.hid (And.intro hm8 (And.intro (H7.out.2.1.trans hv8) (own_mv H7.out.2.2 hv8 (fun x hx => Nat.lt_of_lt_of_le (hlow x hx) hz2)))); clear hx7 hm8 hv8 H7 hHeld hb7
      refine hK.out _ _ hx8 (fun hHeld => ?_)
      clear hK K
      try simp only [Act.put, List.setIfInBounds_toArray, List.set_cons_zero, List.set_cons_succ]
      first
      | (refine take_wanted (i := 18) (v := ?_) rfl rfl (by kernel_rfl) (by kernel_rfl) (by kernel_rfl) (fun _ _ _ h => h) (by rfl) (by assumption) ?_ ?_; rotate_left; (focus (intro w hSw; (try dsimp only at hSw); go_simp; first | done | with_reducible rfl)); (simp only [Act.at, List.setIfInBounds_toArray, List.set_cons_zero, List.set_cons_succ]))
      | (refine take_unwanted (i := 18) rfl rfl (by kernel_rfl) (by kernel_rfl) (by kernel_rfl) (fun _ _ _ h => h) (by rfl) (by assumption) ?_; (simp only [Act.at, List.setIfInBounds_toArray, List.set_cons_zero, List.set_cons_succ]))
      refine wpAnyH_done (by kernel_rfl) ?_ _
      go_wp2_with fail
      go_roundw
      case rel => exact ⟨k + 1, ts ++ q ++ q, by omega, by go_num, H8.out.2.2, by rw [List.length_append, List.length_append]; omega, by rw [Mill.steps_app, Mill.steps_app]; exact H8.out.1, H8.out.2.1⟩
      case measure => simp [intOf]; omega
    · have hkn : k = R.length := by omega
      subst hkn
      rw [List.take_length] at hown
      obtain ⟨A3, cap3, rfl, hc3, hcm3, _, _, hR3⟩ := own_rowC (s := [w.heap.size + 1, w.heap.size]) hown (fun x hx => Nat.lt_of_lt_of_le (hlow x hx) hz2) (by decide)
      have hcm3' : cap3 ≤ 9223372036854775807 := by simpa only [maxLen] using hcm3
      have hRw := RowC.mv HR2.out hvk (fun x hx => hx)
      have hLv := slLeaves_any (w.heap.size + 1) w.heap.size none [] rfl A2 R cap2 (Mill.steps [] ts s0) wr (by omega) hc2 hcm2' hRw hshort (by rw [Mill.steps_sums]; omega) hmk
      have hMR := fun W A4 cap4 (st : Mill.St) (hrow : RowS W [w.heap.size + 1, w.heap.size] A4 (Sht.leaves [] R)) (hs : st.sums ≤ 1000) (hc : (Sht.leaves [] R).length ≤ cap4) (hm : cap4 ≤ 9223372036854775807) => mkRoot_any (w.heap.size + 1) w.heap.size none [] rfl A4 (Sht.leaves [] R) cap4 st W (by rw [Sht.leaves_len]; omega) hc hm hrow (fun s hx => by rw [Sht.leaves_sums [] rfl R s hx]; omega) (by rw [Sht.leaves_len]; omega)
      have hR1 := fun W st (hW : RowP W [w.heap.size + 1, w.heap.size] A2 R) (hs : st.sums ≤ 1000) => shRoot_any (w.heap.size + 1) w.heap.size none [] rfl A2 R cap2 st W (by omega) hc2 hcm2' hW hshort (by omega)
      have hR4 := fun W st (hW : RowP W [w.heap.size + 1, w.heap.size] A3 (Sht.ers R)) (hs : st.sums ≤ 1000) => shRoot_any (w.heap.size + 1) w.heap.size none [] rfl A3 (Sht.ers R) cap3 st W (by rw [Sht.ers_len]; omega) (by rw [Sht.ers_len]; exact hc3) hcm3' hW (Sht.ers_short hshort) (by omega)
      rw [Sht.ers_leaves] at hR4
      simp only [Sht.ers_len] at hR4
      have hq1 := Sht.rootT_len [] R
      have hq2 := (Mk.rootAsks_len [] _ (Sht.leaves [] R) rfl).1
      have hll := Sht.leaves_len [] R
      unfold RowPost at hLv
      unfold MkPost at hMR hR1 hR4
      generalize Mk.root [] (Sht.leaves [] R) = y at *
      generalize Mk.rootAsks [] (Sht.leaves [] R) = ra at *
      generalize Sht.rootT [] R = rt at *
      generalize Sht.rootT [] (Sht.ers R) = rt2 at *
      rw [hll] at hLv hMR hq2
      have HLv := Lib.hid hLv; clear hLv
      have HMR := Lib.hid hMR; clear hMR
      have HRR := Lib.hid (And.intro hR1 hR4); clear hR1 hR4
      have HB := Lib.hid (And.intro HW2.out.b (And.intro hvk (And.intro hRw hR3)))
      clear hown hvk hRw hR3 hmk hshort
      have hyy : (y == y) = true := by simp
      generalize Sht.leaves [] R = Lv at *
      generalize R.length = r at *
      go_wp2_with fail
      refine (HLv.out).mono ?_
      rintro e w3 ⟨v3, ts3, rfl, hown3, hts3, hm3, hv3⟩
      obtain ⟨A4, cap4, rfl, hc4, hcm4, _, _, hR4⟩ := own_rowC (s := [w.heap.size + 1, w.heap.size]) hown3 (fun x hx => Nat.lt_of_lt_of_le (hlow x hx) (Nat.le_trans hz2 HB.out.2.1.size)) (by decide)
      have hcm4' : cap4 ≤ 9223372036854775807 := by simpa only [maxLen] using hcm4
      have H3 := Lib.hid (And.intro hm3 (And.intro hv3 (RowS.ofC hR4))); clear hm3 hv3 hR4 hown3
      rw [← Mill.steps_app] at H3
      go_wp2_with fail
      refine (HMR.out w3 A4 cap4 _ H3.out.2.2 (by rw [Mill.steps_sums, List.length_append]; omega) hc4 hcm4' H3.out.1).mono ?_
      rintro e w4 ⟨rfl, hm4, hv4⟩
      have H4 := Lib.hid (And.intro hm4 (And.intro (H3.out.2.1.trans hv4) (by rw [Mill.steps_sums, Mill.steps_sums, List.length_append]; omega : (Mill.steps [] ra (Mill.steps [] (ts ++ ts3) s0)).sums ≤ 100))); clear hm4 hv4 H3
      generalize Mill.steps [] ra (Mill.steps [] (ts ++ ts3) s0) = s4 at *
      go_wp2_with fail
      refine (HRR.out.1 w4 s4 (RowC.mv HB.out.2.2.1 H4.out.2.1 (fun x hx => hx)) (by have := H4.out.2.2; omega) H4.out.1).mono ?_
      rintro e w5 ⟨rfl, hm5, hv5⟩
      have H5 := Lib.hid (And.intro hm5 (And.intro (H4.out.2.1.trans hv5) (by rw [Mill.steps_sums]; have := H4.out.2.2; omega : (Mill.steps [] rt s4).sums ≤ 200))); clear hm5 hv5 H4
      go_wp2_with fail
      refine (HRR.out.2 w5 _ (RowC.mv HB.out.2.2.2 H5.out.2.1 (fun x hx => hx)) (by have := H5.out.2.2; omega) H5.out.1).mono ?_
      rintro e w6 ⟨rfl, hm6, hv6⟩
      have hv := HB.out.2.1.trans (H5.out.2.1.trans hv6)
      have hone : OneK w w6 _ := ⟨hm6, slip_tied hv (by omega) (Nat.le_refl _) HB.out.1.size HB.out.1⟩
      have HO := Lib.hid hone; clear hone hm6 hv6 hv H5
      go_wp2_with fail
      refine (HO.out.awakeS).mono ?_
      rintro e w7 ⟨rfl, hb7⟩
      go_wp2_with fail
      go_ret
      exact ⟨rfl, hb7⟩
set_option maxRecDepth 100000 in
theorem sheetRoots_contract {H : Type} (enc : TypeId × Value → H) (W : World) (base : Nat) (args : Array Value) (ds gs : List (DataW H)) (before : List MemPlace)
    (hval : ∀ (j : Nat) t v, Tryd.f3.params[j]? = some t → args[j]? = some v → Value.okWide Tryd.prog W .any base t v)
    (hW : DataW.Whole enc Tryd.prog Tryd.f3.params.toList Rows.sheetRootsSpec.vars false W args.toList ds gs before)
    (hsz : (DataW.weightsEach Tryd.prog (Tryd.f3.params.toList ++ Rows.sheetRootsSpec.plain.varTypes Tryd.prog) (ds ++ gs)).all (· ≤ reachBytes) = true) (hT : Tabs W) :
    Calls Tryd.prog 3 args W fun e W' =>
      ((Rows.sheetRootsSpec.fn H (ds ++ gs)).results = [.lit (.bool true)] ∧ (Rows.sheetRootsSpec.fn H (ds ++ gs)).args = ds ∧ (Rows.sheetRootsSpec.fn H (ds ++ gs)).vars = []) ∧ e = .returned (.bool true) ∧ Below W.heap.size W W' := by
  obtain ⟨p, q, hA0, hV, rfl, hfz, hnd⟩ := hW
  have hA : DataW.TrodAll enc Tryd.prog W 0 (fun _ => true) true Tryd.f3.params.toList args.toList ds p := hA0
  rw [Tryd.params3] at hA hval hsz
  obtain ⟨v0, d0, rfl, rfl, h0⟩ := trodAll_one hA
  obtain ⟨rfl, rfl⟩ := trodVars_none hV
  obtain ⟨A_l, len_l, cap_l, rfl⟩ := okWide_slice Tryd.underlying22 (hval 0 22 v0 rfl rfl)
  obtain ⟨fuel_l, hf_l⟩ := h0
  obtain ⟨l_l, rfl, lc_l, cm_l, hR_l⟩ := slips_open hf_l
  exact (sheetRoots_any A_l l_l cap_l W lc_l cm_l hR_l hT).mono fun e W' h => ⟨⟨rfl, rfl, rfl⟩, h⟩

end Go.Proofs.YtgjknfphmmlcdaaDoor
