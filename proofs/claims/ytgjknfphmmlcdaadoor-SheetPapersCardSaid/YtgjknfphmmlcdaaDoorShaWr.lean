/-
  The contract of a state's Write: the walk.
-/
import Derived.Test.YtgjknfphmmlcdaaDoorShaWrite
import Derived.Test.YtgjknfphmmlcdaaDoorMix
namespace Go.Proofs.YtgjknfphmmlcdaaDoor
open Go.RowKit
set_option linter.unusedVariables false

theorem Only.setRow (w : World) (g : Nat) (cs : Array Value) : Only w (w.setRow g cs) g := ⟨rfl, rfl, rfl, by simp [World.setRow], fun k _ hn => setRow_other w g k cs (fun e => hn (by rw [e]))⟩
theorem b64info : (Tryd.prog.info? 122).map (·.size) = some 64 := by kernel_rfl
theorem set_range {w : World} {g i o : Nat} {u : Value} {cs : List Value} (h : w.rangeAt g o cs) (hi : i < o) : (w.setCell ⟨g, i, none⟩ u).rangeAt g o cs := fun j v hv => by
  rw [set_other w g i (o + j) u (by omega)]
  exact h j v hv
def strSz : Value → Nat
  | .string s => s.size
  | _ => 0
def WritePost (w : World) (g : Nat) (M : List UInt8) (e : Ending) (w' : World) : Prop := e = .returned (.tuple #[]) ∧ StAt w' 124 g M M.length ∧ Only w w' g

set_option maxRecDepth 100000 in
set_option maxHeartbeats 8000000 in
theorem write_st (M : List UInt8) (t g : Nat) (w : World) (h : StAt w 124 g M t) (ht : t ≤ M.length) (hM : M.length ≤ 10000000000000000) (hT : Tabs w) (hg : 2 ≤ g) :
    Calls Tryd.prog 54 #[.pointer (some ⟨g, 0, none⟩), .string (S (M.drop t))] w (WritePost w g M) := by
  have c73 := h.size.2
  have hTk : ∀ W, Only w W g → Tab Sha.kl W := fun W hW i hi => (World.cell?_of_block (a := ⟨1, i, none⟩) (hW.block 1 (by have := h.lt; omega) (fun e => by injection e with e; omega))).trans (hT.2.1 i hi)
  have hglt := h.lt
  go_enter Tryd.func54, Tryd.ntmps54
  go_wp2_with fail
  go_loopw [1] (fun v1 wr => ∃ t' : Nat, t' ≤ M.length ∧ v1 = .string (S (M.drop t')) ∧ StAt wr 124 g M t' ∧ Only w wr g) (fun v1 _ => strSz v1)
  case atStart => exact ⟨t, ht, rfl, h, Only.refl _ _⟩
  case round =>
    obtain ⟨t', ht', rfl, hst, hok⟩ := hrel
    by_cases hlt : t' < M.length
    · obtain ⟨blk, hb, hh, htk⟩ := hst
      have hll : (M.drop t').length = M.length - t' := List.length_drop ..
      have hdd : ∀ n, (M.drop t').drop n = M.drop (t' + n) := fun n => List.drop_drop ..
      have hnext := blk_next M blk t'
      obtain ⟨r, hr⟩ : ∃ r, t' % 64 = r := ⟨_, rfl⟩
      have hr64 : r < 64 := by rw [← hr]; exact Nat.mod_lt _ (by decide)
      obtain ⟨n, hn⟩ : ∃ n, Nat.min (M.drop t').length (64 - r) = n := ⟨_, rfl⟩
      have hn1 : n ≤ M.length - t' := by rw [← hn, hll]; exact Nat.min_le_left _ _
      have hn2 : n ≤ 64 - r := by rw [← hn]; exact Nat.min_le_right _ _
      have hn0 : 0 < n := by rw [← hn, hll]; exact Nat.lt_min.2 ⟨by omega, by omega⟩
      have hnx := hnext n hb (by omega) (by omega) htk
      rw [hr] at hnx
      have hxl : ((M.drop t').take n).length = n := by rw [List.length_take, hll]; omega
      have hsp := stc_splice (Sha.hashN M (t' / 64)) blk t' r ((M.drop t').take n) hb (by omega)
      rw [hxl] at hsp
      obtain ⟨blk2, hblk2⟩ : ∃ b2, blk.take r ++ ((M.drop t').take n ++ blk.drop (r + n)) = b2 := ⟨_, rfl⟩
      rw [hblk2] at hsp hnx
      have hb2 : blk2.length = 64 := by
        rw [← hblk2, List.length_append, List.length_append, hxl, List.length_take, List.length_drop, hb]; omega
      have hsl := stc_len (Sha.hashN M (t' / 64)) blk t' hb
      have hsz := stc_size (Sha.hashN M (t' / 64)) blk2 t' (t' + n) hb2
      have hc72 : wr.cell? ⟨g, 72, none⟩ = some (.int .i64 (t' : Int)) := (hh.cell 72).trans (stc_at _ _ _ hb).1
      have hrm : (t' : Int) % 64 = (r : Int) := by omega
      have hrt : (t' : Int).tmod 64 = (r : Int) := by rw [Int.tmod_eq_emod_of_nonneg (by omega)]; exact hrm
      have hr0 : (0 : Int) ≤ (r : Int) := by omega
      have hr63 : (r : Int) ≤ 64 := by omega
      have hrne : ¬ 64 = r := by omega
      have ht0 : (0 : Int) ≤ (t' : Int) := by omega
      have htM : (t' : Int) ≤ 10000000000000000 := by omega
      have hlen0 : (0 : Int) < ((M.drop t').length : Int) := by rw [hll]; omega
      have hn1' : (n : Int) ≤ ((M.drop t').length : Int) := by rw [hll]; omega
      have hn0' : (0 : Int) ≤ (n : Int) := by omega
      have hn64 : (n : Int) ≤ 64 := by omega
      have HLL := Lib.hid (And.intro hll (And.intro hr hn)); clear hll hr hn
      generalize hl : M.drop t' = l at *
      have HDD := Lib.hid hdd; clear hdd
      have HNX := Lib.hid hnx; clear hnx hnext htk
      have HSP := Lib.hid (And.intro hsp (And.intro hb2 (And.intro hsl hsz))); clear hsp hb2 hsl hsz hblk2
      have HL := Lib.hid hl; clear hl
      have HXL := Lib.hid hxl; clear hxl
      have HH := Lib.hid hh; clear hh hb h
      obtain ⟨sw, hsw⟩ : ∃ s, Sha.hashN M (t' / 64) = s := ⟨_, rfl⟩
      rw [hsw] at HSP HH
      have HSW := Lib.hid hsw; clear hsw
      obtain ⟨cur, hcur⟩ : ∃ c, stc sw blk t' = c := ⟨_, rfl⟩
      rw [hcur] at HSP HH
      clear hcur
      go_upto_region 2 with (fail)
      go_region_law (refine step_copy_text rfl (.tmp 25) (.tmp 26) 82 9 rfl 5 Tryd.underlying82 u8size g (8 + r) (64 - r) (64 - r) (by simp [Act.eval, Act.put]) l (by simp [Act.eval, Act.put]) cur 124 HH.out n HLL.out.2.2.symm (by rw [HSP.out.2.2.1]; omega) ?_; intro w2 hw2)
      all_goals
        have hh2 : Has w2 g 124 (stc sw blk2 t').toArray := by
          rw [hw2.out, ← HSP.out.1]
          exact setRow_heap _ g _ _ _ _ (show wr.drew.heap[g]? = _ from HH.out)
        have ho2 : Only w w2 g := by
          rw [hw2.out]
          exact (hok.trans (Only.drew _ _)).trans (Only.setRow _ _ _)
        have c72 : w2.cell? ⟨g, 72, none⟩ = some (.int .i64 (t' : Int)) := (hh2.cell 72).trans (stc_at _ _ _ HSP.out.2.1).1
        have f72 := hh2.free 72
        have hh3 := hh2.set 72 (.int .i64 ((t' + n : Nat) : Int))
        rw [HSP.out.2.2.2] at hh3
        have ho3 := ho2.trans (Only.set w2 g 72 (.int .i64 ((t' + n : Nat) : Int)))
        have e1 : ((t' + n : Nat) : Int) = (t' : Int) + (n : Int) := by omega
        rw [e1] at hh3 ho3
        have HH3 := Lib.hid hh3
        clear hw2 hh2 hh3 e1 ho2 c73 hc72
        by_cases hful : r + n = 64
        · have hmod : ((t' : Int) + (n : Int)) % 64 = 0 := by have := HLL.out.2.1; omega
          have hmodt : ((t' : Int) + (n : Int)).tmod 64 = 0 := by rw [Int.tmod_eq_emod_of_nonneg (by omega)]; exact hmod
          go_wp2_with fail
          generalize w2.setCell ⟨g, 72, none⟩ (.int .i64 ((t' : Int) + (n : Int))) = W0 at HH3 ho3 ⊢
          have hmx := fun W hW hW2 => mix_any sw blk2 [] Sha.kl HSP.out.2.1 W hW hW2
          rw [S8.vals_eq, show (wcells ((sw.rounds Sha.kl (sched blk2) 64).add sw).toList) = (Sha.mixB sw blk2).vals from rfl] at hmx
          unfold S8.vals at hmx
          have hT0 : Tab Sha.kl W0.drew := hTk W0.drew (ho3.trans (Only.drew _ _))
          have h20 : 2 ≤ W0.drew.heap.size := by have := ho3.size; have h := hglt; show 2 ≤ W0.heap.size; omega
          have hg0 : g < W0.drew.heap.size := by have := ho3.size; show g < W0.heap.size; omega
          have HH4 : Has W0.drew g 124 (stc sw blk2 (t' + n)).toArray := HH3.out
          obtain ⟨a0, a1, a2, a3, a4, a5, a6, a7⟩ := stc_words8 sw blk2 (t' + n) HH4
          obtain ⟨cw, hcw⟩ : ∃ c, sw.vals.toList = c := ⟨_, rfl⟩
          obtain ⟨cb, hcb⟩ : ∃ c, bcells blk2 = c := ⟨_, rfl⟩
          have hr0 : W0.drew.rangeAt g 0 cw := by rw [← hcw, ← S8.vals_eq]; exact stc_range0 sw blk2 (t' + n) HH4
          have hr8 : W0.drew.rangeAt g 8 cb := by rw [← hcb]; exact stc_range8 sw blk2 (t' + n) HH4
          have hi34 : (Tryd.prog.info? 122).map (·.size) = some cb.length := by
            have h64 : cb.length = 64 := by rw [← hcb]; simp [bcells, HSP.out.2.1]
            rw [h64]; exact b64info
          have hi33 : (Tryd.prog.info? 121).map (·.size) = some cw.length := by rw [← hcw]; kernel_rfl
          have hmy : Calls Tryd.prog 61 #[.agg cw.toArray, .agg cb.toArray] W0.drew (MixPost W0.drew (Sha.mixB sw blk2).vals.toList.toArray) := by
            have h := hmx W0.drew hT0 h20
            rw [← hcw, ← hcb]
            exact h
          have HMY := Lib.hid hmy
          clear hmy hmx hcw hcb a0 a1 a2 a3 a4 a5 a6 a7
          obtain ⟨cm, hcm⟩ : ∃ c, (Sha.mixB sw blk2).vals.toList = c := ⟨_, rfl⟩
          rw [hcm] at HMY
          have HCM := Lib.hid hcm; clear hcm
          refine wp_region_any (by kernel_rfl) ?_
          change wpAny _ _ _ _ _ _ _ (World.drew W0)
          have ho3W : Only w W0.drew g := ho3.trans (Only.drew _ _)
          generalize W0.drew = W1 at hT0 h20 hg0 HH4 hr0 hr8 HMY ho3W ⊢
          refine wpAny_take (i := 0) (oi := ({ dst := some 45, op := Op.move (Operand.tmp 0), type := 112, pos := "sha.go:35", after := #[], guard := none } : Oper)) (v := .pointer (some ⟨g, 0, none⟩)) rfl (by kernel_rfl) (by kernel_rfl) (by kernel_rfl) (fun _ _ _ h => h) (Or.inl ⟨by rfl, fun w => by go_simp⟩) ?_
          simp only [Act.put, List.setIfInBounds_toArray, List.set_cons_zero, List.set_cons_succ]
          refine wpAny_take (i := 1) (oi := ({ dst := some 46, op := Op.move (Operand.tmp 0), type := 112, pos := "sha.go:35", after := #[], guard := none } : Oper)) (v := .pointer (some ⟨g, 0, none⟩)) rfl (by kernel_rfl) (by kernel_rfl) (by kernel_rfl) (fun _ _ _ h => h) (Or.inl ⟨by rfl, fun w => by go_simp⟩) ?_
          simp only [Act.put, List.setIfInBounds_toArray, List.set_cons_zero, List.set_cons_succ]
          refine wpAny_take (i := 2) (oi := ({ dst := some 47, op := Op.nilCheck (Operand.tmp 46), type := 0, pos := "sha.go:35", after := #[{ on := 1, ground := Ground.data }], guard := none } : Oper)) (v := .pointer (some ⟨g, 0, none⟩)) rfl (by kernel_rfl) (by kernel_rfl) (by kernel_rfl) (fun _ _ _ h => h) (Or.inl ⟨by rfl, fun w => by go_simp⟩) ?_
          simp only [Act.put, List.setIfInBounds_toArray, List.set_cons_zero, List.set_cons_succ]
          refine wpAny_take (i := 3) (oi := ({ dst := some 48, op := Op.fieldAddr 124 (Operand.tmp 47) 0, type := 0, pos := "sha.go:35", after := #[{ on := 2, ground := Ground.data }], guard := none } : Oper)) (v := .pointer (some ⟨g, 0, none⟩)) rfl (by kernel_rfl) (by kernel_rfl) (by kernel_rfl) (fun _ _ _ h => h) (Or.inl ⟨by rfl, fun w => by go_simp⟩) ?_
          simp only [Act.put, List.setIfInBounds_toArray, List.set_cons_zero, List.set_cons_succ]
          refine wpAny_take (i := 5) (oi := ({ dst := some 50, op := Op.move (Operand.tmp 0), type := 112, pos := "sha.go:35", after := #[], guard := none } : Oper)) (v := .pointer (some ⟨g, 0, none⟩)) rfl (by kernel_rfl) (by kernel_rfl) (by kernel_rfl) (fun _ _ _ h => h) (Or.inl ⟨by rfl, fun w => by go_simp⟩) ?_
          simp only [Act.put, List.setIfInBounds_toArray, List.set_cons_zero, List.set_cons_succ]
          refine wpAny_take (i := 6) (oi := ({ dst := some 51, op := Op.nilCheck (Operand.tmp 50), type := 0, pos := "sha.go:35", after := #[{ on := 5, ground := Ground.data }], guard := none } : Oper)) (v := .pointer (some ⟨g, 0, none⟩)) rfl (by kernel_rfl) (by kernel_rfl) (by kernel_rfl) (fun _ _ _ h => h) (Or.inl ⟨by rfl, fun w => by go_simp⟩) ?_
          simp only [Act.put, List.setIfInBounds_toArray, List.set_cons_zero, List.set_cons_succ]
          refine wpAny_take (i := 7) (oi := ({ dst := some 52, op := Op.fieldAddr 124 (Operand.tmp 51) 1, type := 0, pos := "sha.go:35", after := #[{ on := 6, ground := Ground.data }], guard := none } : Oper)) (v := .pointer (some ⟨g, 8, none⟩)) rfl (by kernel_rfl) (by kernel_rfl) (by kernel_rfl) (fun _ _ _ h => h) (Or.inl ⟨by rfl, fun w => by go_simp⟩) ?_
          simp only [Act.put, List.setIfInBounds_toArray, List.set_cons_zero, List.set_cons_succ]
          refine wpAny_ready (rs := [4, 8]) (by kernel_rfl) (by simp) ?_
          refine AllReady.cons (o := ({ dst := some 49, op := Op.load 121 (Operand.tmp 48), type := 121, pos := "sha.go:35", after := #[{ on := 3, ground := Ground.data }], guard := none } : Oper)) rfl (fun K hK => ?s4) (AllReady.cons (o := ({ dst := some 53, op := Op.load 122 (Operand.tmp 52), type := 122, pos := "sha.go:35", after := #[{ on := 7, ground := Ground.data }], guard := none } : Oper)) rfl (fun K hK => ?s8) AllReady.nil)
          case s4 =>
            rw [if_pos (by rfl)]
            refine wp_load_mid _ _ rfl g 0 rfl cw _ hr0 Tryd.underlying121 rfl hi33 ?_
            refine hK _ _ ?_
            clear hK K
            simp only [Act.put, List.setIfInBounds_toArray, List.set_cons_zero, List.set_cons_succ]
            refine wpAny_ready (rs := [8]) (by kernel_rfl) (by simp) ?_
            refine AllReady.cons (o := ({ dst := some 53, op := Op.load 122 (Operand.tmp 52), type := 122, pos := "sha.go:35", after := #[{ on := 7, ground := Ground.data }], guard := none } : Oper)) rfl (fun K hK => ?_) AllReady.nil
            rw [if_pos (by rfl)]
            refine wp_load_mid _ _ rfl g 8 rfl cb _ hr8 Tryd.underlying122 rfl hi34 ?_
            refine hK _ _ ?_
            clear hK K
            simp only [Act.put, List.setIfInBounds_toArray, List.set_cons_zero, List.set_cons_succ]
            refine wpAny_ready (rs := [9]) (by kernel_rfl) (by simp) ?_
            refine AllReady.cons (o := ({ dst := some 54, op := Op.call { callee := Callee.value (Operand.func 61), args := #[Operand.tmp 49, Operand.tmp 53], argTypes := #[121, 122] }, type := 121, pos := "sha.go:35", after := #[{ on := 4, ground := Ground.data }, { on := 8, ground := Ground.data }], guard := none } : Oper)) rfl (fun K hK => ?_) AllReady.nil
            rw [if_pos (by rfl)]
            go_simp
            refine (HMY.out).mono ?_
            rintro r5 w3 ⟨rfl, hb3⟩
            go_wp2_with fail
            try simp only [Act.put, List.setIfInBounds_toArray, List.set_cons_zero, List.set_cons_succ]
            refine wpAny_take (i := 10) (oi := ({ dst := some 55, op := Op.nilCheck (Operand.tmp 45), type := 0, pos := "sha.go:35", after := #[{ on := 0, ground := Ground.data }, { on := 0, ground := Ground.phase }, { on := 1, ground := Ground.phase }, { on := 2, ground := Ground.phase }, { on := 3, ground := Ground.phase }, { on := 4, ground := Ground.phase }, { on := 5, ground := Ground.phase }, { on := 6, ground := Ground.phase }, { on := 7, ground := Ground.phase }, { on := 8, ground := Ground.phase }, { on := 9, ground := Ground.phase }], guard := none } : Oper)) (v := .pointer (some ⟨g, 0, none⟩)) rfl (by kernel_rfl) (by kernel_rfl) (by kernel_rfl) (fun _ _ _ h => h) (Or.inl ⟨by rfl, fun w => by go_simp⟩) ?_
            simp only [Act.put, List.setIfInBounds_toArray, List.set_cons_zero, List.set_cons_succ]
            refine wpAny_take (i := 11) (oi := ({ dst := some 56, op := Op.fieldAddr 124 (Operand.tmp 55) 0, type := 0, pos := "sha.go:35", after := #[{ on := 10, ground := Ground.data }, { on := 0, ground := Ground.phase }, { on := 1, ground := Ground.phase }, { on := 2, ground := Ground.phase }, { on := 3, ground := Ground.phase }, { on := 4, ground := Ground.phase }, { on := 5, ground := Ground.phase }, { on := 6, ground := Ground.phase }, { on := 7, ground := Ground.phase }, { on := 8, ground := Ground.phase }, { on := 9, ground := Ground.phase }], guard := none } : Oper)) (v := .pointer (some ⟨g, 0, none⟩)) rfl (by kernel_rfl) (by kernel_rfl) (by kernel_rfl) (fun _ _ _ h => h) (Or.inl ⟨by rfl, fun w => by go_simp⟩) ?_
            simp only [Act.put, List.setIfInBounds_toArray, List.set_cons_zero, List.set_cons_succ]
            refine wpAny_ready (rs := [12]) (by kernel_rfl) (by simp) ?_
            refine AllReady.cons (o := ({ dst := none, op := Op.store 121 (Operand.tmp 56) (Operand.tmp 54), type := 0, pos := "sha.go:35", after := #[{ on := 11, ground := Ground.data }, { on := 9, ground := Ground.data }, { on := 9, ground := Ground.chain }, { on := 0, ground := Ground.phase }, { on := 1, ground := Ground.phase }, { on := 2, ground := Ground.phase }, { on := 3, ground := Ground.phase }, { on := 4, ground := Ground.phase }, { on := 5, ground := Ground.phase }, { on := 6, ground := Ground.phase }, { on := 7, ground := Ground.phase }, { on := 8, ground := Ground.phase }, { on := 9, ground := Ground.phase }], guard := none } : Oper)) rfl (fun K hK => ?_) AllReady.nil
            rw [if_pos (by rfl)]
            have HH5 := HH4.below hb3 hg0
            have hthere : w3.there g 0 cm.toArray.size := HH5.there 0 _ (by rw [← HCM.out]; show 0 + 8 ≤ _; rw [List.size_toArray, stc_len _ _ _ HSP.out.2.1]; decide)
            have hcmi : (Tryd.prog.info? 121).map (·.size) = some cm.toArray.size := by rw [← HCM.out]; kernel_rfl
            have hone : cm.toArray.all (·.oneCell') = true := by rw [← HCM.out]; exact wcells_one (Sha.mixB sw blk2).toList
            refine wp_store_mid _ _ _ rfl g 0 cm.toArray rfl rfl hthere hcmi hone ?_
            refine hK _ _ ?_
            clear hK K hthere hcmi hone
            try simp only [Act.put]
            refine wpAny_done (by kernel_rfl) ?_ _
            have hhn : Has (w3.setCells g 0 cm.toArray.toList) g 124 (stc (Sha.mixB sw blk2) blk2 (t' + n)).toArray := by
              have h := Has.setCells cm 0 (stc sw blk2 (t' + n)) w3 HH5 (by rw [← HCM.out, stc_len _ _ _ HSP.out.2.1]; show 0 + 8 ≤ 74; decide)
              rw [← HCM.out, show splice (stc sw blk2 (t' + n)) 0 (Sha.mixB sw blk2).vals.toList = stc (Sha.mixB sw blk2) blk2 (t' + n) from stc_words sw (Sha.mixB sw blk2) blk2 (t' + n)] at h
              rw [← HCM.out]
              exact h
            have hnew := StAt.full hhn HSP.out.2.1 HLL.out.2.1 hful HSW.out HNX.out
            have ho7 := (ho3W.trans (Only.of_below hb3 g)).trans (Only.setCells cm.toArray.toList 0 w3)
            have HNEW := Lib.hid hnew
            have HO7 := Lib.hid ho7
            clear hnew ho7 hhn
            generalize w3.setCells g 0 cm.toArray.toList = W6 at HNEW HO7 ⊢
            clear HH3 HH4 HH5 HMY HCM hr0 hr8
            go_wp2_with fail
            go_roundw
            case rel => exact ⟨t' + n, by omega, by rw [HDD.out], HNEW.out, HO7.out⟩
            case measure => simp [strSz, S_size]; omega
          case s8 =>
            rw [if_pos (by rfl)]
            refine wp_load_mid _ _ rfl g 8 rfl cb _ hr8 Tryd.underlying122 rfl hi34 ?_
            refine hK _ _ ?_
            clear hK K
            simp only [Act.put, List.setIfInBounds_toArray, List.set_cons_zero, List.set_cons_succ]
            refine wpAny_ready (rs := [4]) (by kernel_rfl) (by simp) ?_
            refine AllReady.cons (o := ({ dst := some 49, op := Op.load 121 (Operand.tmp 48), type := 121, pos := "sha.go:35", after := #[{ on := 3, ground := Ground.data }], guard := none } : Oper)) rfl (fun K hK => ?_) AllReady.nil
            rw [if_pos (by rfl)]
            refine wp_load_mid _ _ rfl g 0 rfl cw _ hr0 Tryd.underlying121 rfl hi33 ?_
            refine hK _ _ ?_
            clear hK K
            simp only [Act.put, List.setIfInBounds_toArray, List.set_cons_zero, List.set_cons_succ]
            refine wpAny_ready (rs := [9]) (by kernel_rfl) (by simp) ?_
            refine AllReady.cons (o := ({ dst := some 54, op := Op.call { callee := Callee.value (Operand.func 61), args := #[Operand.tmp 49, Operand.tmp 53], argTypes := #[121, 122] }, type := 121, pos := "sha.go:35", after := #[{ on := 4, ground := Ground.data }, { on := 8, ground := Ground.data }], guard := none } : Oper)) rfl (fun K hK => ?_) AllReady.nil
            rw [if_pos (by rfl)]
            go_simp
            refine (HMY.out).mono ?_
            rintro r5 w3 ⟨rfl, hb3⟩
            go_wp2_with fail
            try simp only [Act.put, List.setIfInBounds_toArray, List.set_cons_zero, List.set_cons_succ]
            refine wpAny_take (i := 10) (oi := ({ dst := some 55, op := Op.nilCheck (Operand.tmp 45), type := 0, pos := "sha.go:35", after := #[{ on := 0, ground := Ground.data }, { on := 0, ground := Ground.phase }, { on := 1, ground := Ground.phase }, { on := 2, ground := Ground.phase }, { on := 3, ground := Ground.phase }, { on := 4, ground := Ground.phase }, { on := 5, ground := Ground.phase }, { on := 6, ground := Ground.phase }, { on := 7, ground := Ground.phase }, { on := 8, ground := Ground.phase }, { on := 9, ground := Ground.phase }], guard := none } : Oper)) (v := .pointer (some ⟨g, 0, none⟩)) rfl (by kernel_rfl) (by kernel_rfl) (by kernel_rfl) (fun _ _ _ h => h) (Or.inl ⟨by rfl, fun w => by go_simp⟩) ?_
            simp only [Act.put, List.setIfInBounds_toArray, List.set_cons_zero, List.set_cons_succ]
            refine wpAny_take (i := 11) (oi := ({ dst := some 56, op := Op.fieldAddr 124 (Operand.tmp 55) 0, type := 0, pos := "sha.go:35", after := #[{ on := 10, ground := Ground.data }, { on := 0, ground := Ground.phase }, { on := 1, ground := Ground.phase }, { on := 2, ground := Ground.phase }, { on := 3, ground := Ground.phase }, { on := 4, ground := Ground.phase }, { on := 5, ground := Ground.phase }, { on := 6, ground := Ground.phase }, { on := 7, ground := Ground.phase }, { on := 8, ground := Ground.phase }, { on := 9, ground := Ground.phase }], guard := none } : Oper)) (v := .pointer (some ⟨g, 0, none⟩)) rfl (by kernel_rfl) (by kernel_rfl) (by kernel_rfl) (fun _ _ _ h => h) (Or.inl ⟨by rfl, fun w => by go_simp⟩) ?_
            simp only [Act.put, List.setIfInBounds_toArray, List.set_cons_zero, List.set_cons_succ]
            refine wpAny_ready (rs := [12]) (by kernel_rfl) (by simp) ?_
            refine AllReady.cons (o := ({ dst := none, op := Op.store 121 (Operand.tmp 56) (Operand.tmp 54), type := 0, pos := "sha.go:35", after := #[{ on := 11, ground := Ground.data }, { on := 9, ground := Ground.data }, { on := 9, ground := Ground.chain }, { on := 0, ground := Ground.phase }, { on := 1, ground := Ground.phase }, { on := 2, ground := Ground.phase }, { on := 3, ground := Ground.phase }, { on := 4, ground := Ground.phase }, { on := 5, ground := Ground.phase }, { on := 6, ground := Ground.phase }, { on := 7, ground := Ground.phase }, { on := 8, ground := Ground.phase }, { on := 9, ground := Ground.phase }], guard := none } : Oper)) rfl (fun K hK => ?_) AllReady.nil
            rw [if_pos (by rfl)]
            have HH5 := HH4.below hb3 hg0
            have hthere : w3.there g 0 cm.toArray.size := HH5.there 0 _ (by rw [← HCM.out]; show 0 + 8 ≤ _; rw [List.size_toArray, stc_len _ _ _ HSP.out.2.1]; decide)
            have hcmi : (Tryd.prog.info? 121).map (·.size) = some cm.toArray.size := by rw [← HCM.out]; kernel_rfl
            have hone : cm.toArray.all (·.oneCell') = true := by rw [← HCM.out]; exact wcells_one (Sha.mixB sw blk2).toList
            refine wp_store_mid _ _ _ rfl g 0 cm.toArray rfl rfl hthere hcmi hone ?_
            refine hK _ _ ?_
            clear hK K hthere hcmi hone
            try simp only [Act.put]
            refine wpAny_done (by kernel_rfl) ?_ _
            have hhn : Has (w3.setCells g 0 cm.toArray.toList) g 124 (stc (Sha.mixB sw blk2) blk2 (t' + n)).toArray := by
              have h := Has.setCells cm 0 (stc sw blk2 (t' + n)) w3 HH5 (by rw [← HCM.out, stc_len _ _ _ HSP.out.2.1]; show 0 + 8 ≤ 74; decide)
              rw [← HCM.out, show splice (stc sw blk2 (t' + n)) 0 (Sha.mixB sw blk2).vals.toList = stc (Sha.mixB sw blk2) blk2 (t' + n) from stc_words sw (Sha.mixB sw blk2) blk2 (t' + n)] at h
              rw [← HCM.out]
              exact h
            have hnew := StAt.full hhn HSP.out.2.1 HLL.out.2.1 hful HSW.out HNX.out
            have ho7 := (ho3W.trans (Only.of_below hb3 g)).trans (Only.setCells cm.toArray.toList 0 w3)
            have HNEW := Lib.hid hnew
            have HO7 := Lib.hid ho7
            clear hnew ho7 hhn
            generalize w3.setCells g 0 cm.toArray.toList = W6 at HNEW HO7 ⊢
            clear HH3 HH4 HH5 HMY HCM hr0 hr8
            go_wp2_with fail
            go_roundw
            case rel => exact ⟨t' + n, by omega, by rw [HDD.out], HNEW.out, HO7.out⟩
            case measure => simp [strSz, S_size]; omega
        · obtain ⟨r2, hr2⟩ : ∃ r2, (t' + n) % 64 = r2 := ⟨_, rfl⟩
          have hr20 : (0 : Int) < (r2 : Int) := by have := HLL.out.2.1; omega
          have hmod : ((t' : Int) + (n : Int)) % 64 = (r2 : Int) := by omega
          have hmodt : ((t' : Int) + (n : Int)).tmod 64 = (r2 : Int) := by rw [Int.tmod_eq_emod_of_nonneg (by omega)]; exact hmod
          have hrb : ((r2 : Int) == 0) = false := by simp; omega
          have HR2 := Lib.hid hr2; clear hr2
          go_wp2_with fail
          go_roundw
          case rel =>
            have h2 := HR2.out
            have h3 := HLL.out.2.1
            have e1 : (t' + n) / 64 = t' / 64 := by omega
            have e2 : (t' + n) % 64 = r + n := by omega
            refine ⟨t' + n, by omega, by rw [HDD.out], ⟨blk2, HSP.out.2.1, ?_, ?_⟩, ho3⟩
            · rw [e1, HSW.out]; exact HH3.out
            · rw [e1, e2]; exact HNX.out
          case measure => simp [strSz, S_size]; omega
    · have hte : t' = M.length := by omega
      subst hte
      have hdl : M.drop M.length = [] := List.drop_length ..
      rw [hdl]
      clear hlt
      go_wp2_with fail
      go_returns
      exact ⟨rfl, hst, hok⟩
end Go.Proofs.YtgjknfphmmlcdaaDoor
