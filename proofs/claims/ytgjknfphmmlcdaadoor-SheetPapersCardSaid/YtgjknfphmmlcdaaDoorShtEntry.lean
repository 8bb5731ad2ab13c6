/-
  The contract of the program's Entry.
-/
import Derived.Test.YtgjknfphmmlcdaaDoorShtPaper
import Derived.Test.YtgjknfphmmlcdaaDoorTake
namespace Go.Proofs.YtgjknfphmmlcdaaDoor
open Go.RowKit
set_option linter.unusedVariables false

/-- A stored paper's cells in block b. -/
abbrev EntS (b : Nat) (id : List UInt8) (cls born : Int) (A : Option Addr) (n cap : Nat) (W : World) : Prop :=
  W.cell? ⟨b, 0, none⟩ = some (.string (S id)) ∧ W.cell? ⟨b, 1, none⟩ = some (.int .i64 cls) ∧ W.cell? ⟨b, 2, none⟩ = some (.int .i64 born) ∧ W.cell? ⟨b, 4, none⟩ = some (.slice A n cap)
theorem EntS.keep {b : Nat} {id : List UInt8} {cls born : Int} {A : Option Addr} {n cap : Nat} {W W' : World} (h : EntS b id cls born A n cap W) (hb : W'.heap[b]? = W.heap[b]?) : EntS b id cls born A n cap W' :=
  ⟨World.cell_block hb h.1, World.cell_block hb h.2.1, World.cell_block hb h.2.2.1, World.cell_block hb h.2.2.2⟩

namespace Sht
open Mk
theorem root_32' (l : List Mill.En) (hr : Mill.right l = true) (L : List T) (h : Sums L) : (root l L).length = 32 := by
  by_cases h2 : 2 ≤ L.length
  · rw [Mk.root_more l L h2]; exact node_len l hr _ _
  · match L, h2, h with
    | [], _, _ => rw [Mk.root_nil]; unfold nil; exact Mill.hash_len l hr _
    | [a], _, h => rw [Mk.root_one]; exact h a (by simp)
    | _ :: _ :: _, h2, _ => exact absurd (by simp) h2
end Sht
section
variable (g nb : Nat) (tv : Option Nat) (l : List Mill.En)
set_option maxHeartbeats 4000000 in
set_option maxRecDepth 100000 in
theorem shEntry_any (hr : Mill.right l = true) (st : Mill.St) (w : World) (id : List UInt8) (cls born slot : Int) (A : Option Addr) (L : List Slp) (cap : Nat) (gone : Bool) (hd : Value) (h : MkW w g nb tv l st) (h1 : id.length ≤ 1000000)
    (hn : L.length ≤ 1000) (hcap : L.length ≤ cap) (hcm : cap ≤ 9223372036854775807) (hrow : RowP w [g, nb] A L) (hs : Sht.Short L) (hsum : st.sums ≤ 1000000) :
    Calls Tryd.prog 18 #[.pointer (some ⟨g, 0, none⟩), .agg #[.string (S id), .int .i64 cls, .int .i64 born, .int .i64 slot, .slice A L.length cap, .bool gone, hd]] w
      (MkPost w g nb tv l st (Sht.rootT l L ++ Sht.paperTs id cls born (L.length : Int) (Mk.root l (Sht.leaves l L))) (.string (S (Sht.paperV l id cls born (L.length : Int) (Mk.root l (Sht.leaves l L)))))) := by
  have hz := h.m.lt
  have hb0 : Below w.heap.size w (w.alloc (.cells #[.string (S id), .int .i64 cls, .int .i64 born, .int .i64 slot, .slice A L.length cap, .bool gone, hd] 37)) := (Below.refl _ _).alloc (Nat.le_refl _) _
  have hH : Has (w.alloc (.cells #[.string (S id), .int .i64 cls, .int .i64 born, .int .i64 slot, .slice A L.length cap, .bool gone, hd] 37)) w.heap.size 37 #[.string (S id), .int .i64 cls, .int .i64 born, .int .i64 slot, .slice A L.length cap, .bool gone, hd] := Has.made _ _ _
  have hs0 : (w.alloc (.cells #[.string (S id), .int .i64 cls, .int .i64 born, .int .i64 slot, .slice A L.length cap, .bool gone, hd] 37)).heap.size = w.heap.size + 1 := by simp
  have hR := fun W (hM : MkW W g nb tv l st) (hb : Below w.heap.size w W) => shRoot_any g nb tv l hr A L cap st W hn hcap hcm (RowC.mv hrow (Mv.of_below hb [g, nb]) (fun x hx => hx)) hs (by omega) hM
  have hrl := Sht.rootT_len l L
  have hP := fun W (hM : MkW W g nb tv l (Mill.steps l (Sht.rootT l L) st)) => shPaper_any g nb tv l hr (Mill.steps l (Sht.rootT l L) st) W id cls born (L.length : Int) (Mk.root l (Sht.leaves l L)) hM h1 (by rw [Sht.root_32' l hr _ (Sht.leaves_sums l hr L)]; omega) (by rw [Mill.steps_sums]; omega)
  unfold MkPost at hR hP ⊢
  generalize Sht.paperTs id cls born (L.length : Int) (Mk.root l (Sht.leaves l L)) = tp at *
  generalize Sht.paperV l id cls born (L.length : Int) (Mk.root l (Sht.leaves l L)) = v at *
  generalize Mk.root l (Sht.leaves l L) = y at *
  generalize Sht.rootT l L = tr at *
  have hex : ∀ s, Mill.steps l (tr ++ tp) s = Mill.steps l tp (Mill.steps l tr s) := fun s => Mill.steps_app ..
  have HR := Lib.hid hR; clear hR
  have HP := Lib.hid hP; clear hP
  have HM := Lib.hid (And.intro h (And.intro hb0 hH)); clear h hb0 hH
  have HX := Lib.hid hex; clear hex
  clear hrow hs hn hcap hrl hr hsum
  generalize L.length = k at *
  go_enter Tryd.func18, Tryd.ntmps18
  go_upto_region 1 with (fail)
  generalize w.alloc (.cells #[.string (S id), .int .i64 cls, .int .i64 born, .int .i64 slot, .slice A k cap, .bool gone, hd] 37) = W0 at HM hs0 ⊢
  have hx : EntS w.heap.size id cls born A k cap W0.drew := ⟨HM.out.2.2.cell 0, HM.out.2.2.cell 1, HM.out.2.2.cell 2, HM.out.2.2.cell 4⟩
  have hg0 : w.heap.size ∉ [g, nb] := by
    simp only [List.mem_cons, List.not_mem_nil, or_false]; omega
  have hbd : Below w.heap.size w W0.drew := HM.out.2.1.drew
  have hMd := HM.out.1.below hbd
  have hzl : w.heap.size < W0.drew.heap.size := HM.out.2.2.lt
  clear HM hs0
  refine wp_region_held_drew (S := EntS w.heap.size id cls born A k cap) (by kernel_rfl) hx (fun hHeld => ?_)
  first
  | (refine take_wanted (i := 0) (v := ?_) rfl rfl (by kernel_rfl) (by kernel_rfl) (by kernel_rfl) (fun _ _ _ h => h) (by rfl) (by assumption) ?_ ?_; rotate_left; (focus (intro w hSw; (try dsimp only at hSw); go_simp; first | done | with_reducible rfl)); (simp only [Act.at, List.setIfInBounds_toArray, List.set_cons_zero, List.set_cons_succ]))
  | (refine take_unwanted (i := 0) rfl rfl (by kernel_rfl) (by kernel_rfl) (by kernel_rfl) (fun _ _ _ h => h) (by rfl) (by assumption) ?_; (simp only [Act.at, List.setIfInBounds_toArray, List.set_cons_zero, List.set_cons_succ]))
  first
  | (refine take_wanted (i := 1) (v := ?_) rfl rfl (by kernel_rfl) (by kernel_rfl) (by kernel_rfl) (fun _ _ _ h => h) (by rfl) (by assumption) ?_ ?_; rotate_left; (focus (intro w hSw; (try dsimp only at hSw); go_simp; first | done | with_reducible rfl)); (simp only [Act.at, List.setIfInBounds_toArray, List.set_cons_zero, List.set_cons_succ]))
  | (refine take_unwanted (i := 1) rfl rfl (by kernel_rfl) (by kernel_rfl) (by kernel_rfl) (fun _ _ _ h => h) (by rfl) (by assumption) ?_; (simp only [Act.at, List.setIfInBounds_toArray, List.set_cons_zero, List.set_cons_succ]))
  first
  | (refine take_wanted (i := 2) (v := ?_) rfl rfl (by kernel_rfl) (by kernel_rfl) (by kernel_rfl) (fun _ _ _ h => h) (by rfl) (by assumption) ?_ ?_; rotate_left; (focus (intro w hSw; (try dsimp only at hSw); go_simp; first | done | with_reducible rfl)); (simp only [Act.at, List.setIfInBounds_toArray, List.set_cons_zero, List.set_cons_succ]))
  | (refine take_unwanted (i := 2) rfl rfl (by kernel_rfl) (by kernel_rfl) (by kernel_rfl) (fun _ _ _ h => h) (by rfl) (by assumption) ?_; (simp only [Act.at, List.setIfInBounds_toArray, List.set_cons_zero, List.set_cons_succ]))
  first
  | (refine take_wanted (i := 3) (v := ?_) rfl rfl (by kernel_rfl) (by kernel_rfl) (by kernel_rfl) (fun _ _ _ h => h) (by rfl) (by assumption) ?_ ?_; rotate_left; (focus (intro w hSw; (try dsimp only at hSw); go_simp; first | done | with_reducible rfl)); (simp only [Act.at, List.setIfInBounds_toArray, List.set_cons_zero, List.set_cons_succ]))
  | (refine take_unwanted (i := 3) rfl rfl (by kernel_rfl) (by kernel_rfl) (by kernel_rfl) (fun _ _ _ h => h) (by rfl) (by assumption) ?_; (simp only [Act.at, List.setIfInBounds_toArray, List.set_cons_zero, List.set_cons_succ]))
  first
  | (refine take_wanted (i := 4) (v := ?_) rfl rfl (by kernel_rfl) (by kernel_rfl) (by kernel_rfl) (fun _ _ _ h => h) (by rfl) (by assumption) ?_ ?_; rotate_left; (focus (intro w hSw; (try dsimp only at hSw); go_simp; first | done | with_reducible rfl)); (simp only [Act.at, List.setIfInBounds_toArray, List.set_cons_zero, List.set_cons_succ]))
  | (refine take_unwanted (i := 4) rfl rfl (by kernel_rfl) (by kernel_rfl) (by kernel_rfl) (fun _ _ _ h => h) (by rfl) (by assumption) ?_; (simp only [Act.at, List.setIfInBounds_toArray, List.set_cons_zero, List.set_cons_succ]))
  first
  | (refine take_wanted (i := 5) (v := ?_) rfl rfl (by kernel_rfl) (by kernel_rfl) (by kernel_rfl) (fun _ _ _ h => h) (by rfl) (by assumption) ?_ ?_; rotate_left; (focus (intro w hSw; (try dsimp only at hSw); go_simp; first | done | with_reducible rfl)); (simp only [Act.at, List.setIfInBounds_toArray, List.set_cons_zero, List.set_cons_succ]))
  | (refine take_unwanted (i := 5) rfl rfl (by kernel_rfl) (by kernel_rfl) (by kernel_rfl) (fun _ _ _ h => h) (by rfl) (by assumption) ?_; (simp only [Act.at, List.setIfInBounds_toArray, List.set_cons_zero, List.set_cons_succ]))
  first
  | (refine take_wanted (i := 6) (v := ?_) rfl rfl (by kernel_rfl) (by kernel_rfl) (by kernel_rfl) (fun _ _ _ h => h) (by rfl) (by assumption) ?_ ?_; rotate_left; (focus (intro w hSw; (try dsimp only at hSw); go_simp; first | done | with_reducible rfl)); (simp only [Act.at, List.setIfInBounds_toArray, List.set_cons_zero, List.set_cons_succ]))
  | (refine take_unwanted (i := 6) rfl rfl (by kernel_rfl) (by kernel_rfl) (by kernel_rfl) (fun _ _ _ h => h) (by rfl) (by assumption) ?_; (simp only [Act.at, List.setIfInBounds_toArray, List.set_cons_zero, List.set_cons_succ]))
  first
  | (refine take_wanted (i := 7) (v := ?_) rfl rfl (by kernel_rfl) (by kernel_rfl) (by kernel_rfl) (fun _ _ _ h => h) (by rfl) (by assumption) ?_ ?_; rotate_left; (focus (intro w hSw; (try dsimp only at hSw); go_simp; first | done | with_reducible rfl)); (simp only [Act.at, List.setIfInBounds_toArray, List.set_cons_zero, List.set_cons_succ]))
  | (refine take_unwanted (i := 7) rfl rfl (by kernel_rfl) (by kernel_rfl) (by kernel_rfl) (fun _ _ _ h => h) (by rfl) (by assumption) ?_; (simp only [Act.at, List.setIfInBounds_toArray, List.set_cons_zero, List.set_cons_succ]))
  first
  | (refine take_wanted (i := 8) (v := ?_) rfl rfl (by kernel_rfl) (by kernel_rfl) (by kernel_rfl) (fun _ _ _ h => h) (by rfl) (by assumption) ?_ ?_; rotate_left; (focus (intro w hSw; (try dsimp only at hSw); go_simp; first | done | with_reducible rfl)); (simp only [Act.at, List.setIfInBounds_toArray, List.set_cons_zero, List.set_cons_succ]))
  | (refine take_unwanted (i := 8) rfl rfl (by kernel_rfl) (by kernel_rfl) (by kernel_rfl) (fun _ _ _ h => h) (by rfl) (by assumption) ?_; (simp only [Act.at, List.setIfInBounds_toArray, List.set_cons_zero, List.set_cons_succ]))
  first
  | (refine take_wanted (i := 9) (v := ?_) rfl rfl (by kernel_rfl) (by kernel_rfl) (by kernel_rfl) (fun _ _ _ h => h) (by rfl) (by assumption) ?_ ?_; rotate_left; (focus (intro w hSw; (try dsimp only at hSw); go_simp; first | done | with_reducible rfl)); (simp only [Act.at, List.setIfInBounds_toArray, List.set_cons_zero, List.set_cons_succ]))
  | (refine take_unwanted (i := 9) rfl rfl (by kernel_rfl) (by kernel_rfl) (by kernel_rfl) (fun _ _ _ h => h) (by rfl) (by assumption) ?_; (simp only [Act.at, List.setIfInBounds_toArray, List.set_cons_zero, List.set_cons_succ]))
  first
  | (refine take_wanted (i := 10) (v := ?_) rfl rfl (by kernel_rfl) (by kernel_rfl) (by kernel_rfl) (fun _ _ _ h => h) (by rfl) (by assumption) ?_ ?_; rotate_left; (focus (intro w hSw; (try dsimp only at hSw); go_simp; first | done | with_reducible rfl)); (simp only [Act.at, List.setIfInBounds_toArray, List.set_cons_zero, List.set_cons_succ]))
  | (refine take_unwanted (i := 10) rfl rfl (by kernel_rfl) (by kernel_rfl) (by kernel_rfl) (fun _ _ _ h => h) (by rfl) (by assumption) ?_; (simp only [Act.at, List.setIfInBounds_toArray, List.set_cons_zero, List.set_cons_succ]))
  first
  | (refine take_wanted (i := 11) (v := ?_) rfl rfl (by kernel_rfl) (by kernel_rfl) (by kernel_rfl) (fun _ _ _ h => h) (by rfl) (by assumption) ?_ ?_; rotate_left; (focus (intro w hSw; (try dsimp only at hSw); go_simp; first | done | with_reducible rfl)); (simp only [Act.at, List.setIfInBounds_toArray, List.set_cons_zero, List.set_cons_succ]))
  | (refine take_unwanted (i := 11) rfl rfl (by kernel_rfl) (by kernel_rfl) (by kernel_rfl) (fun _ _ _ h => h) (by rfl) (by assumption) ?_; (simp only [Act.at, List.setIfInBounds_toArray, List.set_cons_zero, List.set_cons_succ]))
  first
  | (refine take_wanted (i := 12) (v := ?_) rfl rfl (by kernel_rfl) (by kernel_rfl) (by kernel_rfl) (fun _ _ _ h => h) (by rfl) (by assumption) ?_ ?_; rotate_left; (focus (intro w hSw; (try dsimp only at hSw); go_simp; first | done | with_reducible rfl)); (simp only [Act.at, List.setIfInBounds_toArray, List.set_cons_zero, List.set_cons_succ]))
  | (refine take_unwanted (i := 12) rfl rfl (by kernel_rfl) (by kernel_rfl) (by kernel_rfl) (fun _ _ _ h => h) (by rfl) (by assumption) ?_; (simp only [Act.at, List.setIfInBounds_toArray, List.set_cons_zero, List.set_cons_succ]))
  refine take_call (i := 13) (by kernel_rfl) rfl rfl (by rfl) (fun K hK => ?_)
  go_simp
  refine (HR.out _ hMd hbd).mono ?_
  rintro e w2 ⟨rfl, hm2, hv2⟩
  have hx2 : EntS w.heap.size id cls born A k cap w2 := EntS.keep hx (hv2.block _ hzl hg0)
  clear hx hHeld
  have hv02 := (Mv.of_below hbd [g, nb]).trans hv2
  have hzl2 : w.heap.size < w2.heap.size := Nat.lt_of_lt_of_le hzl hv2.size
  clear hv2 hbd hMd hzl HR
  refine hK.out _ _ hx2 (fun hHeld => ?_)
  clear hK K
  try simp only [Act.put, List.setIfInBounds_toArray, List.set_cons_zero, List.set_cons_succ]
  refine take_call (i := 14) (by kernel_rfl) rfl rfl (by rfl) (fun K hK => ?_)
  go_simp
  refine (HP.out _ hm2).mono ?_
  rintro e w3 ⟨rfl, hm3, hv3⟩
  have hx3 : EntS w.heap.size id cls born A k cap w3 := EntS.keep hx2 (hv3.block _ hzl2 hg0)
  clear hx2 hHeld
  rw [← HX.out] at hm3
  have hv03 := hv02.trans hv3
  clear hm2 hv02 hv3 HP
  refine hK.out _ _ hx3 (fun hHeld => ?_)
  clear hK K
  try simp only [Act.put, List.setIfInBounds_toArray, List.set_cons_zero, List.set_cons_succ]
  first
  | (refine take_wanted (i := 15) (v := ?_) rfl rfl (by kernel_rfl) (by kernel_rfl) (by kernel_rfl) (fun _ _ _ h => h) (by rfl) (by assumption) ?_ ?_; rotate_left; (focus (intro w hSw; (try dsimp only at hSw); go_simp; first | done | with_reducible rfl)); (simp only [Act.at, List.setIfInBounds_toArray, List.set_cons_zero, List.set_cons_succ]))
  | (refine take_unwanted (i := 15) rfl rfl (by kernel_rfl) (by kernel_rfl) (by kernel_rfl) (fun _ _ _ h => h) (by rfl) (by assumption) ?_; (simp only [Act.at, List.setIfInBounds_toArray, List.set_cons_zero, List.set_cons_succ]))
  refine wpAnyH_done (by kernel_rfl) ?_ _
  go_wp2_with fail
  go_ret
  exact ⟨rfl, hm3, hv03⟩
end
end Go.Proofs.YtgjknfphmmlcdaaDoor
