/-
  The contracts of pledge's Slip, Kept.
-/
import Derived.Test.YtlbdpadifhgloaaDoorPledge
import Derived.Test.YtlbdpadifhgloaaDoorTake
namespace Go.Proofs.YtlbdpadifhgloaaDoor
open Go.RowKit
set_option linter.unusedVariables false

theorem slipSize : (Tryd.prog.info? 38).map (·.size) = some 4 := by kernel_rfl
/-- A slip that lies in a block, handed back. -/
theorem ret_slip {fn : Func} {p : Tmp} {R : Ending → World → Prop} {a : Act} {w : World} (h : fn.results = #[.cell p 38]) (g : Nat) (cs : Array Value)
    (hp : a.tmps.getD p undef = .pointer (some ⟨g, 0, none⟩)) (hd : a.defers = []) (hh : Has w g 38 cs) (hcs : cs.size = 4) (hR : R (.returned (.agg cs)) w) : bodyPost Tryd.prog fn R .ret a w :=
  bodyPost_ret (v := .agg cs) (results_cell_row h _ _ g 38 cs (0, 0) _ hp hh Tryd.underlying38 rfl (by rw [hcs]; exact slipSize)) hd hR
theorem MillTv.tvlt {w : World} {g nb : Nat} {tv : Option Nat} {l : List Mill.En} {st : Mill.St} (h : MillTv w g nb tv l st) : ∀ b, tv = some b → b < w.heap.size := fun b hb => by
  subst hb
  exact h.2.1.lt

section
variable (g nb : Nat) (tv : Option Nat) (l : List Mill.En) (st : Mill.St) (w : World)

theorem Mv.tabs2 {w w' : World} {g nb : Nat} (h : Mv w w' [g, nb]) (hT : Tabs w) (hg : 2 ≤ g) (hn : 2 ≤ nb) : Tabs w' := h.tabs hT (by
  intro x hx
  simp only [List.mem_cons, List.not_mem_nil, or_false] at hx
  rcases hx with rfl | rfl
  · exact hg
  · exact hn)

set_option maxHeartbeats 2000000 in
theorem plgSlip_any (draw id name value : List UInt8) (h : MillTv w g nb tv l st) (h0 : draw.length ≤ 400000) (h1 : id.length ≤ 400000) (h2 : name.length ≤ 400000) (h4 : value.length ≤ 400000) (hsum : st.sums ≤ 4000000000000000000) (hr : Mill.right l = true) (hT : Tabs w) (hg : 2 ≤ g) (hn : 2 ≤ nb) :
    Calls Tryd.prog 26 #[.pointer (some ⟨g, 0, none⟩), .string (S draw), .string (S id), .string (S name), .string (S value)] w fun e w' =>
      e = .returned (.agg #[.string (S name), .string (S (Mill.hash l (Plg.of id name (Plg.salt l draw name) value))), .string (S (Plg.veil l (Plg.key l draw) name (Plg.salt l draw name ++ value))), .bool false]) ∧
      MillTv w' g nb tv l (Mill.step l (Plg.of id name (Plg.salt l draw name) value) st) ∧ Mv w w' [g, nb] := by
  have hS := fun W (hM : MillTv W g nb tv l st) (hTW : Tabs W) => plgSalt_any g nb l st W draw name hM.at (by omega) (by omega) hr hTW
  have hsl := Plg.salt_len l hr draw name
  generalize Plg.salt l draw name = salt at hS hsl ⊢
  have hO := fun W (hM : MillTv W g nb tv l st) (hTW : Tabs W) => plgOf_any g nb tv l st W id name salt value hM (by omega) (by omega) (by omega) (by omega) hsum hr hTW hg
  generalize Mill.step l (Plg.of id name salt value) st = st1 at hO ⊢
  generalize Mill.hash l (Plg.of id name salt value) = x at hO ⊢
  have hK := fun W (hM : MillTv W g nb tv l st1) (hTW : Tabs W) => plgKey_any g nb l st1 W draw hM.at (by omega) hTW
  have hkl : (Plg.key l draw).length = 32 := Mill.tag_len l hr _ _
  generalize Plg.key l draw = key at hK hkl ⊢
  have hV := fun W (hM : MillTv W g nb tv l st1) (hTW : Tabs W) => plgShut_any g nb l st1 W key name salt value hM.at (by omega) (by omega) (by omega) (by omega) hr hTW
  generalize Plg.veil l key name (salt ++ value) = c at hV ⊢
  have HO := Lib.hid hO; clear hO
  have HK := Lib.hid hK; clear hK
  have HV := Lib.hid hV; clear hV
  have hb0 : Below w.heap.size w (w.alloc (.cells #[.string ⟨#[]⟩, .string ⟨#[]⟩, .string ⟨#[]⟩, .bool false] 38)) := (Below.refl _ w).alloc (Nat.le_refl _) _
  have hH0 := Has.made w 38 #[.string ⟨#[]⟩, .string ⟨#[]⟩, .string ⟨#[]⟩, .bool false]
  have hM0 := h.below hb0
  have hT0 := hT.below hb0 hT.2.2
  have hgl := h.lt
  have htv := h.tvlt
  have HS := Lib.hid (hS _ hM0 hT0); clear hS
  clear h hT h0 h1 h2 h4 hsl hkl hsum hr
  have hs0 : w.heap.size < (w.alloc (.cells #[.string ⟨#[]⟩, .string ⟨#[]⟩, .string ⟨#[]⟩, .bool false] 38)).heap.size := hH0.lt
  have HM := Lib.hid (And.intro hM0 (And.intro hT0 (And.intro hH0 (And.intro hb0 hs0)))); clear hM0 hT0 hH0 hb0 hs0
  go_enter Tryd.func26, Tryd.ntmps26
  go_wp2_with fail
  generalize w.alloc (.cells #[.string ⟨#[]⟩, .string ⟨#[]⟩, .string ⟨#[]⟩, .bool false] 38) = W0 at HS HM ⊢
  refine (HS.out).mono ?_
  rintro e w1 ⟨rfl, hb1⟩
  have hM1 := HM.out.1.below hb1
  have hT1 := HM.out.2.1.below hb1 HM.out.2.1.2.2
  have hv1 := (Mv.of_below (HM.out.2.2.2.1) [g, nb]).trans (Mv.of_below hb1 [g, nb])
  have hH1 := HM.out.2.2.1.below hb1 HM.out.2.2.2.2
  clear hb1
  go_wp2_with fail
  refine (HO.out _ hM1 hT1).mono ?_
  rintro e w2 ⟨rfl, hM2, hv2⟩
  have hT2 := hv2.tabs2 hT1 hg hn
  have hH2 := hv2.has hH1 (by simp only [List.mem_cons, List.not_mem_nil, or_false]; omega)
  have hv2' := hv1.trans hv2
  clear hM1 hT1 hv1 hv2 hH1
  go_wp2_with fail
  refine (HK.out _ hM2 hT2).mono ?_
  rintro e w3 ⟨rfl, hb3⟩
  have hM3 := hM2.below hb3
  have hT3 := hT2.below hb3 hT2.2.2
  have hH3 := hH2.below hb3 hH2.lt
  have hv3 := hv2'.trans (Mv.of_below hb3 _)
  clear hM2 hT2 hH2 hv2' hb3
  go_wp2_with fail
  refine (HV.out _ hM3 hT3).mono ?_
  rintro e w4 ⟨rfl, hb4⟩
  have hM4 := hM3.below hb4
  have hH4 := hH3.below hb4 hH3.lt
  have hv4 := hv3.trans (Mv.of_below hb4 _)
  have hgw := hH4.lt
  clear hM3 hT3 hH3 hv3 hb4
  have c0 := hH4.cell 0
  have c1 := hH4.cell 1
  have c2 := hH4.cell 2
  have c3 := hH4.cell 3
  have f0 := hH4.free 0
  have f1 := hH4.free 1
  have f2 := hH4.free 2
  have f3 := hH4.free 3
  go_wp2_with fail
  have hHf : Has ((((w4.setCell ⟨w.heap.size, 0, none⟩ (.string (S name))).setCell ⟨w.heap.size, 1, none⟩ (.string (S x))).setCell ⟨w.heap.size, 2, none⟩ (.string (S c))).setCell ⟨w.heap.size, 3, none⟩ (.bool false)) w.heap.size 38 #[.string (S name), .string (S x), .string (S c), .bool false] := by
    have := (((hH4.set 0 (.string (S name))).set 1 (.string (S x))).set 2 (.string (S c))).set 3 (.bool false)
    simpa using this
  have hof := (((Only.set w4 w.heap.size 0 (.string (S name))).trans (Only.set _ w.heap.size 1 (.string (S x)))).trans (Only.set _ w.heap.size 2 (.string (S c)))).trans (Only.set _ w.heap.size 3 (.bool false))
  have hMf := hM4.mv (Mv.of_only hof (s := [w.heap.size]) (by simp)) (by simp only [List.mem_cons, List.not_mem_nil, or_false]; omega) (by simp only [List.mem_cons, List.not_mem_nil, or_false]; omega) (fun b hb => by have := htv b hb; simp only [List.mem_cons, List.not_mem_nil, or_false]; omega)
  refine ret_slip (p := 10) rfl w.heap.size _ rfl rfl hHf rfl ⟨rfl, hMf, ?_⟩
  exact ⟨(hof.os).trans hv4.os, hof.tape.trans hv4.tape, hof.output.trans hv4.output, Nat.le_trans hv4.size hof.size, fun k hk hnk => (hof.block k (by omega) (fun e => by injection e with e; omega)).trans (hv4.block k hk hnk)⟩

namespace Plg
def keptV (l : List Mill.En) (key id name pl c : List UInt8) (er : Bool) : List UInt8 × List UInt8 × Bool :=
  if er = true then ([], [], false) else if (opened l key name c).2.2 = false then ([], [], false) else if Mill.hash l (of id name (opened l key name c).1 (opened l key name c).2.1) ≠ pl then ([], [], false) else opened l key name c
def keptS (l : List Mill.En) (key id name c : List UInt8) (er : Bool) (st : Mill.St) : Mill.St :=
  if er = true then st else if (opened l key name c).2.2 = false then st else Mill.step l (of id name (opened l key name c).1 (opened l key name c).2.1) st
theorem opened_len (l : List Mill.En) (hr : Mill.right l = true) (key name c : List UInt8) : (opened l key name c).1.length ≤ 16 ∧ (opened l key name c).2.1.length ≤ c.length := by
  have h := veil_len l hr key name c
  unfold opened openR
  split
  · exact ⟨Nat.zero_le _, Nat.zero_le _⟩
  · exact ⟨by show (List.take 16 _).length ≤ 16; rw [List.length_take]; omega, by show (List.drop 16 _).length ≤ _; rw [List.length_drop]; omega⟩
end Plg
abbrev SLies (g : Nat) (name pl c : List UInt8) (er : Bool) (W : World) : Prop :=
  W.cell? ⟨g, 0, none⟩ = some (.string (S name)) ∧ W.cell? ⟨g, 1, none⟩ = some (.string (S pl)) ∧ W.cell? ⟨g, 2, none⟩ = some (.string (S c)) ∧ W.cell? ⟨g, 3, none⟩ = some (.bool er)
/-- What Kept answers. -/
def KeptPost (w : World) (g nb : Nat) (tv : Option Nat) (l : List Mill.En) (st : Mill.St) (x : List UInt8 × List UInt8 × Bool) (e : Ending) (w' : World) : Prop :=
  e = .returned (.tuple #[.string (S x.1), .string (S x.2.1), .bool x.2.2]) ∧ MillTv w' g nb tv l st ∧ Mv w w' [g, nb]

set_option maxHeartbeats 2000000 in
theorem plgKept_any (key id name pl c : List UInt8) (er : Bool) (h : MillTv w g nb tv l st) (h0 : key.length ≤ 400000) (h1 : id.length ≤ 400000) (h2 : name.length ≤ 400000) (h4 : c.length ≤ 400000) (hsum : st.sums ≤ 4000000000000000000) (hr : Mill.right l = true) (hT : Tabs w) (hg : 2 ≤ g) (hn : 2 ≤ nb) :
    Calls Tryd.prog 27 #[.pointer (some ⟨g, 0, none⟩), .string (S key), .string (S id), .agg #[.string (S name), .string (S pl), .string (S c), .bool er]] w (KeptPost w g nb tv l (Plg.keptS l key id name c er st) (Plg.keptV l key id name pl c er)) := by
  have hO := fun W (hM : MillTv W g nb tv l st) (hTW : Tabs W) => plgOpen_any g nb l st W key name c hM.at (by omega) (by omega) (by omega) hr hTW
  have hol := Plg.opened_len l hr key name c
  unfold Plg.keptS Plg.keptV
  generalize Plg.opened l key name c = o at hO hol ⊢
  obtain ⟨a, b, ok⟩ := o
  dsimp only at hol
  simp only []
  have hP := fun W (hM : MillTv W g nb tv l st) (hTW : Tabs W) => plgOf_any g nb tv l st W id name a b hM (by omega) (by omega) (by omega) (by omega) hsum hr hTW hg
  generalize Mill.step l (Plg.of id name a b) st = st1 at hP ⊢
  generalize Mill.hash l (Plg.of id name a b) = x at hP ⊢
  unfold OpenPost at hO
  dsimp only at hO
  have HO := Lib.hid hO; clear hO
  have HP := Lib.hid hP; clear hP
  have hb0 : Below w.heap.size w (w.alloc (.cells #[.string (S name), .string (S pl), .string (S c), .bool er] 38)) := (Below.refl _ w).alloc (Nat.le_refl _) _
  have hH0 := Has.made w 38 #[.string (S name), .string (S pl), .string (S c), .bool er]
  have hM0 := h.below hb0
  have hT0 := hT.below hb0 hT.2.2
  have hgl := h.lt
  have hs0 : w.heap.size < (w.alloc (.cells #[.string (S name), .string (S pl), .string (S c), .bool er] 38)).heap.size := hH0.lt
  have HM := Lib.hid (And.intro hM0 (And.intro hT0 (And.intro hH0 (And.intro hb0 hs0)))); clear hM0 hT0 hH0 hb0 hs0
  clear h hT h0 h1 h2 h4 hsum hr hol
  cases er
  · rw [if_neg (show ¬ (false = true) by decide), if_neg (show ¬ (false = true) by decide)]
    have hO1 : Hid (Calls Tryd.prog 24 #[.pointer (some ⟨g, 0, none⟩), .string (S key), .string (S name), .string (S c)] (w.alloc (.cells #[.string (S name), .string (S pl), .string (S c), .bool false] 38)) fun e w' =>
        e = .returned (.tuple #[.string (S a), .string (S b), .bool ok]) ∧ Below (w.alloc (.cells #[.string (S name), .string (S pl), .string (S c), .bool false] 38)).heap.size (w.alloc (.cells #[.string (S name), .string (S pl), .string (S c), .bool false] 38)) w') := HO.out _ HM.out.1 HM.out.2.1
    clear HO
    cases ok
    · rw [if_pos rfl, if_pos rfl]
      clear HP
      go_enter Tryd.func27, Tryd.ntmps27
      go_wp2_with fail
      generalize w.alloc (.cells #[.string (S name), .string (S pl), .string (S c), .bool false] 38) = W0 at HM hO1 ⊢
      refine (hO1.out).mono ?_
      rintro e w1 ⟨rfl, hb1⟩
      have hH1 := HM.out.2.2.1.below hb1 HM.out.2.2.2.2
      have hM1 := HM.out.1.below hb1
      have hv1 := (Mv.of_below (HM.out.2.2.2.1) [g, nb]).trans (Mv.of_below hb1 [g, nb])
      clear hb1
      have hx : SLies w.heap.size name pl c false w1.drew := ⟨hH1.cell 0, hH1.cell 1, hH1.cell 2, hH1.cell 3⟩
      go_upto_region 4 with (fail)
      refine wp_region_held_drew (S := SLies w.heap.size name pl c false) (by kernel_rfl) hx (fun hHeld => ?_)
      first
      | (refine take_wanted (i := 0) (v := ?_) rfl rfl (by kernel_rfl) (by kernel_rfl) (by kernel_rfl) (fun _ _ _ h => h) (by rfl) (by assumption) ?_ ?_; rotate_left; (focus (intro w hSw; (try dsimp only at hSw); go_simp; first | done | with_reducible rfl)); (simp only [Act.at, List.setIfInBounds_toArray, List.set_cons_zero, List.set_cons_succ]))
      | (refine take_unwanted (i := 0) rfl rfl (by kernel_rfl) (by kernel_rfl) (by kernel_rfl) (fun _ _ _ h => h) (by rfl) (by assumption) ?_; (simp only [Act.at, List.setIfInBounds_toArray, List.set_cons_zero, List.set_cons_succ]))
      first
      | (refine take_wanted (i := 1) (v := ?_) rfl rfl (by kernel_rfl) (by kernel_rfl) (by kernel_rfl) (fun _ _ _ h => h) (by rfl) (by assumption) ?_ ?_; rotate_left; (focus (intro w hSw; (try dsimp only at hSw); go_simp; first | done | with_reducible rfl)); (simp only [Act.at, List.setIfInBounds_toArray, List.set_cons_zero, List.set_cons_succ]))
      | (refine take_unwanted (i := 1) rfl rfl (by kernel_rfl) (by kernel_rfl) (by kernel_rfl) (fun _ _ _ h => h) (by rfl) (by assumption) ?_; (simp only [Act.at, List.setIfInBounds_toArray, List.set_cons_zero, List.set_cons_succ]))
      first
      | (refine take_wanted (i := 2) (v := ?_) rfl rfl (by kernel_rfl) (by kernel_rfl) (by kernel_rfl) (fun _ _ _ h => h) (by rfl) (by assumption) ?_ ?_; rotate_left; (focus (intro w hSw; (try dsimp only at hSw); go_simp; first | done | with_reducible rfl)); (simp only [Act.at, List.setIfInBounds_toArray, List.set_cons_zero, List.set_cons_succ]))
      | (refine take_unwanted (i := 2) rfl rfl (by kernel_rfl) (by kernel_rfl) (by kernel_rfl) (fun _ _ _ h => h) (by rfl) (by assumption) ?_; (simp only [Act.at, List.setIfInBounds_toArray, List.set_cons_zero, List.set_cons_succ]))
      first
      | (refine take_wanted (i := 3) (v := ?_) rfl rfl (by kernel_rfl) (by kernel_rfl) (by kernel_rfl) (fun _ _ _ h => h) (by rfl) (by assumption) ?_ ?_; rotate_left; (focus (intro w hSw; (try dsimp only at hSw); go_simp; first | done | with_reducible rfl)); (simp only [Act.at, List.setIfInBounds_toArray, List.set_cons_zero, List.set_cons_succ]))
      | (refine take_unwanted (i := 3) rfl rfl (by kernel_rfl) (by kernel_rfl) (by kernel_rfl) (fun _ _ _ h => h) (by rfl) (by assumption) ?_; (simp only [Act.at, List.setIfInBounds_toArray, List.set_cons_zero, List.set_cons_succ]))
      first
      | (refine take_wanted (i := 4) (v := ?_) rfl rfl (by kernel_rfl) (by kernel_rfl) (by kernel_rfl) (fun _ _ _ h => h) (by rfl) (by assumption) ?_ ?_; rotate_left; (focus (intro w hSw; (try dsimp only at hSw); go_simp; first | done | with_reducible rfl)); (simp only [Act.at, List.setIfInBounds_toArray, List.set_cons_zero, List.set_cons_succ]))
      | (refine take_unwanted (i := 4) rfl rfl (by kernel_rfl) (by kernel_rfl) (by kernel_rfl) (fun _ _ _ h => h) (by rfl) (by assumption) ?_; (simp only [Act.at, List.setIfInBounds_toArray, List.set_cons_zero, List.set_cons_succ]))
      first
      | (refine take_wanted (i := 5) (v := ?_) rfl rfl (by kernel_rfl) (by kernel_rfl) (by kernel_rfl) (fun _ _ _ h => h) (by rfl) (by assumption) ?_ ?_; rotate_left; (focus (intro w hSw; (try dsimp only at hSw); go_simp; first | done | with_reducible rfl)); (simp only [Act.at, List.setIfInBounds_toArray, List.set_cons_zero, List.set_cons_succ]))
      | (refine take_unwanted (i := 5) rfl rfl (by kernel_rfl) (by kernel_rfl) (by kernel_rfl) (fun _ _ _ h => h) (by rfl) (by assumption) ?_; (simp only [Act.at, List.setIfInBounds_toArray, List.set_cons_zero, List.set_cons_succ]))
      first
      | (refine take_wanted (i := 6) (v := ?_) rfl rfl (by kernel_rfl) (by kernel_rfl) (by kernel_rfl) (fun _ _ _ h => h) (by rfl) (by assumption) ?_ ?_; rotate_left; (focus (intro w hSw; (try dsimp only at hSw); go_simp; first | done | with_reducible rfl)); (simp only [Act.at, List.setIfInBounds_toArray, List.set_cons_zero, List.set_cons_succ]))
      | (refine take_unwanted (i := 6) rfl rfl (by kernel_rfl) (by kernel_rfl) (by kernel_rfl) (fun _ _ _ h => h) (by rfl) (by assumption) ?_; (simp only [Act.at, List.setIfInBounds_toArray, List.set_cons_zero, List.set_cons_succ]))
      first
      | (refine take_wanted (i := 7) (v := ?_) rfl rfl (by kernel_rfl) (by kernel_rfl) (by kernel_rfl) (fun _ _ _ h => h) (by rfl) (by assumption) ?_ ?_; rotate_left; (focus (intro w hSw; (try dsimp only at hSw); go_simp; first | done | with_reducible rfl)); (simp only [Act.at, List.setIfInBounds_toArray, List.set_cons_zero, List.set_cons_succ]))
      | (refine take_unwanted (i := 7) rfl rfl (by kernel_rfl) (by kernel_rfl) (by kernel_rfl) (fun _ _ _ h => h) (by rfl) (by assumption) ?_; (simp only [Act.at, List.setIfInBounds_toArray, List.set_cons_zero, List.set_cons_succ]))
      first
      | (refine take_wanted (i := 8) (v := ?_) rfl rfl (by kernel_rfl) (by kernel_rfl) (by kernel_rfl) (fun _ _ _ h => h) (by rfl) (by assumption) ?_ ?_; rotate_left; (focus (intro w hSw; (try dsimp only at hSw); go_simp; first | done | with_reducible rfl)); (simp only [Act.at, List.setIfInBounds_toArray, List.set_cons_zero, List.set_cons_succ]))
      | (refine take_unwanted (i := 8) rfl rfl (by kernel_rfl) (by kernel_rfl) (by kernel_rfl) (fun _ _ _ h => h) (by rfl) (by assumption) ?_; (simp only [Act.at, List.setIfInBounds_toArray, List.set_cons_zero, List.set_cons_succ]))
      first
      | (refine take_wanted (i := 9) (v := ?_) rfl rfl (by kernel_rfl) (by kernel_rfl) (by kernel_rfl) (fun _ _ _ h => h) (by rfl) (by assumption) ?_ ?_; rotate_left; (focus (intro w hSw; (try dsimp only at hSw); go_simp; first | done | with_reducible rfl)); (simp only [Act.at, List.setIfInBounds_toArray, List.set_cons_zero, List.set_cons_succ]))
      | (refine take_unwanted (i := 9) rfl rfl (by kernel_rfl) (by kernel_rfl) (by kernel_rfl) (fun _ _ _ h => h) (by rfl) (by assumption) ?_; (simp only [Act.at, List.setIfInBounds_toArray, List.set_cons_zero, List.set_cons_succ]))
      first
      | (refine take_wanted (i := 10) (v := ?_) rfl rfl (by kernel_rfl) (by kernel_rfl) (by kernel_rfl) (fun _ _ _ h => h) (by rfl) (by assumption) ?_ ?_; rotate_left; (focus (intro w hSw; (try dsimp only at hSw); go_simp; first | done | with_reducible rfl)); (simp only [Act.at, List.setIfInBounds_toArray, List.set_cons_zero, List.set_cons_succ]))
      | (refine take_unwanted (i := 10) rfl rfl (by kernel_rfl) (by kernel_rfl) (by kernel_rfl) (fun _ _ _ h => h) (by rfl) (by assumption) ?_; (simp only [Act.at, List.setIfInBounds_toArray, List.set_cons_zero, List.set_cons_succ]))
      first
      | (refine take_wanted (i := 11) (v := ?_) rfl rfl (by kernel_rfl) (by kernel_rfl) (by kernel_rfl) (fun _ _ _ h => h) (by rfl) (by assumption) ?_ ?_; rotate_left; (focus (intro w hSw; (try dsimp only at hSw); go_simp; first | done | with_reducible rfl)); (simp only [Act.at, List.setIfInBounds_toArray, List.set_cons_zero, List.set_cons_succ]))
      | (refine take_unwanted (i := 11) rfl rfl (by kernel_rfl) (by kernel_rfl) (by kernel_rfl) (fun _ _ _ h => h) (by rfl) (by assumption) ?_; (simp only [Act.at, List.setIfInBounds_toArray, List.set_cons_zero, List.set_cons_succ]))
      first
      | (refine take_wanted (i := 12) (v := ?_) rfl rfl (by kernel_rfl) (by kernel_rfl) (by kernel_rfl) (fun _ _ _ h => h) (by rfl) (by assumption) ?_ ?_; rotate_left; (focus (intro w hSw; (try dsimp only at hSw); go_simp; first | done | with_reducible rfl)); (simp only [Act.at, List.setIfInBounds_toArray, List.set_cons_zero, List.set_cons_succ]))
      | (refine take_unwanted (i := 12) rfl rfl (by kernel_rfl) (by kernel_rfl) (by kernel_rfl) (fun _ _ _ h => h) (by rfl) (by assumption) ?_; (simp only [Act.at, List.setIfInBounds_toArray, List.set_cons_zero, List.set_cons_succ]))
      first
      | (refine take_wanted (i := 13) (v := ?_) rfl rfl (by kernel_rfl) (by kernel_rfl) (by kernel_rfl) (fun _ _ _ h => h) (by rfl) (by assumption) ?_ ?_; rotate_left; (focus (intro w hSw; (try dsimp only at hSw); go_simp; first | done | with_reducible rfl)); (simp only [Act.at, List.setIfInBounds_toArray, List.set_cons_zero, List.set_cons_succ]))
      | (refine take_unwanted (i := 13) rfl rfl (by kernel_rfl) (by kernel_rfl) (by kernel_rfl) (fun _ _ _ h => h) (by rfl) (by assumption) ?_; (simp only [Act.at, List.setIfInBounds_toArray, List.set_cons_zero, List.set_cons_succ]))
      refine wpAnyH_done (by kernel_rfl) ?_ _
      go_wp2_with fail
      go_ret3
      exact ⟨rfl, hM1, hv1.drew⟩
    · rw [if_neg (show ¬ (true = false) by decide), if_neg (show ¬ (true = false) by decide)]
      cases hxe : x == pl
      all_goals
        first
        | (have hne : x ≠ pl := by simpa using hxe
           rw [if_pos hne]; clear hne)
        | (have hne : ¬ x ≠ pl := by simpa using hxe
           rw [if_neg hne]; clear hne)
        go_enter Tryd.func27, Tryd.ntmps27
        go_wp2_with fail
        generalize w.alloc (.cells #[.string (S name), .string (S pl), .string (S c), .bool false] 38) = W0 at HM hO1 ⊢
        refine (hO1.out).mono ?_
        rintro e w1 ⟨rfl, hb1⟩
        have hH1 := HM.out.2.2.1.below hb1 HM.out.2.2.2.2
        have hM1 := HM.out.1.below hb1
        have hT1 := HM.out.2.1.below hb1 HM.out.2.1.2.2
        have hv1 := (Mv.of_below (HM.out.2.2.2.1) [g, nb]).trans (Mv.of_below hb1 [g, nb])
        clear hb1
        have hx : SLies w.heap.size name pl c false w1.drew := ⟨hH1.cell 0, hH1.cell 1, hH1.cell 2, hH1.cell 3⟩
        go_upto_region 4 with (fail)
        refine wp_region_held_drew (S := SLies w.heap.size name pl c false) (by kernel_rfl) hx (fun hHeld => ?_)
        first
        | (refine take_wanted (i := 0) (v := ?_) rfl rfl (by kernel_rfl) (by kernel_rfl) (by kernel_rfl) (fun _ _ _ h => h) (by rfl) (by assumption) ?_ ?_; rotate_left; (focus (intro w hSw; (try dsimp only at hSw); go_simp; first | done | with_reducible rfl)); (simp only [Act.at, List.setIfInBounds_toArray, List.set_cons_zero, List.set_cons_succ]))
        | (refine take_unwanted (i := 0) rfl rfl (by kernel_rfl) (by kernel_rfl) (by kernel_rfl) (fun _ _ _ h => h) (by rfl) (by assumption) ?_; (simp only [Act.at, List.setIfInBounds_toArray, List.set_cons_zero, List.set_cons_succ]))
        first
        | (refine take_wanted (i := 1) (v := ?_) rfl rfl (by kernel_rfl) (by kernel_rfl) (by kernel_rfl) (fun _ _ _ h => h) (by rfl) (by assumption) ?_ ?_; rotate_left; (focus (intro w hSw; (try dsimp only at hSw); go_simp; first | done | with_reducible rfl)); (simp only [Act.at, List.setIfInBounds_toArray, List.set_cons_zero, List.set_cons_succ]))
        | (refine take_unwanted (i := 1) rfl rfl (by kernel_rfl) (by kernel_rfl) (by kernel_rfl) (fun _ _ _ h => h) (by rfl) (by assumption) ?_; (simp only [Act.at, List.setIfInBounds_toArray, List.set_cons_zero, List.set_cons_succ]))
        first
        | (refine take_wanted (i := 2) (v := ?_) rfl rfl (by kernel_rfl) (by kernel_rfl) (by kernel_rfl) (fun _ _ _ h => h) (by rfl) (by assumption) ?_ ?_; rotate_left; (focus (intro w hSw; (try dsimp only at hSw); go_simp; first | done | with_reducible rfl)); (simp only [Act.at, List.setIfInBounds_toArray, List.set_cons_zero, List.set_cons_succ]))
        | (refine take_unwanted (i := 2) rfl rfl (by kernel_rfl) (by kernel_rfl) (by kernel_rfl) (fun _ _ _ h => h) (by rfl) (by assumption) ?_; (simp only [Act.at, List.setIfInBounds_toArray, List.set_cons_zero, List.set_cons_succ]))
        first
        | (refine take_wanted (i := 3) (v := ?_) rfl rfl (by kernel_rfl) (by kernel_rfl) (by kernel_rfl) (fun _ _ _ h => h) (by rfl) (by assumption) ?_ ?_; rotate_left; (focus (intro w hSw; (try dsimp only at hSw); go_simp; first | done | with_reducible rfl)); (simp only [Act.at, List.setIfInBounds_toArray, List.set_cons_zero, List.set_cons_succ]))
        | (refine take_unwanted (i := 3) rfl rfl (by kernel_rfl) (by kernel_rfl) (by kernel_rfl) (fun _ _ _ h => h) (by rfl) (by assumption) ?_; (simp only [Act.at, List.setIfInBounds_toArray, List.set_cons_zero, List.set_cons_succ]))
        first
        | (refine take_wanted (i := 4) (v := ?_) rfl rfl (by kernel_rfl) (by kernel_rfl) (by kernel_rfl) (fun _ _ _ h => h) (by rfl) (by assumption) ?_ ?_; rotate_left; (focus (intro w hSw; (try dsimp only at hSw); go_simp; first | done | with_reducible rfl)); (simp only [Act.at, List.setIfInBounds_toArray, List.set_cons_zero, List.set_cons_succ]))
        | (refine take_unwanted (i := 4) rfl rfl (by kernel_rfl) (by kernel_rfl) (by kernel_rfl) (fun _ _ _ h => h) (by rfl) (by assumption) ?_; (simp only [Act.at, List.setIfInBounds_toArray, List.set_cons_zero, List.set_cons_succ]))
        first
        | (refine take_wanted (i := 5) (v := ?_) rfl rfl (by kernel_rfl) (by kernel_rfl) (by kernel_rfl) (fun _ _ _ h => h) (by rfl) (by assumption) ?_ ?_; rotate_left; (focus (intro w hSw; (try dsimp only at hSw); go_simp; first | done | with_reducible rfl)); (simp only [Act.at, List.setIfInBounds_toArray, List.set_cons_zero, List.set_cons_succ]))
        | (refine take_unwanted (i := 5) rfl rfl (by kernel_rfl) (by kernel_rfl) (by kernel_rfl) (fun _ _ _ h => h) (by rfl) (by assumption) ?_; (simp only [Act.at, List.setIfInBounds_toArray, List.set_cons_zero, List.set_cons_succ]))
        first
        | (refine take_wanted (i := 6) (v := ?_) rfl rfl (by kernel_rfl) (by kernel_rfl) (by kernel_rfl) (fun _ _ _ h => h) (by rfl) (by assumption) ?_ ?_; rotate_left; (focus (intro w hSw; (try dsimp only at hSw); go_simp; first | done | with_reducible rfl)); (simp only [Act.at, List.setIfInBounds_toArray, List.set_cons_zero, List.set_cons_succ]))
        | (refine take_unwanted (i := 6) rfl rfl (by kernel_rfl) (by kernel_rfl) (by kernel_rfl) (fun _ _ _ h => h) (by rfl) (by assumption) ?_; (simp only [Act.at, List.setIfInBounds_toArray, List.set_cons_zero, List.set_cons_succ]))
        first
        | (refine take_wanted (i := 7) (v := ?_) rfl rfl (by kernel_rfl) (by kernel_rfl) (by kernel_rfl) (fun _ _ _ h => h) (by rfl) (by assumption) ?_ ?_; rotate_left; (focus (intro w hSw; (try dsimp only at hSw); go_simp; first | done | with_reducible rfl)); (simp only [Act.at, List.setIfInBounds_toArray, List.set_cons_zero, List.set_cons_succ]))
        | (refine take_unwanted (i := 7) rfl rfl (by kernel_rfl) (by kernel_rfl) (by kernel_rfl) (fun _ _ _ h => h) (by rfl) (by assumption) ?_; (simp only [Act.at, List.setIfInBounds_toArray, List.set_cons_zero, List.set_cons_succ]))
        first
        | (refine take_wanted (i := 8) (v := ?_) rfl rfl (by kernel_rfl) (by kernel_rfl) (by kernel_rfl) (fun _ _ _ h => h) (by rfl) (by assumption) ?_ ?_; rotate_left; (focus (intro w hSw; (try dsimp only at hSw); go_simp; first | done | with_reducible rfl)); (simp only [Act.at, List.setIfInBounds_toArray, List.set_cons_zero, List.set_cons_succ]))
        | (refine take_unwanted (i := 8) rfl rfl (by kernel_rfl) (by kernel_rfl) (by kernel_rfl) (fun _ _ _ h => h) (by rfl) (by assumption) ?_; (simp only [Act.at, List.setIfInBounds_toArray, List.set_cons_zero, List.set_cons_succ]))
        first
        | (refine take_wanted (i := 10) (v := ?_) rfl rfl (by kernel_rfl) (by kernel_rfl) (by kernel_rfl) (fun _ _ _ h => h) (by rfl) (by assumption) ?_ ?_; rotate_left; (focus (intro w hSw; (try dsimp only at hSw); go_simp; first | done | with_reducible rfl)); (simp only [Act.at, List.setIfInBounds_toArray, List.set_cons_zero, List.set_cons_succ]))
        | (refine take_unwanted (i := 10) rfl rfl (by kernel_rfl) (by kernel_rfl) (by kernel_rfl) (fun _ _ _ h => h) (by rfl) (by assumption) ?_; (simp only [Act.at, List.setIfInBounds_toArray, List.set_cons_zero, List.set_cons_succ]))
        first
        | (refine take_wanted (i := 11) (v := ?_) rfl rfl (by kernel_rfl) (by kernel_rfl) (by kernel_rfl) (fun _ _ _ h => h) (by rfl) (by assumption) ?_ ?_; rotate_left; (focus (intro w hSw; (try dsimp only at hSw); go_simp; first | done | with_reducible rfl)); (simp only [Act.at, List.setIfInBounds_toArray, List.set_cons_zero, List.set_cons_succ]))
        | (refine take_unwanted (i := 11) rfl rfl (by kernel_rfl) (by kernel_rfl) (by kernel_rfl) (fun _ _ _ h => h) (by rfl) (by assumption) ?_; (simp only [Act.at, List.setIfInBounds_toArray, List.set_cons_zero, List.set_cons_succ]))
        refine take_call (i := 9) (by kernel_rfl) rfl rfl (by rfl) (fun K hK => ?_)
        go_simp
        refine (HP.out w1.drew hM1 hT1).mono ?_
        rintro e w2 ⟨rfl, hM2, hv2⟩
        have hH2 := hv2.has (w := w1.drew) hH1 (by simp only [List.mem_cons, List.not_mem_nil, or_false]; omega)
        have hv3 := hv1.drew.trans hv2
        clear hx hH1 hM1 hT1 hv1 hv2
        have hx : SLies w.heap.size name pl c false w2 := ⟨hH2.cell 0, hH2.cell 1, hH2.cell 2, hH2.cell 3⟩
        refine hK.out _ _ hx (fun hHeld => ?_)
        clear hK K
        try simp only [Act.put, List.setIfInBounds_toArray, List.set_cons_zero, List.set_cons_succ]
        first
        | (refine take_wanted (i := 12) (v := ?_) rfl rfl (by kernel_rfl) (by kernel_rfl) (by kernel_rfl) (fun _ _ _ h => h) (by rfl) (by assumption) ?_ ?_; rotate_left; (focus (intro w hSw; (try dsimp only at hSw); go_simp; first | done | with_reducible rfl)); (simp only [Act.at, List.setIfInBounds_toArray, List.set_cons_zero, List.set_cons_succ]))
        | (refine take_unwanted (i := 12) rfl rfl (by kernel_rfl) (by kernel_rfl) (by kernel_rfl) (fun _ _ _ h => h) (by rfl) (by assumption) ?_; (simp only [Act.at, List.setIfInBounds_toArray, List.set_cons_zero, List.set_cons_succ]))
        first
        | (refine take_wanted (i := 13) (v := ?_) rfl rfl (by kernel_rfl) (by kernel_rfl) (by kernel_rfl) (fun _ _ _ h => h) (by rfl) (by assumption) ?_ ?_; rotate_left; (focus (intro w hSw; (try dsimp only at hSw); go_simp; first | done | with_reducible rfl)); (simp only [Act.at, List.setIfInBounds_toArray, List.set_cons_zero, List.set_cons_succ]))
        | (refine take_unwanted (i := 13) rfl rfl (by kernel_rfl) (by kernel_rfl) (by kernel_rfl) (fun _ _ _ h => h) (by rfl) (by assumption) ?_; (simp only [Act.at, List.setIfInBounds_toArray, List.set_cons_zero, List.set_cons_succ]))
        refine wpAnyH_done (by kernel_rfl) ?_ _
        go_wp2_with fail
        go_ret3
        exact ⟨rfl, hM2, hv3⟩
  · rw [if_pos rfl, if_pos rfl]
    go_enter Tryd.func27, Tryd.ntmps27
    go_wp2_with fail
    go_ret3
    exact ⟨rfl, HM.out.1, Mv.of_below HM.out.2.2.2.1 _⟩
end
end Go.Proofs.YtlbdpadifhgloaaDoor
