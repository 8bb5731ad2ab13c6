/-
  The statements' own guard (made), and their example (awake).
-/
import Derived.Test.YtcgdjljfgjoliaaDoorGrdW
import Derived.Test.YtcgdjljfgjoliaaDoorDskN
namespace Go.Proofs.YtcgdjljfgjoliaaDoor
open Go.RowKit
set_option linter.unusedVariables false

def MadePost (w : World) (boot : Nat) (e : Ending) (w' : World) : Prop :=
  ∃ gg g bd mb, e = .returned (.tuple #[.pointer (some ⟨g, 0, none⟩), .pointer (some ⟨gg, 0, none⟩)]) ∧ GW w w' gg g bd mb boot 0 (Dsk.fresh 10)
set_option maxRecDepth 100000 in
theorem made_any (boot : Nat) (h1 : 1 ≤ boot) (h2 : boot ≤ 2147483647) (w : World) : Calls Tryd.prog 9 #[.int .i64 (boot : Int)] w (MadePost w boot) := by
  have HNEW : Hid (Calls Tryd.prog 32 #[.int .i64 10] w (NewDPost w 10)) := Lib.hid (newd_any 10 (by decide) (by decide) w)
  have HG : Hid (∀ (W : World) (g bd mb : Nat), DiskAt W g bd mb (Dsk.fresh 10) → Calls Tryd.prog 31 #[.pointer (some ⟨g, 0, none⟩), .int .i64 (boot : Int)] W (NewGPost W g bd mb boot (Dsk.fresh 10))) :=
    Lib.hid (fun W g bd mb h => gnew_any h boot h1 h2)
  unfold NewDPost at HNEW
  unfold NewGPost at HG
  unfold MadePost
  generalize Dsk.fresh 10 = d0 at HNEW HG ⊢
  clear h1 h2
  go_enter Tryd.func9, Tryd.ntmps9
  go_wp2_with fail
  refine HNEW.out.mono ?_
  rintro r w1 ⟨g, bd, mb, rfl, hd, hb, hg, hbd, hmb⟩
  have H := Lib.hid (And.intro hd (And.intro hb (And.intro hg (And.intro hbd hmb))))
  clear hd hb hg hbd hmb
  go_wp2_with fail
  refine (HG.out _ _ _ _ H.out.1).mono ?_
  rintro r w2 ⟨gg, rfl, hga, hb, hgg⟩
  have HF : Hid (GW w w2 gg g bd mb boot 0 d0) := Lib.hid ⟨hga, H.out.2.1.trans (hb.mono H.out.2.1.size), by
    intro k hk
    obtain ⟨_, h2, h3, h4, h5⟩ := H.out
    have := h2.size
    simp only [List.mem_cons, List.not_mem_nil, or_false] at hk
    rcases hk with rfl | rfl | rfl | rfl <;> omega⟩
  clear hga hb hgg
  go_wp2_with fail
  go_ret2
  exact ⟨gg, g, bd, mb, rfl, HF.out⟩
set_option maxRecDepth 100000 in
theorem made_bad (i : Int) (hi : i < 1 ∨ 2147483647 < i) (w : World) : Calls Tryd.prog 9 #[.int .i64 i] w fun e w' => e = .returned (.tuple #[.pointer none, .pointer none]) ∧ Below w.heap.size w w' := by
  have HNEW : Hid (Calls Tryd.prog 32 #[.int .i64 10] w (NewDPost w 10)) := Lib.hid (newd_any 10 (by decide) (by decide) w)
  have HG : Hid (∀ (W : World) (g bd mb : Nat), DiskAt W g bd mb (Dsk.fresh 10) → Calls Tryd.prog 31 #[.pointer (some ⟨g, 0, none⟩), .int .i64 i] W fun e w' => e = .returned (.tuple #[.pointer none, .int .i64 1]) ∧ W = w') :=
    Lib.hid (fun W g bd mb h => gnew_bad h i hi)
  unfold NewDPost at HNEW
  generalize Dsk.fresh 10 = d0 at HNEW HG
  clear hi
  go_enter Tryd.func9, Tryd.ntmps9
  go_wp2_with fail
  refine HNEW.out.mono ?_
  rintro r w1 ⟨g, bd, mb, rfl, hd, hb, hg, hbd, hmb⟩
  have H := Lib.hid (And.intro hd hb)
  clear hd hb hg hbd hmb
  go_wp2_with fail
  refine (HG.out _ _ _ _ H.out.1).mono ?_
  rintro r w2 ⟨rfl, rfl⟩
  go_wp2_with fail
  go_ret2
  exact ⟨rfl, H.out.2⟩

namespace Grd
def aw1 : Int × Int × Nat × Dsk.St := put 1 0 (Dsk.fresh 10) 0 [120]
theorem aw1_a : aw1.1 = 4294967297 := by decide +kernel
theorem aw1_b : aw1.2.1 = 0 := by decide +kernel
theorem aw1_r : read aw1.2.2.2 0 = ([120], 4294967297, 0) := by decide +kernel
end Grd
set_option maxRecDepth 100000 in
theorem gawake_any (w : World) : Calls Tryd.prog 8 #[] w fun r w' => r = .returned (.bool true) ∧ Below w.heap.size w w' := by
  have HM : Hid (Calls Tryd.prog 9 #[.int .i64 1] w (MadePost w 1)) := Lib.hid (made_any 1 (by decide) (by decide) w)
  have HP : Hid (∀ (W : World) (gg g bd mb : Nat), GuardAt W gg g bd mb 1 0 (Dsk.fresh 10) → Calls Tryd.prog 10 #[.pointer (some ⟨gg, 0, none⟩), .int .i64 0, .string (S [120])] W fun e w' =>
      e = .returned (.tuple #[.int .i64 4294967297, .int .i64 0]) ∧ GuardAt w' gg g bd mb 1 Grd.aw1.2.2.1 Grd.aw1.2.2.2 ∧ Mv W w' [gg, g, bd, mb]) := Lib.hid (fun W gg g bd mb h => by
    have := gput_any h (by decide) (by decide) (by decide) 0 [120]
    change Calls _ _ _ _ (PutPost W gg g bd mb 1 Grd.aw1) at this
    unfold PutPost at this
    rw [Grd.aw1_a, Grd.aw1_b] at this
    exact this)
  have HR : Hid (∀ (W : World) (gg g bd mb : Nat), GuardAt W gg g bd mb 1 Grd.aw1.2.2.1 Grd.aw1.2.2.2 → Calls Tryd.prog 12 #[.pointer (some ⟨gg, 0, none⟩), .int .i64 0] W fun e w' =>
      e = .returned (.tuple #[.string (S [120]), .int .i64 4294967297, .int .i64 0]) ∧ Below W.heap.size W w') := Lib.hid (fun W gg g bd mb h => by
    have := gget_any h 0
    rw [Grd.aw1_r] at this
    exact this)
  unfold MadePost at HM
  generalize Dsk.fresh 10 = d0 at HM HP
  generalize Grd.aw1.2.2.1 = n1 at HP HR
  generalize Grd.aw1.2.2.2 = d1 at HP HR
  go_enter Tryd.func8, Tryd.ntmps8
  go_wp2_with fail
  refine HM.out.mono ?_
  rintro r w1 ⟨gg, g, bd, mb, rfl, hg⟩
  have H := Lib.hid hg
  clear hg
  go_wp2_with fail
  refine (HP.out _ _ _ _ _ H.out.at_).mono ?_
  rintro r w2 ⟨rfl, hg, hm⟩
  replace H := Lib.hid (H.out.mv hg hm)
  clear hg hm
  go_wp2_with fail
  refine (HR.out _ _ _ _ _ H.out.at_).mono ?_
  rintro r w3 ⟨rfl, hb⟩
  replace H := Lib.hid (H.out.below hb)
  clear hb
  go_wp2_with fail
  go_ret
  exact ⟨rfl, H.out.bel⟩
end Go.Proofs.YtcgdjljfgjoliaaDoor
