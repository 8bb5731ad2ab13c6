/-
  SheetApart where it asks nothing.
-/
import Derived.Test.YtgjknfphmmlcdaaDoorShtTwins
import Derived.Test.YtgjknfphmmlcdaaDoorShtArg
import Derived.Test.YtgjknfphmmlcdaaDoorMillLate
import Derived.Test.YtgjknfphmmlcdaaDoorLaw
import Derived.Test.YtgjknfphmmlcdaaDoorRows
namespace Go.Proofs.YtgjknfphmmlcdaaDoor
open Go.ChangeShapes Go.WideShapes Go.ChangeAt Go.RowKit
open Go.ChangeMaps (open_string shut_string)
set_option linter.unusedVariables false

set_option maxHeartbeats 4000000 in
set_option maxRecDepth 100000 in
theorem sheetApart_out (A : Option Addr) (m : List Mill.En) (n0 cap : Nat) (n : Int) (A1 A2 A3 A4 A5 : Option Addr) (k1 k2 k3 k4 k5 c1 c2 c3 c4 c5 : Nat) (hm10 : m.length ≤ 10) (hfit : Mill.fit m) (w : World) (hE : Ents w A m) (hT : Tabs w)
    (hg : (12 : Int) < (k1 : Int) ∨ (¬ (12 : Int) < (k1 : Int) ∧ (20 : Int) < (k3 : Int)) ∨ (¬ (12 : Int) < (k1 : Int) ∧ ¬ (20 : Int) < (k3 : Int) ∧ (20 : Int) < (k5 : Int)) ∨
      (¬ (12 : Int) < (k1 : Int) ∧ ¬ (20 : Int) < (k3 : Int) ∧ ¬ (20 : Int) < (k5 : Int) ∧ ((k2 : Int) != (k4 : Int)) = true) ∨
      (¬ (12 : Int) < (k1 : Int) ∧ ¬ (20 : Int) < (k3 : Int) ∧ ¬ (20 : Int) < (k5 : Int) ∧ ((k2 : Int) != (k4 : Int)) = false ∧ (12 : Int) < (k2 : Int)))
    (hcut : (n0 = m.length ∧ ¬ (10 : Int) < (n0 : Int)) ∨ ((10 : Int) < (n0 : Int) ∧ m.length = 10 ∧ (10 : Int) ≤ (cap : Int))) (hncap : (n0 : Int) ≤ (cap : Int)) (hcm : (cap : Int) ≤ 9223372036854775807) :
    Calls Tryd.prog 7 #[.slice A n0 cap, .int .i64 n, .slice A1 k1 c1, .slice A2 k2 c2, .slice A3 k3 c3, .slice A4 k4 c4, .slice A5 k5 c5] w fun e w' => e = .returned (.bool true) ∧ Below w.heap.size w w' := by
  have hW := with_any A m cap (by omega) hfit w hE hT
  unfold WithPost at hW
  have HW := Lib.hid hW; clear hW
  have HT := Lib.hid hT
  have h2 := hT.2.2
  clear hE hT hfit
  rcases hcut with ⟨rfl, h10⟩ | ⟨h10, hl, hc10⟩
  case' inr => rw [hl] at HW
  all_goals
    rcases hg with g1 | ⟨g1, g2⟩ | ⟨g1, g2, g3⟩ | ⟨g1, g2, g3, g4⟩ | ⟨g1, g2, g3, g4, g5⟩
    all_goals
      go_enter Tryd.func7, Tryd.ntmps7
      go_wp2_with fail
      refine HW.out.mono ?_
      rintro r1 w1 ⟨hb1, ⟨hr, rfl, hm1⟩ | ⟨hr, rfl⟩⟩
      all_goals
        have HA := Lib.hid (slAwake_any w1 (HT.out.below hb1 (by omega)))
        go_wp2_with fail
        refine HA.out.mono ?_
        rintro r w6 ⟨rfl, hb⟩
        go_wp2_with fail
        go_ret
        exact ⟨rfl, hb1.trans (hb.mono hb1.size)⟩
end Go.Proofs.YtgjknfphmmlcdaaDoor
