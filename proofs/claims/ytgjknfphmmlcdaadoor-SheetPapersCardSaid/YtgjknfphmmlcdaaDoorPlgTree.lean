/-
  The contracts of pledge's Leaf, Node, None.
-/
import Derived.Test.YtgjknfphmmlcdaaDoorMillTv
namespace Go.Proofs.YtgjknfphmmlcdaaDoor
open Go.RowKit
set_option linter.unusedVariables false

section
variable (g nb : Nat) (tv : Option Nat) (l : List Mill.En) (st : Mill.St) (w : World)

set_option maxHeartbeats 1000000 in
theorem plgLeaf_any (s : List UInt8) (h : MillTv w g nb tv l st) (h1 : s.length ≤ 100000000) (hsum : st.sums ≤ 4000000000000000000) (hr : Mill.right l = true) (hT : Tabs w) (hg : 2 ≤ g) :
    Calls Tryd.prog 19 #[.pointer (some ⟨g, 0, none⟩), .string (S s)] w (SumPostT w g nb tv l (Mill.step l (0 :: s) st) (Mill.hash l (0 :: s))) := by
  have HS := Lib.hid (millSum_anyT (0 :: s) g nb tv l st w h (by rw [List.length_cons]; omega) hsum hr hT hg)
  generalize Mill.hash l (0 :: s) = x at HS ⊢
  generalize Mill.step l (0 :: s) st = st' at HS ⊢
  clear h hT hsum hr hg
  go_enter Tryd.func19, Tryd.ntmps19
  go_wp2_with fail
  refine (HS.out).mono ?_
  rintro e w5 ⟨rfl, hm5, hv5⟩
  go_wp2_with fail
  go_ret
  exact ⟨rfl, hm5, hv5⟩
set_option maxHeartbeats 1000000 in
theorem plgNode_any (a b : List UInt8) (h : MillTv w g nb tv l st) (h1 : a.length ≤ 100000000) (h2 : b.length ≤ 100000000) (hsum : st.sums ≤ 4000000000000000000) (hr : Mill.right l = true) (hT : Tabs w) (hg : 2 ≤ g) :
    Calls Tryd.prog 31 #[.pointer (some ⟨g, 0, none⟩), .string (S a), .string (S b)] w (SumPostT w g nb tv l (Mill.step l ((1 :: a) ++ b) st) (Mill.hash l ((1 :: a) ++ b))) := by
  have HS := Lib.hid (millSum_anyT ((1 :: a) ++ b) g nb tv l st w h (by rw [List.length_append, List.length_cons]; omega) hsum hr hT hg)
  generalize Mill.hash l ((1 :: a) ++ b) = x at HS ⊢
  generalize Mill.step l ((1 :: a) ++ b) st = st' at HS ⊢
  clear h hT hsum hr hg
  go_enter Tryd.func31, Tryd.ntmps31
  go_wp2_with fail
  refine (HS.out).mono ?_
  rintro e w5 ⟨rfl, hm5, hv5⟩
  go_wp2_with fail
  go_ret
  exact ⟨rfl, hm5, hv5⟩
set_option maxHeartbeats 1000000 in
theorem plgNone_any (h : MillTv w g nb tv l st) (hsum : st.sums ≤ 4000000000000000000) (hr : Mill.right l = true) (hT : Tabs w) (hg : 2 ≤ g) :
    Calls Tryd.prog 29 #[.pointer (some ⟨g, 0, none⟩)] w (SumPostT w g nb tv l (Mill.step l [] st) (Mill.hash l [])) := by
  have HS := Lib.hid (millSum_anyT [] g nb tv l st w h (Nat.zero_le _) hsum hr hT hg)
  generalize Mill.hash l [] = x at HS ⊢
  generalize Mill.step l [] st = st' at HS ⊢
  clear h hT hsum hr hg
  go_enter Tryd.func29, Tryd.ntmps29
  go_wp2_with fail
  refine (HS.out).mono ?_
  rintro e w5 ⟨rfl, hm5, hv5⟩
  go_wp2_with fail
  go_ret
  exact ⟨rfl, hm5, hv5⟩
end
end Go.Proofs.YtgjknfphmmlcdaaDoor
