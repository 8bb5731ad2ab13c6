/-
  A field's leaf: the contracts of octet's Text, of the program's Leaf, and of the eighth layer's statements' own leaf.
-/
import Derived.Test.YtgjknfphmmlcdaaDoorShtRow
import Derived.Test.YtgjknfphmmlcdaaDoorNum
namespace Go.Proofs.YtgjknfphmmlcdaaDoor
open Go.RowKit
set_option linter.unusedVariables false

namespace Sht
/-- A text as it is laid. -/
def txt (s : List UInt8) : List UInt8 := M.encL s.length ++ s
theorem txt_len (s : List UInt8) : (txt s).length ≤ s.length + 8 := by
  unfold txt
  have := M.encL_len s.length
  rw [List.length_append]; omega
def leafT (n p : List UInt8) : List UInt8 := 0 :: (txt n ++ txt p)
def leaf (l : List Mill.En) (n p : List UInt8) : List UInt8 := Mill.hash l (leafT n p)
end Sht
theorem stxt_any (l : List UInt8) (w : World) (hl : l.length ≤ 140737488351232) :
    Calls Tryd.prog 20 #[.string (S l)] w fun e w' => e = .returned (.string (S (Sht.txt l))) ∧ Below w.heap.size w w' := by
  have hb := M.encL_len l.length
  have hlim : ¬ 9223372036854775807 < (M.encL l.length).length + l.length := by omega
  unfold Sht.txt
  go_enter Tryd.func20, Tryd.ntmps20
  go_wp2_with (go_at_call 17; refine (num_any _ _).mono ?_; rintro e w1 ⟨rfl, hb1⟩)
  go_ret
  exact ⟨rfl, hb1⟩

section
variable (g nb : Nat) (tv : Option Nat) (l : List Mill.En)

set_option maxHeartbeats 2000000 in
theorem shLeaf_any (hr : Mill.right l = true) (st : Mill.St) (w : World) (n p : List UInt8) (h : MkW w g nb tv l st) (hn : n.length ≤ 1000000) (hp : p.length ≤ 1000000) (hsum : st.sums ≤ 4000000000000000000) :
    Calls Tryd.prog 10 #[.pointer (some ⟨g, 0, none⟩), .string (S n), .string (S p)] w (MkPost w g nb tv l st [Sht.leafT n p] (.string (S (Sht.leaf l n p)))) := by
  have hT1 := fun W => stxt_any n W (by omega)
  have hT2 := fun W => stxt_any p W (by omega)
  have h1 := Sht.txt_len n
  have h2 := Sht.txt_len p
  have hL := fun W (hM : MkW W g nb tv l st) => mkLeaf_any g nb tv l hr st W (Sht.txt n ++ Sht.txt p) hM (by rw [List.length_append]; omega) hsum
  have e1 : Sht.leafT n p = 0 :: (Sht.txt n ++ Sht.txt p) := rfl
  have e2 : Sht.leaf l n p = Mill.hash l (0 :: (Sht.txt n ++ Sht.txt p)) := rfl
  unfold MkPost at hL ⊢
  rw [e1, e2]
  have hlim : ¬ 9223372036854775807 < (Sht.txt n).length + (Sht.txt p).length := by omega
  generalize Mill.hash l (0 :: (Sht.txt n ++ Sht.txt p)) = x at hL ⊢
  generalize Mill.steps l [0 :: (Sht.txt n ++ Sht.txt p)] st = st' at hL ⊢
  generalize Sht.txt n = a at *
  generalize Sht.txt p = b at *
  have HL := Lib.hid hL; clear hL
  have HT1 := Lib.hid hT1; clear hT1
  have HT2 := Lib.hid hT2; clear hT2
  have HM := Lib.hid h; clear h
  clear hr hsum hn hp h1 h2 e1 e2
  go_enter Tryd.func10, Tryd.ntmps10
  go_wp2_with fail
  refine (HT1.out _).mono ?_
  rintro e w1 ⟨rfl, hb1⟩
  go_wp2_with fail
  refine (HT2.out _).mono ?_
  rintro e w2 ⟨rfl, hb2⟩
  have hb := hb1.trans (hb2.mono hb1.size)
  go_wp2_with fail
  refine (HL.out _ (HM.out.below hb)).mono ?_
  rintro e w5 ⟨rfl, hm5, hv5⟩
  go_wp2_with fail
  go_ret
  exact ⟨rfl, hm5, (Mv.of_below hb _).trans hv5⟩

/-- The cells of a slip in a block of its own. -/
abbrev SlL (G : Nat) (n p : List UInt8) (W : World) : Prop := W.cell? ⟨G, 0, none⟩ = some (.string (S n)) ∧ W.cell? ⟨G, 1, none⟩ = some (.string (S p))

set_option maxHeartbeats 4000000 in
theorem slLeaf_any (hr : Mill.right l = true) (st : Mill.St) (w : World) (n p c : List UInt8) (er : Bool) (h : MkW w g nb tv l st) (hn : n.length ≤ 1000000) (hp : p.length ≤ 1000000) (hsum : st.sums ≤ 4000000000000000000) :
    Calls Tryd.prog 11 #[.pointer (some ⟨g, 0, none⟩), .agg #[.string (S n), .string (S p), .string (S c), .bool er]] w (MkPost w g nb tv l st [Sht.leafT n p] (.string (S (Sht.leaf l n p)))) := by
  have hT1 := fun W => stxt_any n W (by omega)
  have hT2 := fun W => stxt_any p W (by omega)
  have h1 := Sht.txt_len n
  have h2 := Sht.txt_len p
  have hL := fun W (hM : MkW W g nb tv l st) => mkLeaf_any g nb tv l hr st W (Sht.txt n ++ Sht.txt p) hM (by rw [List.length_append]; omega) hsum
  have e1 : Sht.leafT n p = 0 :: (Sht.txt n ++ Sht.txt p) := rfl
  have e2 : Sht.leaf l n p = Mill.hash l (0 :: (Sht.txt n ++ Sht.txt p)) := rfl
  unfold MkPost at hL ⊢
  rw [e1, e2]
  have hlim : ¬ 9223372036854775807 < (Sht.txt n).length + (Sht.txt p).length := by omega
  generalize Mill.hash l (0 :: (Sht.txt n ++ Sht.txt p)) = x at hL ⊢
  generalize Mill.steps l [0 :: (Sht.txt n ++ Sht.txt p)] st = st' at hL ⊢
  generalize Sht.txt n = a at *
  generalize Sht.txt p = b at *
  have HL := Lib.hid hL; clear hL
  have HT1 := Lib.hid hT1; clear hT1
  have HT2 := Lib.hid hT2; clear hT2
  have hgl := h.m.lt
  have hb0 := belowB w (.cells #[.string (S n), .string (S p), .string (S c), .bool er] 27)
  have hH0 := Has.made w 27 #[.string (S n), .string (S p), .string (S c), .bool er]
  have hs0 : w.heap.size < (w.alloc (.cells #[.string (S n), .string (S p), .string (S c), .bool er] 27)).heap.size := hH0.lt
  have hm0 := h.below hb0
  clear hr hsum hn hp h1 h2 e1 e2 h
  go_enter Tryd.func11, Tryd.ntmps11
  go_upto_region 1 with (fail)
  generalize w.alloc (.cells #[.string (S n), .string (S p), .string (S c), .bool er] 27) = W0 at *
  have HM := Lib.hid (And.intro (hm0.below (Below.drew (Below.refl W0.heap.size W0))) (And.intro (hb0.drew) (show w.heap.size < W0.drew.heap.size from hs0))); clear hm0 hb0
  have hx : SlL w.heap.size n p W0.drew := ⟨hH0.cell 0, hH0.cell 1⟩
  clear hH0 hs0
  go_region_held3 (SlL w.heap.size n p)
    (first | exact hx | go_keep)
    (first
      | (go_at_call 20; first
          | (refine (HT1.out _).mono ?_; rintro r w1 ⟨rfl, hb1⟩; have hx1 : SlL w.heap.size n p w1 := ⟨(hb1.cell (p := ⟨w.heap.size, 0, none⟩) HM.out.2.2).trans hx.1, (hb1.cell (p := ⟨w.heap.size, 1, none⟩) HM.out.2.2).trans hx.2⟩; replace HM := Lib.hid (And.intro (HM.out.1.below hb1) (And.intro (HM.out.2.1.trans (hb1.mono HM.out.2.1.size)) (Nat.lt_of_lt_of_le HM.out.2.2 hb1.size))); clear hx; have hx := hx1; clear hx1 hb1)
          | (refine (HT2.out _).mono ?_; rintro r w1 ⟨rfl, hb1⟩; have hx1 : SlL w.heap.size n p w1 := ⟨(hb1.cell (p := ⟨w.heap.size, 0, none⟩) HM.out.2.2).trans hx.1, (hb1.cell (p := ⟨w.heap.size, 1, none⟩) HM.out.2.2).trans hx.2⟩; replace HM := Lib.hid (And.intro (HM.out.1.below hb1) (And.intro (HM.out.2.1.trans (hb1.mono HM.out.2.1.size)) (Nat.lt_of_lt_of_le HM.out.2.2 hb1.size))); clear hx; have hx := hx1; clear hx1 hb1))
      | (go_at_call 19; refine (HL.out _ HM.out.1).mono ?_; rintro r w1 ⟨rfl, hm1, hv1⟩; have hx1 : SlL w.heap.size n p w1 := ⟨World.cell_block (hv1.block w.heap.size HM.out.2.2 (by simp only [List.mem_cons, List.not_mem_nil, or_false]; omega)) hx.1, World.cell_block (hv1.block w.heap.size HM.out.2.2 (by simp only [List.mem_cons, List.not_mem_nil, or_false]; omega)) hx.2⟩; have HF := Lib.hid (And.intro hm1 ((Mv.of_below HM.out.2.1 [g, nb]).trans hv1)); clear hx; have hx := hx1; clear hx1 hm1 hv1))
  go_wp2_with fail
  go_ret
  exact ⟨rfl, HF.out⟩
end
end Go.Proofs.YtgjknfphmmlcdaaDoor
