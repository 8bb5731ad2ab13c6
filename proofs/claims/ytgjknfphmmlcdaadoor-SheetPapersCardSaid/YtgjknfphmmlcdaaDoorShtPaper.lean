/-
  The leaf of a paper: the contracts of the program's Paper and Entry.
-/
import Derived.Test.YtgjknfphmmlcdaaDoorShtRoot
import Derived.Test.YtgjknfphmmlcdaaDoorWriteAll
namespace Go.Proofs.YtgjknfphmmlcdaaDoor
open Go.RowKit
set_option linter.unusedVariables false

namespace Sht
/-- What a paper's leaf is made of. -/
def paperB (id : List UInt8) (cls born cnt : Int) (root : List UInt8) : List UInt8 := (((txt id ++ M.encL cls) ++ M.encL born) ++ M.encL cnt) ++ txt root
def paperBad (cls born cnt : Int) : Bool := (decide (M.encL cls = []) || decide (M.encL born = [])) || decide (M.encL cnt = [])
def paperTs (id : List UInt8) (cls born cnt : Int) (root : List UInt8) : List (List UInt8) := if paperBad cls born cnt = true then [] else [0 :: paperB id cls born cnt root]
def paperV (l : List Mill.En) (id : List UInt8) (cls born cnt : Int) (root : List UInt8) : List UInt8 := if paperBad cls born cnt = true then [] else Mill.hash l (0 :: paperB id cls born cnt root)
theorem paperTs_len (id : List UInt8) (cls born cnt : Int) (root : List UInt8) : (paperTs id cls born cnt root).length ≤ 1 := by
  unfold paperTs; split <;> simp
def paperSt (id : List UInt8) (cls born cnt : Int) (root : List UInt8) : Wt.St := Wt.text root (Wt.num cnt (Wt.num born (Wt.num cls (Wt.text id ([], false)))))
theorem paperSt_flat (id : List UInt8) (cls born cnt : Int) (root : List UInt8) : Wt.flat (paperSt id cls born cnt root) = paperB id cls born cnt root := by
  unfold paperSt paperB txt
  rw [Wt.flat_text, Wt.flat_num, Wt.flat_num, Wt.flat_num, Wt.flat_text, show Wt.flat (([], false) : Wt.St) = [] from rfl, List.nil_append]
theorem text_bad (s : List UInt8) (st : Wt.St) (h : s.length ≤ 1000000) : (Wt.text s st).2 = st.2 := by
  unfold Wt.text
  rw [Wt.bad_raw, Wt.bad_num]
  have : ¬ M.encL (s.length : Int) = [] := by
    unfold M.encL
    rw [if_pos (by omega)]
    intro e; cases e
  rw [decide_eq_false this, Bool.or_false]
theorem paperSt_bad (id : List UInt8) (cls born cnt : Int) (root : List UInt8) (h1 : id.length ≤ 1000000) (h2 : root.length ≤ 1000000) : (paperSt id cls born cnt root).2 = paperBad cls born cnt := by
  unfold paperSt paperBad
  rw [text_bad _ _ h2, Wt.bad_num, Wt.bad_num, Wt.bad_num, text_bad _ _ h1, Bool.false_or]
theorem paperB_len (id : List UInt8) (cls born cnt : Int) (root : List UInt8) : (paperB id cls born cnt root).length ≤ id.length + root.length + 40 := by
  unfold paperB
  simp only [List.length_append]
  have := txt_len id; have := txt_len root
  have := M.encL_len cls; have := M.encL_len born; have := M.encL_len cnt
  omega
end Sht
theorem swr_new (w : World) : Wr (w.alloc (.cells #[.pointer none, .int .i64 0, .bool false] 75)) w.heap.size ([], false) :=
  ⟨none, Has.made w _ _, rfl⟩

section
variable (g nb : Nat) (tv : Option Nat) (l : List Mill.En)
set_option maxHeartbeats 4000000 in
set_option maxRecDepth 100000 in
theorem shPaper_any (hr : Mill.right l = true) (st : Mill.St) (w : World) (id : List UInt8) (cls born cnt : Int) (root : List UInt8) (h : MkW w g nb tv l st) (h1 : id.length ≤ 1000000) (h2 : root.length ≤ 1000000) (hsum : st.sums ≤ 4000000000000000000) :
    Calls Tryd.prog 16 #[.pointer (some ⟨g, 0, none⟩), .string (S id), .int .i64 cls, .int .i64 born, .int .i64 cnt, .string (S root)] w (MkPost w g nb tv l st (Sht.paperTs id cls born cnt root) (.string (S (Sht.paperV l id cls born cnt root)))) := by
  have hb0 : Below w.heap.size w (w.alloc (.cells #[.pointer none, .int .i64 0, .bool false] 75)) := (Below.refl _ _).alloc (Nat.le_refl _) _
  have hs0 : (w.alloc (.cells #[.pointer none, .int .i64 0, .bool false] 75)).heap.size = w.heap.size + 1 := by simp
  have l1 : (Wt.flat (Wt.text id ([], false))).length ≤ 1000010 := by
    rw [Wt.flat_text, List.length_append, List.length_append]
    have := M.encL_len id.length
    have : (Wt.flat (([], false) : Wt.St)).length = 0 := rfl
    omega
  have l2 : (Wt.flat (Wt.num cls (Wt.text id ([], false)))).length ≤ 1000020 := by
    rw [Wt.flat_num, List.length_append]; have := M.encL_len cls; omega
  have l3 : (Wt.flat (Wt.num born (Wt.num cls (Wt.text id ([], false))))).length ≤ 1000030 := by
    rw [Wt.flat_num, List.length_append]; have := M.encL_len born; omega
  have l4 : (Wt.flat (Wt.num cnt (Wt.num born (Wt.num cls (Wt.text id ([], false)))))).length ≤ 1000040 := by
    rw [Wt.flat_num, List.length_append]; have := M.encL_len cnt; omega
  have T1 := fun W hW => wtext_wr id w.heap.size ([], false) W hW (by have : (Wt.flat (([], false) : Wt.St)).length = 0 := rfl; omega)
  have T2 := fun W hW => wnum_wr cls w.heap.size (Wt.text id ([], false)) W hW (by have := l1; omega)
  have T3 := fun W hW => wnum_wr born w.heap.size (Wt.num cls (Wt.text id ([], false))) W hW (by have := l2; omega)
  have T4 := fun W hW => wnum_wr cnt w.heap.size (Wt.num born (Wt.num cls (Wt.text id ([], false)))) W hW (by have := l3; omega)
  have T5 := fun W hW => wtext_wr root w.heap.size (Wt.num cnt (Wt.num born (Wt.num cls (Wt.text id ([], false))))) W hW (by have := l4; omega)
  have hfl := Sht.paperSt_flat id cls born cnt root
  have hbd := Sht.paperSt_bad id cls born cnt root h1 h2
  have hln := Sht.paperB_len id cls born cnt root
  have hL := fun W (hM : MkW W g nb tv l st) => mkLeaf_any g nb tv l hr st W (Sht.paperB id cls born cnt root) hM (by omega) hsum
  have hst : Sht.paperSt id cls born cnt root = Wt.text root (Wt.num cnt (Wt.num born (Wt.num cls (Wt.text id ([], false))))) := rfl
  rw [← hst] at T5
  unfold MkPost at hL ⊢
  have hq : (Sht.paperBad cls born cnt = true ∧ Sht.paperTs id cls born cnt root = [] ∧ Sht.paperV l id cls born cnt root = []) ∨ (Sht.paperBad cls born cnt = false ∧ Sht.paperTs id cls born cnt root = [0 :: Sht.paperB id cls born cnt root] ∧ Sht.paperV l id cls born cnt root = Mill.hash l (0 :: Sht.paperB id cls born cnt root)) := by
    unfold Sht.paperTs Sht.paperV
    cases hc : Sht.paperBad cls born cnt with
    | true => exact Or.inl ⟨rfl, by rw [if_pos rfl], by rw [if_pos rfl]⟩
    | false => exact Or.inr ⟨rfl, by rw [if_neg (by decide)], by rw [if_neg (by decide)]⟩
  generalize Sht.paperTs id cls born cnt root = tsx at *
  generalize Sht.paperV l id cls born cnt root = vx at *
  have hnew := swr_new w
  have HT := Lib.hid (And.intro T1 (And.intro T2 (And.intro T3 (And.intro T4 T5)))); clear T1 T2 T3 T4 T5
  clear l1 l2 l3 l4 hst hr
  generalize Sht.paperSt id cls born cnt root = s5 at *
  generalize Sht.paperB id cls born cnt root = pb at *
  generalize Mill.hash l (0 :: pb) = y at *
  generalize [(0 :: pb)] = qs at *
  generalize Sht.paperBad cls born cnt = bd at *
  have A1 := fun W (hW : Wr W w.heap.size s5) (hb : s5.2 = true) => all_bad w.heap.size s5 W hW hb
  have A2 := fun W (hW : Wr W w.heap.size s5) (hb : s5.2 = false) => all_good w.heap.size s5 W hW hb (by rw [hfl]; omega)
  rw [hfl] at A2
  rw [hbd] at A1 A2
  have HA := Lib.hid (And.intro A1 A2); clear A1 A2
  have HL := Lib.hid hL; clear hL
  have HM := Lib.hid (And.intro h (And.intro hb0 hnew)); clear h hb0 hnew
  clear hfl hbd h1 h2
  go_enter Tryd.func16, Tryd.ntmps16
  go_wp2_with fail
  generalize w.alloc (.cells #[.pointer none, .int .i64 0, .bool false] 75) = W0 at HM hs0 ⊢
  refine (HT.out.1 _ HM.out.2.2).mono ?_
  rintro e w1 ⟨rfl, hw1, ho1⟩
  go_wp2_with fail
  refine (HT.out.2.1 _ hw1).mono ?_
  rintro e w2 ⟨rfl, hw2, ho2⟩
  replace ho2 := ho1.trans ho2; clear ho1 hw1
  go_wp2_with fail
  refine (HT.out.2.2.1 _ hw2).mono ?_
  rintro e w3 ⟨rfl, hw3, ho3⟩
  replace ho3 := ho2.trans ho3; clear ho2 hw2
  go_wp2_with fail
  refine (HT.out.2.2.2.1 _ hw3).mono ?_
  rintro e w4 ⟨rfl, hw4, ho4⟩
  replace ho4 := ho3.trans ho4; clear ho3 hw3
  go_wp2_with fail
  refine (HT.out.2.2.2.2 _ hw4).mono ?_
  rintro e w5 ⟨rfl, hw5, ho5⟩
  replace ho5 := ho4.trans ho5; clear ho4 hw4
  have hb5 := ho5.below HM.out.2.1 (by omega) (Nat.le_refl _)
  clear ho5 HT hs0
  have HW := Lib.hid hw5; clear hw5
  rcases hq with ⟨rfl, rfl, rfl⟩ | ⟨rfl, rfl, rfl⟩
  · go_wp2_with fail
    refine (HA.out.1 _ HW.out trivial).mono ?_
    rintro e w6 ⟨rfl, rfl⟩
    go_wp2_with fail
    go_ret
    exact ⟨rfl, HM.out.1.below hb5, Mv.of_below hb5 _⟩
  · go_wp2_with fail
    refine (HA.out.2 _ HW.out trivial).mono ?_
    rintro e w6 ⟨rfl, hb6⟩
    have hb6' := hb5.trans (hb6.mono hb5.size)
    go_wp2_with fail
    refine (HL.out _ (HM.out.1.below hb6')).mono ?_
    rintro e w7 ⟨rfl, hm7, hv7⟩
    go_wp2_with fail
    go_ret
    exact ⟨rfl, hm7, (Mv.of_below hb6' _).trans hv7⟩
end
end Go.Proofs.YtgjknfphmmlcdaaDoor
