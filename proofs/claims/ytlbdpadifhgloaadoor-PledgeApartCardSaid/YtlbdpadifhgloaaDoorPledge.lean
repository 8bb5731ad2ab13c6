/-
  The contracts of pledge's Of, Leaf, Node, None, Key, Salt, label, Shut, Open.
-/
import Derived.Test.YtlbdpadifhgloaaDoorPlgSpec
namespace Go.Proofs.YtlbdpadifhgloaaDoor
open Go.RowKit
set_option linter.unusedVariables false

set_option maxHeartbeats 400000 in
theorem text_any (l : List UInt8) (w : World) (hl : l.length ≤ 140737488351232) :
    Calls Tryd.prog 20 #[.string (S l)] w fun e w' => e = .returned (.string (S (Plg.txt l))) ∧ Below w.heap.size w w' := by
  have hb := M.encL_len l.length
  have hlim : ¬ 9223372036854775807 < (M.encL l.length).length + l.length := by omega
  unfold Plg.txt
  go_enter Tryd.func20, Tryd.ntmps20
  go_wp2_with (go_at_call 35; refine (num_any _ _).mono ?_; rintro e w1 ⟨rfl, hb1⟩)
  go_ret
  exact ⟨rfl, hb1⟩

section
variable (g nb : Nat) (tv : Option Nat) (l : List Mill.En) (st : Mill.St) (w : World)

set_option maxHeartbeats 2000000 in
theorem plgOf_any (id name salt value : List UInt8) (h : MillTv w g nb tv l st) (h1 : id.length ≤ 1000000) (h2 : name.length ≤ 1000000) (h3 : salt.length ≤ 1000000) (h4 : value.length ≤ 1000000) (hsum : st.sums ≤ 4000000000000000000) (hr : Mill.right l = true) (hT : Tabs w) (hg : 2 ≤ g) :
    Calls Tryd.prog 12 #[.pointer (some ⟨g, 0, none⟩), .string (S id), .string (S name), .string (S salt), .string (S value)] w (SumPostT w g nb tv l (Mill.step l (Plg.of id name salt value) st) (Mill.hash l (Plg.of id name salt value))) := by
  have hrl := Plg.of_small h1 h2 h3 h4
  have l1 := Plg.txt_len id; have l2 := Plg.txt_len name; have l3 := Plg.txt_len salt; have l4 := Plg.txt_len value
  have x1 := fun W => text_any id W (by omega)
  have x2 := fun W => text_any name W (by omega)
  have x3 := fun W => text_any salt W (by omega)
  have x4 := fun W => text_any value W (by omega)
  unfold Plg.of at hrl ⊢
  generalize Plg.txt id = a at l1 x1 hrl ⊢
  generalize Plg.txt name = b at l2 x2 hrl ⊢
  generalize Plg.txt salt = c at l3 x3 hrl ⊢
  generalize Plg.txt value = d at l4 x4 hrl ⊢
  obtain ⟨u1, e1⟩ : ∃ u, 2 :: a = u := ⟨_, rfl⟩
  obtain ⟨u2, e2⟩ : ∃ u, u1 ++ b = u := ⟨_, rfl⟩
  obtain ⟨u3, e3⟩ : ∃ u, u2 ++ c = u := ⟨_, rfl⟩
  obtain ⟨u4, e4⟩ : ∃ u, u3 ++ d = u := ⟨_, rfl⟩
  have eu := Plg.cat5 2 a b c d u1 u2 u3 u4 e1 e2 e3 e4
  rw [eu] at hrl ⊢
  have m1 : u1.length ≤ 1000020 := by rw [← e1, List.length_cons]; omega
  have m2 : u2.length ≤ 2000040 := by rw [← e2, List.length_append]; omega
  have m3 : u3.length ≤ 3000060 := by rw [← e3, List.length_append]; omega
  have q1 : ¬ 9223372036854775807 < 1 + a.length := by omega
  have q2 : ¬ 9223372036854775807 < u1.length + b.length := by omega
  have q3 : ¬ 9223372036854775807 < u2.length + c.length := by omega
  have q4 : ¬ 9223372036854775807 < u3.length + d.length := by omega
  clear eu m1 m2 m3 l1 l2 l3 l4 h1 h2 h3 h4
  have HS := Lib.hid (fun W hW hTW => millSum_anyT u4 g nb tv l st W hW hrl hsum hr hTW hg); clear hrl hsum
  generalize Mill.hash l u4 = x at HS ⊢
  generalize Mill.step l u4 st = st' at HS ⊢
  have HX := Lib.hid (And.intro x1 (And.intro x2 (And.intro x3 x4))); clear x1 x2 x3 x4
  have HM := Lib.hid (And.intro h hT); clear h hT
  have h2c : (⟨#[2]⟩ : ByteArray) = S [2] := rfl
  go_enter Tryd.func12, Tryd.ntmps12
  go_wp2_with fail
  refine (HX.out.1 _).mono ?_
  rintro e w1 ⟨rfl, hb1⟩
  go_wp2_with fail
  refine (HX.out.2.1 _).mono ?_
  rintro e w2 ⟨rfl, hb2⟩
  go_wp2_with fail
  refine (HX.out.2.2.1 _).mono ?_
  rintro e w3 ⟨rfl, hb3⟩
  go_wp2_with fail
  refine (HX.out.2.2.2 _).mono ?_
  rintro e w4 ⟨rfl, hb4⟩
  have hb := hb1.trans ((hb2.trans ((hb3.trans (hb4.mono hb3.size)).mono hb2.size)).mono hb1.size)
  clear hb1 hb2 hb3 hb4
  go_wp2_with fail
  refine (HS.out _ (HM.out.1.below hb) (HM.out.2.below hb HM.out.2.2.2)).mono ?_
  rintro e w5 ⟨rfl, hm5, hv5⟩
  go_wp2_with fail
  go_ret
  exact ⟨rfl, hm5, (Mv.of_below hb _).trans hv5⟩

set_option maxHeartbeats 1000000 in
theorem plgLeaf_any (s : List UInt8) (h : MillTv w g nb tv l st) (h1 : s.length ≤ 100000000) (hsum : st.sums ≤ 4000000000000000000) (hr : Mill.right l = true) (hT : Tabs w) (hg : 2 ≤ g) :
    Calls Tryd.prog 15 #[.pointer (some ⟨g, 0, none⟩), .string (S s)] w (SumPostT w g nb tv l (Mill.step l (0 :: s) st) (Mill.hash l (0 :: s))) := by
  have HS := Lib.hid (millSum_anyT (0 :: s) g nb tv l st w h (by rw [List.length_cons]; omega) hsum hr hT hg)
  generalize Mill.hash l (0 :: s) = x at HS ⊢
  generalize Mill.step l (0 :: s) st = st' at HS ⊢
  clear h hT hsum hr hg
  go_enter Tryd.func15, Tryd.ntmps15
  go_wp2_with fail
  refine (HS.out).mono ?_
  rintro e w5 ⟨rfl, hm5, hv5⟩
  go_wp2_with fail
  go_ret
  exact ⟨rfl, hm5, hv5⟩
set_option maxHeartbeats 1000000 in
theorem plgNode_any (a b : List UInt8) (h : MillTv w g nb tv l st) (h1 : a.length ≤ 100000000) (h2 : b.length ≤ 100000000) (hsum : st.sums ≤ 4000000000000000000) (hr : Mill.right l = true) (hT : Tabs w) (hg : 2 ≤ g) :
    Calls Tryd.prog 16 #[.pointer (some ⟨g, 0, none⟩), .string (S a), .string (S b)] w (SumPostT w g nb tv l (Mill.step l ((1 :: a) ++ b) st) (Mill.hash l ((1 :: a) ++ b))) := by
  have HS := Lib.hid (millSum_anyT ((1 :: a) ++ b) g nb tv l st w h (by rw [List.length_append, List.length_cons]; omega) hsum hr hT hg)
  generalize Mill.hash l ((1 :: a) ++ b) = x at HS ⊢
  generalize Mill.step l ((1 :: a) ++ b) st = st' at HS ⊢
  clear h hT hsum hr hg
  go_enter Tryd.func16, Tryd.ntmps16
  go_wp2_with fail
  refine (HS.out).mono ?_
  rintro e w5 ⟨rfl, hm5, hv5⟩
  go_wp2_with fail
  go_ret
  exact ⟨rfl, hm5, hv5⟩
set_option maxHeartbeats 1000000 in
theorem plgNone_any (h : MillTv w g nb tv l st) (hsum : st.sums ≤ 4000000000000000000) (hr : Mill.right l = true) (hT : Tabs w) (hg : 2 ≤ g) :
    Calls Tryd.prog 17 #[.pointer (some ⟨g, 0, none⟩)] w (SumPostT w g nb tv l (Mill.step l [] st) (Mill.hash l [])) := by
  have HS := Lib.hid (millSum_anyT [] g nb tv l st w h (Nat.zero_le _) hsum hr hT hg)
  generalize Mill.hash l [] = x at HS ⊢
  generalize Mill.step l [] st = st' at HS ⊢
  clear h hT hsum hr hg
  go_enter Tryd.func17, Tryd.ntmps17
  go_wp2_with fail
  refine (HS.out).mono ?_
  rintro e w5 ⟨rfl, hm5, hv5⟩
  go_wp2_with fail
  go_ret
  exact ⟨rfl, hm5, hv5⟩

set_option maxHeartbeats 1000000 in
theorem plgKey_any (draw : List UInt8) (h : MillAt w g nb l st) (h1 : draw.length ≤ 100000000) (hT : Tabs w) :
    Calls Tryd.prog 21 #[.pointer (some ⟨g, 0, none⟩), .string (S draw)] w (TextPost w (Plg.key l draw)) := by
  have HS := Lib.hid (millTag_any draw [107, 101, 121] g nb l st w h (by omega) (by decide) hT)
  show Calls Tryd.prog 21 #[.pointer (some ⟨g, 0, none⟩), .string (S draw)] w (TextPost w (Mill.tag l draw [107, 101, 121]))
  generalize Mill.tag l draw [107, 101, 121] = x at HS ⊢
  clear h hT
  go_enter Tryd.func21, Tryd.ntmps21
  go_wp2_with fail
  refine (HS.out).mono ?_
  rintro e w5 ⟨rfl, hb5⟩
  go_wp2_with fail
  go_ret
  exact ⟨rfl, hb5⟩
set_option maxHeartbeats 1000000 in
theorem plgSalt_any (draw name : List UInt8) (h : MillAt w g nb l st) (h1 : draw.length ≤ 100000000) (h2 : name.length ≤ 100000000) (hr : Mill.right l = true) (hT : Tabs w) :
    Calls Tryd.prog 22 #[.pointer (some ⟨g, 0, none⟩), .string (S draw), .string (S name)] w (TextPost w (Plg.salt l draw name)) := by
  have hL := Plg.txt_len name
  have hX := fun W => text_any name W (by omega)
  have hS : ∀ W, Below w.heap.size w W → Calls Tryd.prog 19 #[.pointer (some ⟨g, 0, none⟩), .string (S draw), .string (S (Plg.saltText name))] W (TextPost W (Mill.tag l draw (Plg.saltText name))) := fun W hb =>
    millTag_any draw (Plg.saltText name) g nb l st W (h.below hb) (by omega) (by unfold Plg.saltText; rw [List.length_append]; simp only [List.length_cons, List.length_nil]; omega) (hT.below hb hT.2.2)
  have hl := Mill.tag_len l hr draw (Plg.saltText name)
  unfold Plg.salt
  generalize Mill.tag l draw (Plg.saltText name) = x at hS hl ⊢
  unfold Plg.saltText at hS
  generalize Plg.txt name = t at hL hX hS
  have HX := Lib.hid hX; clear hX
  have HS := Lib.hid hS; clear hS
  clear h hT
  go_enter Tryd.func22, Tryd.ntmps22
  go_wp2_with fail
  refine (HX.out _).mono ?_
  rintro e w1 ⟨rfl, hb1⟩
  go_wp2_with fail
  refine (HS.out _ hb1).mono ?_
  rintro e w2 ⟨rfl, hb2⟩
  go_wp2_with fail
  go_ret
  exact ⟨rfl, hb1.trans (hb2.mono hb1.size)⟩
set_option maxHeartbeats 1000000 in
theorem plgLabel_any (name : List UInt8) (h2 : name.length ≤ 100000000) :
    Calls Tryd.prog 36 #[.string (S name)] w (TextPost w (Plg.label name)) := by
  have hL := Plg.txt_len name
  have HX := Lib.hid (text_any name w (by omega))
  unfold Plg.label
  generalize Plg.txt name = t at hL HX ⊢
  go_enter Tryd.func36, Tryd.ntmps36
  go_wp2_with fail
  refine (HX.out).mono ?_
  rintro e w1 ⟨rfl, hb1⟩
  go_wp2_with fail
  go_ret
  exact ⟨rfl, hb1⟩
theorem Plg.label_len (name : List UInt8) : (Plg.label name).length ≤ name.length + 13 := by
  have hL := Plg.txt_len name
  unfold Plg.label
  rw [List.length_append]; simp only [List.length_cons, List.length_nil]; omega
set_option maxHeartbeats 1000000 in
theorem plgShut_any (key name salt value : List UInt8) (h : MillAt w g nb l st) (h1 : key.length ≤ 100000000) (h2 : name.length ≤ 100000000) (h3 : salt.length ≤ 400000) (h4 : value.length ≤ 400000) (hr : Mill.right l = true) (hT : Tabs w) :
    Calls Tryd.prog 23 #[.pointer (some ⟨g, 0, none⟩), .string (S key), .string (S name), .string (S salt), .string (S value)] w (TextPost w (Plg.veil l key name (salt ++ value))) := by
  have hL := Plg.label_len name
  have hX := fun W => plgLabel_any W name h2
  have hV : ∀ W, Below w.heap.size w W → Calls Tryd.prog 25 #[.pointer (some ⟨g, 0, none⟩), .string (S key), .string (S (Plg.label name)), .string (S (salt ++ value))] W (TextPost W (Plg.veil l key name (salt ++ value))) := fun W hb =>
    veil_any key (Plg.label name) (salt ++ value) g nb l st W (h.below hb) hr (by omega) (by omega) (by rw [List.length_append]; omega) (hT.below hb hT.2.2)
  generalize Plg.veil l key name (salt ++ value) = x at hV ⊢
  generalize Plg.label name = t at hL hX hV
  have HX := Lib.hid hX; clear hX
  have HV := Lib.hid hV; clear hV
  clear h hT
  go_enter Tryd.func23, Tryd.ntmps23
  go_wp2_with fail
  refine (HX.out _).mono ?_
  rintro e w1 ⟨rfl, hb1⟩
  go_wp2_with fail
  refine (HV.out _ hb1).mono ?_
  rintro e w2 ⟨rfl, hb2⟩
  go_wp2_with fail
  go_ret
  exact ⟨rfl, hb1.trans (hb2.mono hb1.size)⟩

/-- What Open answers. -/
def OpenPost (w : World) (x : List UInt8 × List UInt8 × Bool) (e : Ending) (w' : World) : Prop := e = .returned (.tuple #[.string (S x.1), .string (S x.2.1), .bool x.2.2]) ∧ Below w.heap.size w w'
set_option maxHeartbeats 1000000 in
theorem plgOpen_any (key name c : List UInt8) (h : MillAt w g nb l st) (h1 : key.length ≤ 100000000) (h2 : name.length ≤ 100000000) (h3 : c.length ≤ 1000000) (hr : Mill.right l = true) (hT : Tabs w) :
    Calls Tryd.prog 24 #[.pointer (some ⟨g, 0, none⟩), .string (S key), .string (S name), .string (S c)] w (OpenPost w (Plg.opened l key name c)) := by
  have hL := Plg.label_len name
  have hX := fun W => plgLabel_any W name h2
  have hV : ∀ W, Below w.heap.size w W → Calls Tryd.prog 25 #[.pointer (some ⟨g, 0, none⟩), .string (S key), .string (S (Plg.label name)), .string (S c)] W (TextPost W (Plg.veil l key name c)) := fun W hb =>
    veil_any key (Plg.label name) c g nb l st W (h.below hb) hr (by omega) (by omega) (by omega) (hT.below hb hT.2.2)
  have hvl := Plg.veil_len l hr key name c
  unfold Plg.opened
  generalize Plg.veil l key name c = x at hV hvl ⊢
  generalize Plg.label name = t at hL hX hV
  have HX := Lib.hid hX; clear hX
  have HV := Lib.hid hV; clear hV
  have hxl : x.length ≤ 1000000 := by omega
  clear h hT hvl
  unfold OpenPost Plg.openR
  by_cases hlt : x.length < 16
  · have hli : (x.length : Int) < 16 := by omega
    rw [if_pos hlt]
    clear hlt
    go_enter Tryd.func24, Tryd.ntmps24
    go_wp2_with fail
    refine (HX.out _).mono ?_
    rintro e w1 ⟨rfl, hb1⟩
    go_wp2_with fail
    refine (HV.out _ hb1).mono ?_
    rintro e w2 ⟨rfl, hb2⟩
    go_wp2_with fail
    go_ret3
    exact ⟨rfl, hb1.trans (hb2.mono hb1.size)⟩
  · have hli : ¬ (x.length : Int) < 16 := by omega
    rw [if_neg hlt]
    clear hlt
    go_enter Tryd.func24, Tryd.ntmps24
    go_wp2_with fail
    refine (HX.out _).mono ?_
    rintro e w1 ⟨rfl, hb1⟩
    go_wp2_with fail
    refine (HV.out _ hb1).mono ?_
    rintro e w2 ⟨rfl, hb2⟩
    go_wp2_with fail
    go_region
    all_goals
      go_wp2_with fail
      go_ret3
      exact ⟨rfl, below_drewN (hb1.trans (hb2.mono hb1.size)) _⟩
end
end Go.Proofs.YtlbdpadifhgloaaDoor
