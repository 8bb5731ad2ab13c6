/-
  The contracts of the sixth layer's statements' own cut, of, awake.
-/
import Derived.Test.YtlbdpadifhgloaaDoorSlip
namespace Go.Proofs.YtlbdpadifhgloaaDoor
open Go.RowKit
set_option linter.unusedVariables false

theorem Plg.kept_slip (l : List Mill.En) (hr : Mill.right l = true) (draw id name value : List UInt8) :
    Plg.keptV l (Plg.key l draw) id name (Mill.hash l (Plg.of id name (Plg.salt l draw name) value)) (Plg.veil l (Plg.key l draw) name (Plg.salt l draw name ++ value)) false = (Plg.salt l draw name, value, true) := by
  unfold Plg.keptV
  rw [Plg.opened_shut l hr _ _ _ _ (Plg.salt_len l hr draw name), if_neg (show ¬ (false = true) by decide)]
  dsimp only
  rw [if_neg (show ¬ (true = false) by decide), if_neg (by simp)]

set_option maxHeartbeats 400000 in
theorem plgCut_any (s : List UInt8) (w : World) : Calls Tryd.prog 11 #[.string (S s)] w fun e w' => e = .returned (.string (S (s.take 300))) ∧ w = w' := by
  by_cases h : (300 : Int) < (s.length : Int)
  · go_enter Tryd.func11, Tryd.ntmps11
    go_wp2_with fail
    go_ret
    exact ⟨rfl, rfl⟩
  · rw [List.take_of_length_le (by omega)]
    go_enter Tryd.func11, Tryd.ntmps11
    go_wp2_with fail
    go_ret
    exact ⟨rfl, rfl⟩

set_option maxHeartbeats 2000000 in
theorem plgLof_any (id name salt value : List UInt8) (w : World) (h1 : id.length ≤ 1000000) (h2 : name.length ≤ 1000000) (h3 : salt.length ≤ 1000000) (h4 : value.length ≤ 1000000) :
    Calls Tryd.prog 14 #[.string (S id), .string (S name), .string (S salt), .string (S value)] w (TextPost w (Plg.of id name salt value)) := by
  have hrl := Plg.of_small h1 h2 h3 h4
  have l1 := Plg.txt_len id; have l2 := Plg.txt_len name; have l3 := Plg.txt_len salt; have l4 := Plg.txt_len value
  have x1 := fun W => text_any id W (by omega)
  have x2 := fun W => text_any name W (by omega)
  have x3 := fun W => text_any salt W (by omega)
  have x4 := fun W => text_any value W (by omega)
  unfold Plg.of at hrl ⊢
  generalize Plg.txt id = a at l1 x1 hrl ⊢
  generalize Plg.txt name = b at l2 x2 hrl ⊢
  generalize Plg.txt salt = c at l3 x3 hrl ⊢
  generalize Plg.txt value = d at l4 x4 hrl ⊢
  obtain ⟨u1, e1⟩ : ∃ u, 2 :: a = u := ⟨_, rfl⟩
  obtain ⟨u2, e2⟩ : ∃ u, u1 ++ b = u := ⟨_, rfl⟩
  obtain ⟨u3, e3⟩ : ∃ u, u2 ++ c = u := ⟨_, rfl⟩
  obtain ⟨u4, e4⟩ : ∃ u, u3 ++ d = u := ⟨_, rfl⟩
  have eu := Plg.cat5 2 a b c d u1 u2 u3 u4 e1 e2 e3 e4
  rw [eu] at hrl ⊢
  have m1 : u1.length ≤ 1000020 := by rw [← e1, List.length_cons]; omega
  have m2 : u2.length ≤ 2000040 := by rw [← e2, List.length_append]; omega
  have m3 : u3.length ≤ 3000060 := by rw [← e3, List.length_append]; omega
  have q1 : ¬ 9223372036854775807 < 1 + a.length := by omega
  have q2 : ¬ 9223372036854775807 < u1.length + b.length := by omega
  have q3 : ¬ 9223372036854775807 < u2.length + c.length := by omega
  have q4 : ¬ 9223372036854775807 < u3.length + d.length := by omega
  clear eu m1 m2 m3 l1 l2 l3 l4 h1 h2 h3 h4 hrl
  have HX := Lib.hid (And.intro x1 (And.intro x2 (And.intro x3 x4))); clear x1 x2 x3 x4
  have h2c : (⟨#[2]⟩ : ByteArray) = S [2] := rfl
  go_enter Tryd.func14, Tryd.ntmps14
  go_wp2_with fail
  refine (HX.out.1 _).mono ?_
  rintro e w1 ⟨rfl, hb1⟩
  go_wp2_with fail
  refine (HX.out.2.1 _).mono ?_
  rintro e w2 ⟨rfl, hb2⟩
  go_wp2_with fail
  refine (HX.out.2.2.1 _).mono ?_
  rintro e w3 ⟨rfl, hb3⟩
  go_wp2_with fail
  refine (HX.out.2.2.2 _).mono ?_
  rintro e w4 ⟨rfl, hb4⟩
  have hb := hb1.trans ((hb2.trans ((hb3.trans (hb4.mono hb3.size)).mono hb2.size)).mono hb1.size)
  clear hb1 hb2 hb3 hb4
  go_wp2_with fail
  go_ret
  exact ⟨rfl, hb⟩

theorem two_off {w : World} (hT : Tabs w) : 2 ≤ w.heap.size := hT.2.2
theorem slip_tied {g nb n : Nat} {w w' : World} (hv : Mv w w' [g, nb]) (hn1 : n ≤ g) (hn2 : n ≤ nb) (hb : n ≤ w.heap.size) {w0 : World} (h0 : Below n w0 w) : Below n w0 w' :=
  hv.below h0 hb (by intro x hx; simp only [List.mem_cons, List.not_mem_nil, or_false] at hx; omega)

set_option maxHeartbeats 2000000 in
theorem awakePlg_any (w : World) (hT : Tabs w) : Calls Tryd.prog 18 #[] w fun e w' => e = .returned (.bool true) ∧ Below w.heap.size w w' := by
  have h2 := hT.2.2
  have hK := fun W (hM : MillAt W (w.heap.size + 1) w.heap.size [] Mill.fresh) (hTW : Tabs W) => plgKey_any (w.heap.size + 1) w.heap.size [] Mill.fresh W [100, 114, 97, 119] hM (by decide) hTW
  have hSl := fun W (hM : MillTv W (w.heap.size + 1) w.heap.size none [] Mill.fresh) (hTW : Tabs W) => plgSlip_any (w.heap.size + 1) w.heap.size none [] Mill.fresh W [100, 114, 97, 119] [105, 100] [110] [120] hM (by decide) (by decide) (by decide) (by decide) (by decide) rfl hTW (by omega) (by omega)
  have hkv := Plg.kept_slip [] rfl [100, 114, 97, 119] [105, 100] [110] [120]
  have hsl := Plg.salt_len [] rfl [100, 114, 97, 119] [110]
  have hkl : (Plg.key [] [100, 114, 97, 119]).length = 32 := Mill.tag_len [] rfl _ _
  have hvl := Plg.veil_len [] rfl (Plg.key [] [100, 114, 97, 119]) [110] (Plg.salt [] [100, 114, 97, 119] [110] ++ [120])
  rw [List.length_append, hsl, show ([120] : List UInt8).length = 1 from rfl] at hvl
  have hSa := fun W st (hM : MillAt W (w.heap.size + 1) w.heap.size [] st) (hTW : Tabs W) => plgSalt_any (w.heap.size + 1) w.heap.size [] st W [100, 114, 97, 119] [110] hM (by decide) (by decide) rfl hTW
  have hst : (Mill.step [] (Plg.of [105, 100] [110] (Plg.salt [] [100, 114, 97, 119] [110]) [120]) Mill.fresh).sums = 1 := Mill.step_sums _ _ _
  generalize Mill.step [] (Plg.of [105, 100] [110] (Plg.salt [] [100, 114, 97, 119] [110]) [120]) Mill.fresh = st1 at hSl hst
  generalize Mill.hash [] (Plg.of [105, 100] [110] (Plg.salt [] [100, 114, 97, 119] [110]) [120]) = pl at hSl hkv
  generalize Plg.veil [] (Plg.key [] [100, 114, 97, 119]) [110] (Plg.salt [] [100, 114, 97, 119] [110] ++ [120]) = c at hSl hkv hvl
  generalize Plg.key [] [100, 114, 97, 119] = key at hK hkv hkl
  generalize Plg.salt [] [100, 114, 97, 119] [110] = salt at hSa hkv hsl
  have hKe := fun W (hM : MillTv W (w.heap.size + 1) w.heap.size none [] st1) (hTW : Tabs W) => plgKept_any (w.heap.size + 1) w.heap.size none [] st1 W key [105, 100] [110] pl c false hM (by omega) (by decide) (by decide) (by omega) (by omega) rfl hTW (by omega) (by omega)
  rw [hkv] at hKe
  generalize Plg.keptS [] key [105, 100] [110] c false st1 = st2 at hKe
  unfold KeptPost at hKe
  dsimp only at hKe
  have hseq : (salt == salt) = true := by simp
  have hsli : (salt.length : Int) = 16 := by omega
  have HK := Lib.hid hK; clear hK
  have HSL := Lib.hid hSl; clear hSl
  have HKE := Lib.hid hKe; clear hKe
  have HSA := Lib.hid hSa; clear hSa
  have HT := Lib.hid hT; clear hT hkv hkl hvl hst hsl
  go_enter Tryd.func18, Tryd.ntmps18
  go_wp2_with fail
  refine (newMill_tv w).mono ?_
  rintro r1 w1 ⟨rfl, hM1, hb1, hs1⟩
  have hT1 := HT.out.below hb1 HT.out.2.2
  go_wp2_with fail
  refine (HK.out w1 hM1.at hT1).mono ?_
  rintro r2 w2 ⟨rfl, hb2⟩
  have hM2 := hM1.below hb2
  have hT2 := hT1.below hb2 hT1.2.2
  have hb2' := hb1.trans (hb2.mono (by omega))
  have hs2 : w.heap.size + 2 ≤ w2.heap.size := by have := hb2.size; omega
  clear hM1 hT1 hb1 hb2 hs1
  go_wp2_with fail
  refine (HSL.out w2 hM2 hT2).mono ?_
  rintro r3 w3 ⟨rfl, hM3, hv3⟩
  have hT3 := hv3.tabs2 hT2 (by omega) (by omega)
  have hb3 := slip_tied (n := w.heap.size) hv3 (by omega) (by omega) (by omega) hb2'
  have hs3 := Nat.le_trans hs2 hv3.size
  clear hM2 hT2 hv3 hb2' hs2
  go_wp2_with fail
  refine (HKE.out w3 hM3 hT3).mono ?_
  rintro r4 w4 ⟨rfl, hM4, hv4⟩
  have hT4 := hv4.tabs2 hT3 (by omega) (by omega)
  have hb4 := slip_tied (n := w.heap.size) hv4 (by omega) (by omega) (by omega) hb3
  have hs4 := Nat.le_trans hs3 hv4.size
  clear hM3 hT3 hv4 hb3 hs3
  go_wp2_with fail
  refine (HSA.out w4 _ hM4.at hT4).mono ?_
  rintro r5 w5 ⟨rfl, hb5⟩
  go_wp2_with fail
  go_ret
  exact ⟨rfl, hb4.trans (hb5.mono (by omega))⟩
end Go.Proofs.YtlbdpadifhgloaaDoor
