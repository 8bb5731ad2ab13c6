/-
  The contract of GuardPuts.
-/
import Derived.Test.YtcgdjljfgjoliaaDoorGrdAw
import Derived.Test.YtcgdjljfgjoliaaDoorGrdL
import Derived.Test.YtcgdjljfgjoliaaDoorHeld
import Derived.Test.YtcgdjljfgjoliaaDoorLaw
import Derived.Test.YtcgdjljfgjoliaaDoorRows
import Derived.SizedLaws
namespace Go.Proofs.YtcgdjljfgjoliaaDoor
open Go.ChangeShapes Go.WideShapes Go.ChangeAt Go.RowKit
open Go.ChangeMaps (open_string shut_string)
set_option linter.unusedVariables false

namespace Grd
open Dsk (St fresh write)
/-- Behind the first Put, and behind the second. -/
def p1 (boot : Nat) (more : T) : Int × Int × Nat × St := put boot 0 (fresh 10) 5 more
def p2 (boot : Nat) (more : T) (i : Int) (s : T) : Int × Int × Nat × St := put boot 1 (p1 boot more).2.2.2 i s
theorem write_in {d : St} {i : Nat} {x : T} (hu : d.up = true) (ha : d.arm = none) (hi : i < d.secs.length) (hx : x.length = 64) :
    write d (i : Int) x = (0, Dsk.put { d with acts := d.acts + 1 } i x) := by
  unfold write
  rw [if_neg (by rw [hu]; decide), if_neg (by omega), if_neg (by omega)]
  unfold Dsk.act
  rw [ha]
  rfl
theorem write_out {d : St} {i : Int} {x : T} (hu : d.up = true) (hi : ¬ (0 ≤ i ∧ i < (d.secs.length : Int))) : write d i x = (5, d) := by
  unfold write
  rw [if_neg (by rw [hu]; decide), if_pos hi]
theorem put_len (d : St) (i : Nat) (x : T) : (Dsk.put d i x).secs.length = d.secs.length := by
  show (List.modify _ _ _).length = _
  rw [List.length_modify]
theorem put_now {d : St} {i : Nat} {x : T} (hi : i < d.secs.length) (hu : d.up = true) : Dsk.read (Dsk.put d i x) (i : Int) = (x, 0) := by
  unfold Dsk.read
  have hl := put_len d i x
  have e : (Dsk.put d i x).secs[i]? = some ⟨(d.secs[i]'hi).sure, (d.secs[i]'hi).at_, some (x, d.acts)⟩ := by
    show (List.modify _ _ _)[i]? = _
    rw [List.getElem?_modify, List.getElem?_eq_getElem hi]
    simp
  rw [if_neg (show ¬ (Dsk.put d i x).up = false by show ¬ d.up = false; rw [hu]; decide), if_neg (by rw [hl]; omega), Int.toNat_natCast, e]
  rfl
/-- The disk behind the first Put. -/
def d1 (boot : Nat) (more : T) : St := Dsk.put { fresh 10 with acts := 1 } 5 (grd (boot * 4294967296 + 1) more)
theorem p1_eq (boot : Nat) (more : T) (h1 : more.length ≤ 47) :
    p1 boot more = (((boot * 4294967296 + 1 : Nat) : Int), 0, 1, d1 boot more) := by
  unfold p1 put
  rw [if_neg (by omega), if_neg (by decide)]
  have hs : stamp boot 0 = boot * 4294967296 + 1 := by unfold stamp; omega
  rw [hs]
  have hw : write (fresh 10) (5 : Int) (grd (boot * 4294967296 + 1) more) = (0, Dsk.put { fresh 10 with acts := (fresh 10).acts + 1 } 5 (grd (boot * 4294967296 + 1) more)) :=
    write_in (i := 5) rfl rfl (by rw [show (fresh 10).secs.length = 10 from List.length_replicate]; decide) (grd_len h1)
  rw [hw]
  rfl
theorem d1_len (boot : Nat) (more : T) : (d1 boot more).secs.length = 10 := by unfold d1; rw [put_len]; exact List.length_replicate
theorem p2_long (boot : Nat) (more : T) (i : Int) (s : T) (h1 : more.length ≤ 47) (h : 47 < s.length) : p2 boot more i s = (0, 3, 1, d1 boot more) := by
  unfold p2
  rw [p1_eq boot more h1]
  unfold put
  rw [if_pos h]
theorem p2_out (boot : Nat) (more : T) (i : Int) (s : T) (h1 : more.length ≤ 47) (h : s.length ≤ 47) (hi : i < 0 ∨ 10 ≤ i) : p2 boot more i s = (0, 5, 1, d1 boot more) := by
  unfold p2
  rw [p1_eq boot more h1]
  unfold put
  rw [if_neg (by omega), if_neg (by decide)]
  have hw : write (d1 boot more) i (grd (stamp boot 1) s) = (5, d1 boot more) := write_out rfl (by rw [d1_len]; omega)
  dsimp only
  rw [hw]
  rfl
/-- The disk behind the second Put. -/
def d2 (boot : Nat) (more : T) (i : Nat) (s : T) : St := Dsk.put { d1 boot more with acts := 2 } i (grd (boot * 4294967296 + 2) s)
theorem p2_in (boot : Nat) (more : T) (i : Nat) (s : T) (h1 : more.length ≤ 47) (h : s.length ≤ 47) (hi : i < 10) : p2 boot more (i : Int) s = (((boot * 4294967296 + 2 : Nat) : Int), 0, 2, d2 boot more i s) := by
  unfold p2
  rw [p1_eq boot more h1]
  unfold put
  rw [if_neg (by omega), if_neg (by decide)]
  have hs : stamp boot 1 = boot * 4294967296 + 2 := by unfold stamp; omega
  have hw : write (d1 boot more) (i : Int) (grd (boot * 4294967296 + 2) s) = (0, d2 boot more i s) := write_in rfl rfl (by rw [d1_len]; exact hi) (grd_len h)
  rw [hs]
  dsimp only
  rw [hw]
  rfl
theorem d2_len (boot : Nat) (more : T) (i : Nat) (s : T) : (d2 boot more i s).secs.length = 10 := by unfold d2; rw [put_len]; exact d1_len boot more
theorem d2_disk (boot : Nat) (more : T) (i : Nat) (s : T) (hi : i < 10) : Dsk.read (d2 boot more i s) (i : Int) = (grd (boot * 4294967296 + 2) s, 0) :=
  put_now (d := { d1 boot more with acts := 2 }) (by show i < (d1 boot more).secs.length; rw [d1_len]; exact hi) rfl
theorem d2_read (boot : Nat) (more : T) (i : Nat) (s : T) (hb : 1 ≤ boot) (hb2 : boot ≤ 2147483647) (h : s.length ≤ 47) (hi : i < 10) : read (d2 boot more i s) (i : Int) = (s, ((boot * 4294967296 + 2 : Nat) : Int), 0) := by
  unfold read
  rw [d2_disk boot more i s hi]
  rw [if_neg (by simp)]
  have hr : rd (grd (boot * 4294967296 + 2) s) = (s, boot * 4294967296 + 2, 0) := rd_grd h ⟨by omega, by omega⟩
  show ((rd (grd (boot * 4294967296 + 2) s)).1, (((rd (grd (boot * 4294967296 + 2) s)).2.1 : Nat) : Int), (rd (grd (boot * 4294967296 + 2) s)).2.2) = _
  rw [hr]
end Grd

set_option maxRecDepth 100000 in
set_option maxHeartbeats 4000000 in
theorem gputs_any (b : Int) (i : Int) (s more : List UInt8) (hs : s.length ≤ 1000000000000000) (hm : more.length ≤ 1000000000000000) (w : World) :
    Calls Tryd.prog 3 #[.int .i64 b, .int .i64 i, .string (S s), .string (S more)] w fun e w' => e = .returned (.bool true) ∧ Below w.heap.size w w' := by
  have HAW : Hid _ := fun W => gawake_any W
  by_cases hl : 100 < s.length
  · have g1 : (100 : Int) < (s.length : Int) := by omega
    go_enter Tryd.func3, Tryd.ntmps3
    go_wp2_with fail
    refine (HAW.out _).mono ?_
    rintro r w1 ⟨rfl, hb⟩
    go_wp2_with fail
    go_ret
    exact ⟨rfl, hb⟩
  have g1 : ¬ (100 : Int) < (s.length : Int) := by omega
  by_cases hl2 : 47 < more.length
  · have g2 : (47 : Int) < (more.length : Int) := by omega
    go_enter Tryd.func3, Tryd.ntmps3
    go_wp2_with fail
    refine (HAW.out _).mono ?_
    rintro r w1 ⟨rfl, hb⟩
    go_wp2_with fail
    go_ret
    exact ⟨rfl, hb⟩
  have g2 : ¬ (47 : Int) < (more.length : Int) := by omega
  by_cases hb0 : b < 1 ∨ 2147483647 < b
  · have HB := Lib.hid (made_bad b hb0 w)
    by_cases hb1 : b < 1
    · clear hb0
      go_enter Tryd.func3, Tryd.ntmps3
      go_wp2_with fail
      refine HB.out.mono ?_
      rintro r w1 ⟨rfl, hb⟩
      go_wp2_with fail
      refine (HAW.out _).mono ?_
      rintro r w2 ⟨rfl, hb2⟩
      go_wp2_with fail
      go_ret
      exact ⟨rfl, hb.trans (hb2.mono hb.size)⟩
    · have hb2 : 2147483647 < b := by omega
      clear hb0
      go_enter Tryd.func3, Tryd.ntmps3
      go_wp2_with fail
      refine HB.out.mono ?_
      rintro r w1 ⟨rfl, hb⟩
      go_wp2_with fail
      refine (HAW.out _).mono ?_
      rintro r w2 ⟨rfl, hb2⟩
      go_wp2_with fail
      go_ret
      exact ⟨rfl, hb.trans (hb2.mono hb.size)⟩
  obtain ⟨boot, rfl⟩ : ∃ boot : Nat, b = (boot : Int) := ⟨b.toNat, by omega⟩
  have k1 : ¬ (boot : Int) < 1 := by omega
  have k2 : ¬ (2147483647 : Int) < (boot : Int) := by omega
  have n1 : 1 ≤ boot := by omega
  have n2 : boot ≤ 2147483647 := by omega
  clear hb0
  have hml : more.length ≤ 47 := by omega
  have HM := Lib.hid (made_any boot n1 n2 w)
  have HP1 : Hid (∀ (W : World) (gg g bd mb : Nat), GuardAt W gg g bd mb boot 0 (Dsk.fresh 10) → Calls Tryd.prog 10 #[.pointer (some ⟨gg, 0, none⟩), .int .i64 5, .string (S more)] W fun e w' =>
      e = .returned (.tuple #[.int .i64 ((boot : Int) * 4294967296 + 1), .int .i64 0]) ∧ GuardAt w' gg g bd mb boot 1 (Grd.d1 boot more) ∧ Mv W w' [gg, g, bd, mb]) := Lib.hid (fun W gg g bd mb h => by
    have := gput_any h (by decide) (by decide) (by decide) 5 more
    change Calls _ _ _ _ (PutPost W gg g bd mb boot (Grd.p1 boot more)) at this
    rw [Grd.p1_eq boot more hml] at this
    unfold PutPost at this
    have e : ((boot * 4294967296 + 1 : Nat) : Int) = (boot : Int) * 4294967296 + 1 := by omega
    dsimp only at this
    rw [e] at this
    exact this)
  have HP2 : Hid (∀ (W : World) (gg g bd mb : Nat), GuardAt W gg g bd mb boot 1 (Grd.d1 boot more) → Calls Tryd.prog 10 #[.pointer (some ⟨gg, 0, none⟩), .int .i64 i, .string (S s)] W (PutPost W gg g bd mb boot (Grd.p2 boot more i s))) := Lib.hid (fun W gg g bd mb h => by
    have := gput_any h (by decide) (show (1 : Nat) < 1000000000000 by decide) (show (0 : Nat) < 1000000000000 by decide) i s
    unfold Grd.p2
    rw [Grd.p1_eq boot more hml]
    exact this)
  unfold MadePost at HM
  generalize hd0 : Dsk.fresh 10 = d0 at HM HP1
  clear hd0
  by_cases hl3 : 47 < s.length
  · have g3 : (47 : Int) < (s.length : Int) := by omega
    rw [Grd.p2_long boot more i s hml hl3] at HP2
    unfold PutPost at HP2
    generalize Grd.d1 boot more = d1 at HP1 HP2
    clear hl3 hml n1 n2 hl hl2
    go_enter Tryd.func3, Tryd.ntmps3
    go_wp2_with fail
    refine HM.out.mono ?_
    rintro r w1 ⟨gg, g, bd, mb, rfl, hg⟩
    have H := Lib.hid hg
    clear hg
    go_wp2_with fail
    refine (HP1.out _ _ _ _ _ H.out.at_).mono ?_
    rintro r w2 ⟨rfl, hg, hm⟩
    replace H := Lib.hid (H.out.mv hg hm)
    clear hg hm
    go_wp2_with fail
    refine (HP2.out _ _ _ _ _ H.out.at_).mono ?_
    rintro r w3 ⟨rfl, hg, hm⟩
    replace H := Lib.hid (H.out.mv hg hm)
    clear hg hm
    go_wp2_with fail
    refine (HAW.out _).mono ?_
    rintro r w4 ⟨rfl, hb⟩
    replace H := Lib.hid (H.out.below hb)
    clear hb
    go_wp2_with fail
    go_ret
    exact ⟨rfl, H.out.bel⟩
  have g3 : ¬ (47 : Int) < (s.length : Int) := by omega
  have hsl : s.length ≤ 47 := by omega
  by_cases hio : i < 0 ∨ 10 ≤ i
  · rw [Grd.p2_out boot more i s hml hsl hio] at HP2
    unfold PutPost at HP2
    generalize Grd.d1 boot more = d1 at HP1 HP2
    clear hl3 hml n1 n2 hl hl2 hsl
    by_cases hi1 : i < 0
    · clear hio
      go_enter Tryd.func3, Tryd.ntmps3
      go_wp2_with fail
      refine HM.out.mono ?_
      rintro r w1 ⟨gg, g, bd, mb, rfl, hg⟩
      have H := Lib.hid hg
      clear hg
      go_wp2_with fail
      refine (HP1.out _ _ _ _ _ H.out.at_).mono ?_
      rintro r w2 ⟨rfl, hg, hm⟩
      replace H := Lib.hid (H.out.mv hg hm)
      clear hg hm
      go_wp2_with fail
      refine (HP2.out _ _ _ _ _ H.out.at_).mono ?_
      rintro r w3 ⟨rfl, hg, hm⟩
      replace H := Lib.hid (H.out.mv hg hm)
      clear hg hm
      go_wp2_with fail
      refine (HAW.out _).mono ?_
      rintro r w4 ⟨rfl, hb⟩
      replace H := Lib.hid (H.out.below hb)
      clear hb
      go_wp2_with fail
      go_ret
      exact ⟨rfl, H.out.bel⟩
    · have hi2 : (10 : Int) ≤ i := by omega
      clear hio
      go_enter Tryd.func3, Tryd.ntmps3
      go_wp2_with fail
      refine HM.out.mono ?_
      rintro r w1 ⟨gg, g, bd, mb, rfl, hg⟩
      have H := Lib.hid hg
      clear hg
      go_wp2_with fail
      refine (HP1.out _ _ _ _ _ H.out.at_).mono ?_
      rintro r w2 ⟨rfl, hg, hm⟩
      replace H := Lib.hid (H.out.mv hg hm)
      clear hg hm
      go_wp2_with fail
      refine (HP2.out _ _ _ _ _ H.out.at_).mono ?_
      rintro r w3 ⟨rfl, hg, hm⟩
      replace H := Lib.hid (H.out.mv hg hm)
      clear hg hm
      go_wp2_with fail
      refine (HAW.out _).mono ?_
      rintro r w4 ⟨rfl, hb⟩
      replace H := Lib.hid (H.out.below hb)
      clear hb
      go_wp2_with fail
      go_ret
      exact ⟨rfl, H.out.bel⟩
  obtain ⟨j, rfl⟩ : ∃ j : Nat, i = (j : Int) := ⟨i.toNat, by omega⟩
  have j1 : ¬ (j : Int) < 0 := by omega
  have j2 : ¬ (10 : Int) ≤ (j : Int) := by omega
  have hj : j < 10 := by omega
  have HDR : Hid (∀ (W : World) (g bd mb : Nat), DiskAt W g bd mb (Grd.d2 boot more j s) → Calls Tryd.prog 11 #[.pointer (some ⟨g, 0, none⟩), .int .i64 (j : Int)] W fun e w' =>
      e = .returned (.tuple #[.string (S (Grd.grd (boot * 4294967296 + 2) s)), .int .i64 0]) ∧ Below W.heap.size W w') := Lib.hid (fun W g bd mb h => by
    have := read_any h (j : Int)
    rw [Grd.d2_disk boot more j s hj] at this
    exact this)
  have HGR : Hid (∀ (W : World) (gg g bd mb : Nat), GuardAt W gg g bd mb boot 2 (Grd.d2 boot more j s) → Calls Tryd.prog 12 #[.pointer (some ⟨gg, 0, none⟩), .int .i64 (j : Int)] W fun e w' =>
      e = .returned (.tuple #[.string (S s), .int .i64 ((boot : Int) * 4294967296 + 2), .int .i64 0]) ∧ Below W.heap.size W w') := Lib.hid (fun W gg g bd mb h => by
    have := gget_any h (j : Int)
    rw [Grd.d2_read boot more j s n1 n2 hsl hj] at this
    have e : ((boot * 4294967296 + 2 : Nat) : Int) = (boot : Int) * 4294967296 + 2 := by omega
    unfold GReadPost at this
    dsimp only at this
    rw [e] at this
    exact this)
  have HBL : Hid (∀ (W : World) (gg g bd mb : Nat), GuardAt W gg g bd mb boot 2 (Grd.d2 boot more j s) → Calls Tryd.prog 15 #[.pointer (some ⟨gg, 0, none⟩), .int .i64 (j : Int)] W fun e w' =>
      e = .returned (.bool false) ∧ Below W.heap.size W w') := Lib.hid (fun W gg g bd mb h => by
    have := gblank_any h (j : Int)
    rw [Grd.d2_read boot more j s n1 n2 hsl hj] at this
    exact this)
  have HSZ : Hid (∀ (W : World) (g bd mb : Nat), DiskAt W g bd mb (Grd.d2 boot more j s) → Calls Tryd.prog 17 #[.pointer (some ⟨g, 0, none⟩)] W fun r w' => r = .returned (.int .i64 10) ∧ W = w') := Lib.hid (fun W g bd mb h => by
    have := size_any h
    rw [Grd.d2_len] at this
    exact this)
  have HAC : Hid (∀ (W : World) (g bd mb : Nat), DiskAt W g bd mb (Grd.d2 boot more j s) → Calls Tryd.prog 18 #[.pointer (some ⟨g, 0, none⟩)] W fun r w' => r = .returned (.int .i64 2) ∧ W = w') := Lib.hid (fun W g bd mb h => acts_any h)
  have HGD : Hid _ := fun (W : World) (gg g bd mb boot wr : Nat) (d : Dsk.St) (h : GuardAt W gg g bd mb boot wr d) => gdisk_any h
  have HE : Hid (∀ W, Calls Tryd.prog 13 #[.int .i64 ((boot : Int) * 4294967296 + 2)] W fun e w' => e = .returned (.string (S (Grd.eight (boot * 4294967296 + 2)))) ∧ Below W.heap.size W w') := Lib.hid (fun W => by
    have := leight_any ((boot * 4294967296 + 2 : Nat) : Int) W
    rw [Grd.eightI_nat _ (by omega)] at this
    have e : ((boot * 4294967296 + 2 : Nat) : Int) = (boot : Int) * 4294967296 + 2 := by omega
    rw [e] at this
    exact this)
  have HZ : Hid (∀ W, Calls Tryd.prog 14 #[.int .i64 (47 - (s.length : Int))] W fun e w' => e = .returned (.string (S (Grd.zeros (47 - s.length)))) ∧ Below W.heap.size W w') := Lib.hid (fun W => by
    have := noughts_any (47 - s.length) (by omega) W
    rw [Int.ofNat_sub hsl] at this
    exact this)
  rw [Grd.p2_in boot more j s hml hsl hj] at HP2
  unfold PutPost at HP2
  have e2 : ((boot * 4294967296 + 2 : Nat) : Int) = (boot : Int) * 4294967296 + 2 := by omega
  dsimp only at HP2
  rw [e2] at HP2
  have hG : Grd.grd (boot * 4294967296 + 2) s = Grd.eight (boot * 4294967296 + 2) ++ UInt8.ofNat s.length :: (s ++ (Grd.zeros (47 - s.length) ++ Grd.eight (boot * 4294967296 + 2))) := by
    unfold Grd.grd
    simp
  have hEl : (Grd.eight (boot * 4294967296 + 2)).length = 8 := rfl
  have hZl : (Grd.zeros (47 - s.length)).length = 47 - s.length := Grd.zeros_len _
  generalize Grd.d1 boot more = d1 at HP1 HP2
  generalize Grd.d2 boot more j s = d2 at HP2 HDR HGR HBL HSZ HAC
  generalize Grd.grd (boot * 4294967296 + 2) s = R at hG HDR
  generalize Grd.eight (boot * 4294967296 + 2) = E at hG HE hEl
  generalize Grd.zeros (47 - s.length) = Z at hG HZ hZl
  clear hl3 hio hl hl2 hj e2
  go_enter Tryd.func3, Tryd.ntmps3
  go_wp2_with fail
  refine HM.out.mono ?_
  rintro r w1 ⟨gg, g, bd, mb, rfl, hg⟩
  have H := Lib.hid hg
  clear hg
  go_wp2_with fail
  refine (HP1.out _ _ _ _ _ H.out.at_).mono ?_
  rintro r w2 ⟨rfl, hg, hm⟩
  replace H := Lib.hid (H.out.mv hg hm)
  clear hg hm
  go_wp2_with fail
  refine (HP2.out _ _ _ _ _ H.out.at_).mono ?_
  rintro r w3 ⟨rfl, hg, hm⟩
  replace H := Lib.hid (H.out.mv hg hm)
  clear hg hm
  go_wp2_with fail
  refine (HDR.out _ _ _ _ H.out.at_.disk).mono ?_
  rintro r w4 ⟨rfl, hb⟩
  replace H := Lib.hid (H.out.below hb)
  clear hb
  go_wp2_with fail
  refine (HGR.out _ _ _ _ _ H.out.at_).mono ?_
  rintro r w5 ⟨rfl, hb⟩
  replace H := Lib.hid (H.out.below hb)
  clear hb
  go_wp2_with fail
  refine (HE.out _).mono ?_
  rintro r w6 ⟨rfl, hb⟩
  replace H := Lib.hid (H.out.below hb)
  clear hb
  go_wp2_with fail
  have HCV : Hid (∀ (W0 W' : World), Below (W0.alloc (.cells #[.int .u8 (s.length : Int)] 5)).heap.size (W0.alloc (.cells #[.int .u8 (s.length : Int)] 5)) W' →
      (convert 35 9 (.slice (some ⟨W0.heap.size, 0, none⟩) 1 1)).run Tryd.prog W' = .ok (.string (S [UInt8.ofNat s.length])) W') := Lib.hid (fun W0 W' hb => by
    have hh := (Has.made W0 5 #[.int .u8 (s.length : Int)]).below hb (by rw [asize]; omega)
    refine conv_text Tryd.underlying35 Tryd.underlying5 Tryd.underlying9 [UInt8.ofNat s.length] rfl (fun i hi => ?_)
    obtain rfl : i = 0 := by simpa using hi
    rw [hh.cell]
    have hc : (UInt8.ofNat s.length).toNat = s.length := by rw [Grd.u8_toNat]; omega
    simp [bcells, hc])
  have hx := H.out.drew
  have hA1 : IntKind.i64.wrap ((boot : Int) * 4294967296 + 1 + 1) = (boot : Int) * 4294967296 + 2 := by rw [IntKind.wrap_i64]; omega
  have hA2 : IntKind.i64.wrap (47 - (s.length : Int)) = 47 - (s.length : Int) := by rw [IntKind.wrap_i64]; omega
  have q22 : ¬ 9223372036854775807 < 9 + s.length := by omega
  have q27 : ¬ 9223372036854775807 < 8 + (s.length + 1) + (47 - s.length) := by omega
  have q29 : ¬ 9223372036854775807 < 8 + (s.length + (47 - s.length) + 1) + 8 := by omega
  have hA3 : IntKind.u8.wrap (s.length : Int) = (s.length : Int) := by rw [IntKind.wrap_u8]; omega
  refine wp_region_held_drew (S := fun W => GW w W gg g bd mb boot 2 d2) (by kernel_rfl) hx (fun hHeld => ?_)
  have HG := Lib.hid hx
  clear H
  generalize World.drew _ = W at HG hx hHeld ⊢
  first
  | (refine take_wanted (i := 0) (v := ?_) rfl rfl (by kernel_rfl) (by kernel_rfl) (by kernel_rfl) (fun _ _ _ h => h) (by rfl) (by assumption) ?_ ?_; rotate_left; (focus (intro w hSw; (try dsimp only at hSw); go_simp; first | done | with_reducible rfl)); (simp only [Act.at, List.setIfInBounds_toArray, List.set_cons_zero, List.set_cons_succ]))
  | (refine take_unwanted (i := 0) rfl rfl (by kernel_rfl) (by kernel_rfl) (by kernel_rfl) (fun _ _ _ h => h) (by rfl) (by assumption) ?_; (simp only [Act.at, List.setIfInBounds_toArray, List.set_cons_zero, List.set_cons_succ]))
  first
  | (refine take_wanted (i := 1) (v := ?_) rfl rfl (by kernel_rfl) (by kernel_rfl) (by kernel_rfl) (fun _ _ _ h => h) (by rfl) (by assumption) ?_ ?_; rotate_left; (focus (intro w hSw; (try dsimp only at hSw); go_simp; first | done | with_reducible rfl)); (simp only [Act.at, List.setIfInBounds_toArray, List.set_cons_zero, List.set_cons_succ]))
  | (refine take_unwanted (i := 1) rfl rfl (by kernel_rfl) (by kernel_rfl) (by kernel_rfl) (fun _ _ _ h => h) (by rfl) (by assumption) ?_; (simp only [Act.at, List.setIfInBounds_toArray, List.set_cons_zero, List.set_cons_succ]))
  first
  | (refine take_wanted (i := 2) (v := ?_) rfl rfl (by kernel_rfl) (by kernel_rfl) (by kernel_rfl) (fun _ _ _ h => h) (by rfl) (by assumption) ?_ ?_; rotate_left; (focus (intro w hSw; (try dsimp only at hSw); go_simp; first | done | with_reducible rfl)); (simp only [Act.at, List.setIfInBounds_toArray, List.set_cons_zero, List.set_cons_succ]))
  | (refine take_unwanted (i := 2) rfl rfl (by kernel_rfl) (by kernel_rfl) (by kernel_rfl) (fun _ _ _ h => h) (by rfl) (by assumption) ?_; (simp only [Act.at, List.setIfInBounds_toArray, List.set_cons_zero, List.set_cons_succ]))
  first
  | (refine take_wanted (i := 3) (v := ?_) rfl rfl (by kernel_rfl) (by kernel_rfl) (by kernel_rfl) (fun _ _ _ h => h) (by rfl) (by assumption) ?_ ?_; rotate_left; (focus (intro w hSw; (try dsimp only at hSw); go_simp; first | done | with_reducible rfl)); (simp only [Act.at, List.setIfInBounds_toArray, List.set_cons_zero, List.set_cons_succ]))
  | (refine take_unwanted (i := 3) rfl rfl (by kernel_rfl) (by kernel_rfl) (by kernel_rfl) (fun _ _ _ h => h) (by rfl) (by assumption) ?_; (simp only [Act.at, List.setIfInBounds_toArray, List.set_cons_zero, List.set_cons_succ]))
  first
  | (refine take_wanted (i := 4) (v := ?_) rfl rfl (by kernel_rfl) (by kernel_rfl) (by kernel_rfl) (fun _ _ _ h => h) (by rfl) (by assumption) ?_ ?_; rotate_left; (focus (intro w hSw; (try dsimp only at hSw); go_simp; first | done | with_reducible rfl)); (simp only [Act.at, List.setIfInBounds_toArray, List.set_cons_zero, List.set_cons_succ]))
  | (refine take_unwanted (i := 4) rfl rfl (by kernel_rfl) (by kernel_rfl) (by kernel_rfl) (fun _ _ _ h => h) (by rfl) (by assumption) ?_; (simp only [Act.at, List.setIfInBounds_toArray, List.set_cons_zero, List.set_cons_succ]))
  first
  | (refine take_wanted (i := 5) (v := ?_) rfl rfl (by kernel_rfl) (by kernel_rfl) (by kernel_rfl) (fun _ _ _ h => h) (by rfl) (by assumption) ?_ ?_; rotate_left; (focus (intro w hSw; (try dsimp only at hSw); go_simp; first | done | with_reducible rfl)); (simp only [Act.at, List.setIfInBounds_toArray, List.set_cons_zero, List.set_cons_succ]))
  | (refine take_unwanted (i := 5) rfl rfl (by kernel_rfl) (by kernel_rfl) (by kernel_rfl) (fun _ _ _ h => h) (by rfl) (by assumption) ?_; (simp only [Act.at, List.setIfInBounds_toArray, List.set_cons_zero, List.set_cons_succ]))
  first
  | (refine take_wanted (i := 6) (v := ?_) rfl rfl (by kernel_rfl) (by kernel_rfl) (by kernel_rfl) (fun _ _ _ h => h) (by rfl) (by assumption) ?_ ?_; rotate_left; (focus (intro w hSw; (try dsimp only at hSw); go_simp; first | done | with_reducible rfl)); (simp only [Act.at, List.setIfInBounds_toArray, List.set_cons_zero, List.set_cons_succ]))
  | (refine take_unwanted (i := 6) rfl rfl (by kernel_rfl) (by kernel_rfl) (by kernel_rfl) (fun _ _ _ h => h) (by rfl) (by assumption) ?_; (simp only [Act.at, List.setIfInBounds_toArray, List.set_cons_zero, List.set_cons_succ]))
  first
  | (refine take_wanted (i := 7) (v := ?_) rfl rfl (by kernel_rfl) (by kernel_rfl) (by kernel_rfl) (fun _ _ _ h => h) (by rfl) (by assumption) ?_ ?_; rotate_left; (focus (intro w hSw; (try dsimp only at hSw); go_simp; first | done | with_reducible rfl)); (simp only [Act.at, List.setIfInBounds_toArray, List.set_cons_zero, List.set_cons_succ]))
  | (refine take_unwanted (i := 7) rfl rfl (by kernel_rfl) (by kernel_rfl) (by kernel_rfl) (fun _ _ _ h => h) (by rfl) (by assumption) ?_; (simp only [Act.at, List.setIfInBounds_toArray, List.set_cons_zero, List.set_cons_succ]))
  first
  | (refine take_wanted (i := 8) (v := ?_) rfl rfl (by kernel_rfl) (by kernel_rfl) (by kernel_rfl) (fun _ _ _ h => h) (by rfl) (by assumption) ?_ ?_; rotate_left; (focus (intro w hSw; (try dsimp only at hSw); go_simp; first | done | with_reducible rfl)); (simp only [Act.at, List.setIfInBounds_toArray, List.set_cons_zero, List.set_cons_succ]))
  | (refine take_unwanted (i := 8) rfl rfl (by kernel_rfl) (by kernel_rfl) (by kernel_rfl) (fun _ _ _ h => h) (by rfl) (by assumption) ?_; (simp only [Act.at, List.setIfInBounds_toArray, List.set_cons_zero, List.set_cons_succ]))
  first
  | (refine take_wanted (i := 9) (v := ?_) rfl rfl (by kernel_rfl) (by kernel_rfl) (by kernel_rfl) (fun _ _ _ h => h) (by rfl) (by assumption) ?_ ?_; rotate_left; (focus (intro w hSw; (try dsimp only at hSw); go_simp; first | done | with_reducible rfl)); (simp only [Act.at, List.setIfInBounds_toArray, List.set_cons_zero, List.set_cons_succ]))
  | (refine take_unwanted (i := 9) rfl rfl (by kernel_rfl) (by kernel_rfl) (by kernel_rfl) (fun _ _ _ h => h) (by rfl) (by assumption) ?_; (simp only [Act.at, List.setIfInBounds_toArray, List.set_cons_zero, List.set_cons_succ]))
  first
  | (refine take_wanted (i := 10) (v := ?_) rfl rfl (by kernel_rfl) (by kernel_rfl) (by kernel_rfl) (fun _ _ _ h => h) (by rfl) (by assumption) ?_ ?_; rotate_left; (focus (intro w hSw; (try dsimp only at hSw); go_simp; first | done | with_reducible rfl)); (simp only [Act.at, List.setIfInBounds_toArray, List.set_cons_zero, List.set_cons_succ]))
  | (refine take_unwanted (i := 10) rfl rfl (by kernel_rfl) (by kernel_rfl) (by kernel_rfl) (fun _ _ _ h => h) (by rfl) (by assumption) ?_; (simp only [Act.at, List.setIfInBounds_toArray, List.set_cons_zero, List.set_cons_succ]))
  first
  | (refine take_wanted (i := 11) (v := ?_) rfl rfl (by kernel_rfl) (by kernel_rfl) (by kernel_rfl) (fun _ _ _ h => h) (by rfl) (by assumption) ?_ ?_; rotate_left; (focus (intro w hSw; (try dsimp only at hSw); go_simp; first | done | with_reducible rfl)); (simp only [Act.at, List.setIfInBounds_toArray, List.set_cons_zero, List.set_cons_succ]))
  | (refine take_unwanted (i := 11) rfl rfl (by kernel_rfl) (by kernel_rfl) (by kernel_rfl) (fun _ _ _ h => h) (by rfl) (by assumption) ?_; (simp only [Act.at, List.setIfInBounds_toArray, List.set_cons_zero, List.set_cons_succ]))
  first
  | (refine take_wanted (i := 12) (v := ?_) rfl rfl (by kernel_rfl) (by kernel_rfl) (by kernel_rfl) (fun _ _ _ h => h) (by rfl) (by assumption) ?_ ?_; rotate_left; (focus (intro w hSw; (try dsimp only at hSw); go_simp; first | done | with_reducible rfl)); (simp only [Act.at, List.setIfInBounds_toArray, List.set_cons_zero, List.set_cons_succ]))
  | (refine take_unwanted (i := 12) rfl rfl (by kernel_rfl) (by kernel_rfl) (by kernel_rfl) (fun _ _ _ h => h) (by rfl) (by assumption) ?_; (simp only [Act.at, List.setIfInBounds_toArray, List.set_cons_zero, List.set_cons_succ]))
  first
  | (refine take_wanted (i := 13) (v := ?_) rfl rfl (by kernel_rfl) (by kernel_rfl) (by kernel_rfl) (fun _ _ _ h => h) (by rfl) (by assumption) ?_ ?_; rotate_left; (focus (intro w hSw; (try dsimp only at hSw); go_simp; first | done | with_reducible rfl)); (simp only [Act.at, List.setIfInBounds_toArray, List.set_cons_zero, List.set_cons_succ]))
  | (refine take_unwanted (i := 13) rfl rfl (by kernel_rfl) (by kernel_rfl) (by kernel_rfl) (fun _ _ _ h => h) (by rfl) (by assumption) ?_; (simp only [Act.at, List.setIfInBounds_toArray, List.set_cons_zero, List.set_cons_succ]))
  first
  | (refine take_wanted (i := 14) (v := ?_) rfl rfl (by kernel_rfl) (by kernel_rfl) (by kernel_rfl) (fun _ _ _ h => h) (by rfl) (by assumption) ?_ ?_; rotate_left; (focus (intro w hSw; (try dsimp only at hSw); go_simp; first | done | with_reducible rfl)); (simp only [Act.at, List.setIfInBounds_toArray, List.set_cons_zero, List.set_cons_succ]))
  | (refine take_unwanted (i := 14) rfl rfl (by kernel_rfl) (by kernel_rfl) (by kernel_rfl) (fun _ _ _ h => h) (by rfl) (by assumption) ?_; (simp only [Act.at, List.setIfInBounds_toArray, List.set_cons_zero, List.set_cons_succ]))
  first
  | (refine take_wanted (i := 15) (v := ?_) rfl rfl (by kernel_rfl) (by kernel_rfl) (by kernel_rfl) (fun _ _ _ h => h) (by rfl) (by assumption) ?_ ?_; rotate_left; (focus (intro w hSw; (try dsimp only at hSw); go_simp; first | done | with_reducible rfl)); (simp only [Act.at, List.setIfInBounds_toArray, List.set_cons_zero, List.set_cons_succ]))
  | (refine take_unwanted (i := 15) rfl rfl (by kernel_rfl) (by kernel_rfl) (by kernel_rfl) (fun _ _ _ h => h) (by rfl) (by assumption) ?_; (simp only [Act.at, List.setIfInBounds_toArray, List.set_cons_zero, List.set_cons_succ]))
  first
  | (refine take_wanted (i := 16) (v := ?_) rfl rfl (by kernel_rfl) (by kernel_rfl) (by kernel_rfl) (fun _ _ _ h => h) (by rfl) (by assumption) ?_ ?_; rotate_left; (focus (intro w hSw; (try dsimp only at hSw); go_simp; first | done | with_reducible rfl)); (simp only [Act.at, List.setIfInBounds_toArray, List.set_cons_zero, List.set_cons_succ]))
  | (refine take_unwanted (i := 16) rfl rfl (by kernel_rfl) (by kernel_rfl) (by kernel_rfl) (fun _ _ _ h => h) (by rfl) (by assumption) ?_; (simp only [Act.at, List.setIfInBounds_toArray, List.set_cons_zero, List.set_cons_succ]))
  first
  | (refine take_wanted (i := 17) (v := ?_) rfl rfl (by kernel_rfl) (by kernel_rfl) (by kernel_rfl) (fun _ _ _ h => h) (by rfl) (by assumption) ?_ ?_; rotate_left; (focus (intro w hSw; (try dsimp only at hSw); go_simp; first | done | with_reducible rfl)); (simp only [Act.at, List.setIfInBounds_toArray, List.set_cons_zero, List.set_cons_succ]))
  | (refine take_unwanted (i := 17) rfl rfl (by kernel_rfl) (by kernel_rfl) (by kernel_rfl) (fun _ _ _ h => h) (by rfl) (by assumption) ?_; (simp only [Act.at, List.setIfInBounds_toArray, List.set_cons_zero, List.set_cons_succ]))
  first
  | (refine take_wanted (i := 21) (v := ?_) rfl rfl (by kernel_rfl) (by kernel_rfl) (by kernel_rfl) (fun _ _ _ h => h) (by rfl) (by assumption) ?_ ?_; rotate_left; (focus (intro w hSw; (try dsimp only at hSw); go_simp; first | done | with_reducible rfl)); (simp only [Act.at, List.setIfInBounds_toArray, List.set_cons_zero, List.set_cons_succ]))
  | (refine take_unwanted (i := 21) rfl rfl (by kernel_rfl) (by kernel_rfl) (by kernel_rfl) (fun _ _ _ h => h) (by rfl) (by assumption) ?_; (simp only [Act.at, List.setIfInBounds_toArray, List.set_cons_zero, List.set_cons_succ]))
  first
  | (refine take_wanted (i := 23) (v := ?_) rfl rfl (by kernel_rfl) (by kernel_rfl) (by kernel_rfl) (fun _ _ _ h => h) (by rfl) (by assumption) ?_ ?_; rotate_left; (focus (intro w hSw; (try dsimp only at hSw); go_simp; first | done | with_reducible rfl)); (simp only [Act.at, List.setIfInBounds_toArray, List.set_cons_zero, List.set_cons_succ]))
  | (refine take_unwanted (i := 23) rfl rfl (by kernel_rfl) (by kernel_rfl) (by kernel_rfl) (fun _ _ _ h => h) (by rfl) (by assumption) ?_; (simp only [Act.at, List.setIfInBounds_toArray, List.set_cons_zero, List.set_cons_succ]))
  first
  | (refine take_wanted (i := 24) (v := ?_) rfl rfl (by kernel_rfl) (by kernel_rfl) (by kernel_rfl) (fun _ _ _ h => h) (by rfl) (by assumption) ?_ ?_; rotate_left; (focus (intro w hSw; (try dsimp only at hSw); go_simp; first | done | with_reducible rfl)); (simp only [Act.at, List.setIfInBounds_toArray, List.set_cons_zero, List.set_cons_succ]))
  | (refine take_unwanted (i := 24) rfl rfl (by kernel_rfl) (by kernel_rfl) (by kernel_rfl) (fun _ _ _ h => h) (by rfl) (by assumption) ?_; (simp only [Act.at, List.setIfInBounds_toArray, List.set_cons_zero, List.set_cons_succ]))
  first
  | (refine take_wanted (i := 25) (v := ?_) rfl rfl (by kernel_rfl) (by kernel_rfl) (by kernel_rfl) (fun _ _ _ h => h) (by rfl) (by assumption) ?_ ?_; rotate_left; (focus (intro w hSw; (try dsimp only at hSw); go_simp; first | done | with_reducible rfl)); (simp only [Act.at, List.setIfInBounds_toArray, List.set_cons_zero, List.set_cons_succ]))
  | (refine take_unwanted (i := 25) rfl rfl (by kernel_rfl) (by kernel_rfl) (by kernel_rfl) (fun _ _ _ h => h) (by rfl) (by assumption) ?_; (simp only [Act.at, List.setIfInBounds_toArray, List.set_cons_zero, List.set_cons_succ]))
  first
  | (refine take_wanted (i := 28) (v := ?_) rfl rfl (by kernel_rfl) (by kernel_rfl) (by kernel_rfl) (fun _ _ _ h => h) (by rfl) (by assumption) ?_ ?_; rotate_left; (focus (intro w hSw; (try dsimp only at hSw); go_simp; first | done | with_reducible rfl)); (simp only [Act.at, List.setIfInBounds_toArray, List.set_cons_zero, List.set_cons_succ]))
  | (refine take_unwanted (i := 28) rfl rfl (by kernel_rfl) (by kernel_rfl) (by kernel_rfl) (fun _ _ _ h => h) (by rfl) (by assumption) ?_; (simp only [Act.at, List.setIfInBounds_toArray, List.set_cons_zero, List.set_cons_succ]))
  apply merge3 (H := fun W => GW w W gg g bd mb boot 2 d2)
  · intro TAIL
    refine heldTwo (i := 18) (j := 26) (by kernel_rfl) rfl rfl (by rfl) (by rfl) (fun K hK => ?_) (fun K hK => ?_)
    · go_simp
      replace HG := Lib.hid (HG.out.below ((Below.refl _ W).alloc (Nat.le_refl _) (.cells #[.int .u8 (s.length : Int)] 5)))
      have hx := HG.out
      have HCV1 := Lib.hid (HCV.out W _ (Below.refl _ _))
      refine hK.out _ _ hx (fun hHeld => ?_)
      clear hK K
      try simp only [Act.put, List.setIfInBounds_toArray, List.set_cons_zero, List.set_cons_succ]
      refine heldTwo (i := 19) (j := 26) (by kernel_rfl) rfl rfl (by rfl) (by rfl) (fun K hK => ?_) (fun K hK => ?_)
      · have hcv := HCV1.out
        go_simp
        clear hcv
        refine hK.out _ _ hx (fun hHeld => ?_)
        clear hK K
        try simp only [Act.put, List.setIfInBounds_toArray, List.set_cons_zero, List.set_cons_succ]
        first
        | (refine take_wanted (i := 20) (v := ?_) rfl rfl (by kernel_rfl) (by kernel_rfl) (by kernel_rfl) (fun _ _ _ h => h) (by rfl) (by assumption) ?_ ?_; rotate_left; (focus (intro w hSw; (try dsimp only at hSw); go_simp; first | done | with_reducible rfl)); (simp only [Act.at, List.setIfInBounds_toArray, List.set_cons_zero, List.set_cons_succ]))
        | (refine take_unwanted (i := 20) rfl rfl (by kernel_rfl) (by kernel_rfl) (by kernel_rfl) (fun _ _ _ h => h) (by rfl) (by assumption) ?_; (simp only [Act.at, List.setIfInBounds_toArray, List.set_cons_zero, List.set_cons_succ]))
        first
        | (refine take_wanted (i := 22) (v := ?_) rfl rfl (by kernel_rfl) (by kernel_rfl) (by kernel_rfl) (fun _ _ _ h => h) (by rfl) (by assumption) ?_ ?_; rotate_left; (focus (intro w hSw; (try dsimp only at hSw); go_simp; first | done | with_reducible rfl)); (simp only [Act.at, List.setIfInBounds_toArray, List.set_cons_zero, List.set_cons_succ]))
        | (refine take_unwanted (i := 22) rfl rfl (by kernel_rfl) (by kernel_rfl) (by kernel_rfl) (fun _ _ _ h => h) (by rfl) (by assumption) ?_; (simp only [Act.at, List.setIfInBounds_toArray, List.set_cons_zero, List.set_cons_succ]))
        refine held1 (i := 26) (by kernel_rfl) rfl (by rfl) (fun K hK => ?_)
        go_simp
        refine (HZ.out _).mono ?_
        rintro r w7 ⟨rfl, hb⟩
        skip
        replace HG := Lib.hid (HG.out.below hb)
        clear hb
        have hx := HG.out
        refine hK.out _ _ hx (fun hHeld => ?_)
        clear hK K
        try simp only [Act.put, List.setIfInBounds_toArray, List.set_cons_zero, List.set_cons_succ]
        generalize W.heap.size = k0
        refine listedAs (fun L hL => ?_)
        exact TAIL k0 _ L HG.out hL
      · go_simp
        refine (HZ.out _).mono ?_
        rintro r w7 ⟨rfl, hb⟩
        replace HCV1 := Lib.hid (HCV.out W _ hb)
        replace HG := Lib.hid (HG.out.below hb)
        clear hb
        have hx := HG.out
        refine hK.out _ _ hx (fun hHeld => ?_)
        clear hK K
        try simp only [Act.put, List.setIfInBounds_toArray, List.set_cons_zero, List.set_cons_succ]
        refine held1 (i := 19) (by kernel_rfl) rfl (by rfl) (fun K hK => ?_)
        have hcv := HCV1.out
        go_simp
        clear hcv
        refine hK.out _ _ hx (fun hHeld => ?_)
        clear hK K
        try simp only [Act.put, List.setIfInBounds_toArray, List.set_cons_zero, List.set_cons_succ]
        first
        | (refine take_wanted (i := 20) (v := ?_) rfl rfl (by kernel_rfl) (by kernel_rfl) (by kernel_rfl) (fun _ _ _ h => h) (by rfl) (by assumption) ?_ ?_; rotate_left; (focus (intro w hSw; (try dsimp only at hSw); go_simp; first | done | with_reducible rfl)); (simp only [Act.at, List.setIfInBounds_toArray, List.set_cons_zero, List.set_cons_succ]))
        | (refine take_unwanted (i := 20) rfl rfl (by kernel_rfl) (by kernel_rfl) (by kernel_rfl) (fun _ _ _ h => h) (by rfl) (by assumption) ?_; (simp only [Act.at, List.setIfInBounds_toArray, List.set_cons_zero, List.set_cons_succ]))
        first
        | (refine take_wanted (i := 22) (v := ?_) rfl rfl (by kernel_rfl) (by kernel_rfl) (by kernel_rfl) (fun _ _ _ h => h) (by rfl) (by assumption) ?_ ?_; rotate_left; (focus (intro w hSw; (try dsimp only at hSw); go_simp; first | done | with_reducible rfl)); (simp only [Act.at, List.setIfInBounds_toArray, List.set_cons_zero, List.set_cons_succ]))
        | (refine take_unwanted (i := 22) rfl rfl (by kernel_rfl) (by kernel_rfl) (by kernel_rfl) (fun _ _ _ h => h) (by rfl) (by assumption) ?_; (simp only [Act.at, List.setIfInBounds_toArray, List.set_cons_zero, List.set_cons_succ]))
        generalize W.heap.size = k0
        refine listedAs (fun L hL => ?_)
        exact TAIL k0 _ L HG.out (hL.trans (by kernel_rfl))
    · go_simp
      refine (HZ.out _).mono ?_
      rintro r w7 ⟨rfl, hb⟩
      skip
      replace HG := Lib.hid (HG.out.below hb)
      clear hb
      have hx := HG.out
      refine hK.out _ _ hx (fun hHeld => ?_)
      clear hK K
      try simp only [Act.put, List.setIfInBounds_toArray, List.set_cons_zero, List.set_cons_succ]
      refine held1 (i := 18) (by kernel_rfl) rfl (by rfl) (fun K hK => ?_)
      go_simp
      replace HG := Lib.hid (HG.out.below ((Below.refl _ w7).alloc (Nat.le_refl _) (.cells #[.int .u8 (s.length : Int)] 5)))
      have hx := HG.out
      have HCV1 := Lib.hid (HCV.out w7 _ (Below.refl _ _))
      refine hK.out _ _ hx (fun hHeld => ?_)
      clear hK K
      try simp only [Act.put, List.setIfInBounds_toArray, List.set_cons_zero, List.set_cons_succ]
      refine held1 (i := 19) (by kernel_rfl) rfl (by rfl) (fun K hK => ?_)
      have hcv := HCV1.out
      go_simp
      clear hcv
      refine hK.out _ _ hx (fun hHeld => ?_)
      clear hK K
      try simp only [Act.put, List.setIfInBounds_toArray, List.set_cons_zero, List.set_cons_succ]
      first
      | (refine take_wanted (i := 20) (v := ?_) rfl rfl (by kernel_rfl) (by kernel_rfl) (by kernel_rfl) (fun _ _ _ h => h) (by rfl) (by assumption) ?_ ?_; rotate_left; (focus (intro w hSw; (try dsimp only at hSw); go_simp; first | done | with_reducible rfl)); (simp only [Act.at, List.setIfInBounds_toArray, List.set_cons_zero, List.set_cons_succ]))
      | (refine take_unwanted (i := 20) rfl rfl (by kernel_rfl) (by kernel_rfl) (by kernel_rfl) (fun _ _ _ h => h) (by rfl) (by assumption) ?_; (simp only [Act.at, List.setIfInBounds_toArray, List.set_cons_zero, List.set_cons_succ]))
      first
      | (refine take_wanted (i := 22) (v := ?_) rfl rfl (by kernel_rfl) (by kernel_rfl) (by kernel_rfl) (fun _ _ _ h => h) (by rfl) (by assumption) ?_ ?_; rotate_left; (focus (intro w hSw; (try dsimp only at hSw); go_simp; first | done | with_reducible rfl)); (simp only [Act.at, List.setIfInBounds_toArray, List.set_cons_zero, List.set_cons_succ]))
      | (refine take_unwanted (i := 22) rfl rfl (by kernel_rfl) (by kernel_rfl) (by kernel_rfl) (fun _ _ _ h => h) (by rfl) (by assumption) ?_; (simp only [Act.at, List.setIfInBounds_toArray, List.set_cons_zero, List.set_cons_succ]))
      generalize w7.heap.size = k0
      refine listedAs (fun L hL => ?_)
      exact TAIL k0 _ L HG.out (hL.trans (by kernel_rfl))
  · intro k0 W7 hG
    have hx := hG
    have hHeld := hG
    replace HG := Lib.hid hG
    clear hG
    first
    | (refine take_wanted (i := 27) (v := ?_) rfl rfl (by kernel_rfl) (by kernel_rfl) (by kernel_rfl) (fun _ _ _ h => h) (by rfl) (by assumption) ?_ ?_; rotate_left; (focus (intro w hSw; (try dsimp only at hSw); go_simp; first | done | with_reducible rfl)); (simp only [Act.at, List.setIfInBounds_toArray, List.set_cons_zero, List.set_cons_succ]))
    | (refine take_unwanted (i := 27) rfl rfl (by kernel_rfl) (by kernel_rfl) (by kernel_rfl) (fun _ _ _ h => h) (by rfl) (by assumption) ?_; (simp only [Act.at, List.setIfInBounds_toArray, List.set_cons_zero, List.set_cons_succ]))
    first
    | (refine take_wanted (i := 29) (v := ?_) rfl rfl (by kernel_rfl) (by kernel_rfl) (by kernel_rfl) (fun _ _ _ h => h) (by rfl) (by assumption) ?_ ?_; rotate_left; (focus (intro w hSw; (try dsimp only at hSw); go_simp; first | done | with_reducible rfl)); (simp only [Act.at, List.setIfInBounds_toArray, List.set_cons_zero, List.set_cons_succ]))
    | (refine take_unwanted (i := 29) rfl rfl (by kernel_rfl) (by kernel_rfl) (by kernel_rfl) (fun _ _ _ h => h) (by rfl) (by assumption) ?_; (simp only [Act.at, List.setIfInBounds_toArray, List.set_cons_zero, List.set_cons_succ]))
    first
    | (refine take_wanted (i := 30) (v := ?_) rfl rfl (by kernel_rfl) (by kernel_rfl) (by kernel_rfl) (fun _ _ _ h => h) (by rfl) (by assumption) ?_ ?_; rotate_left; (focus (intro w hSw; (try dsimp only at hSw); go_simp; first | done | with_reducible rfl)); (simp only [Act.at, List.setIfInBounds_toArray, List.set_cons_zero, List.set_cons_succ]))
    | (refine take_unwanted (i := 30) rfl rfl (by kernel_rfl) (by kernel_rfl) (by kernel_rfl) (fun _ _ _ h => h) (by rfl) (by assumption) ?_; (simp only [Act.at, List.setIfInBounds_toArray, List.set_cons_zero, List.set_cons_succ]))
    first
    | (refine take_wanted (i := 31) (v := ?_) rfl rfl (by kernel_rfl) (by kernel_rfl) (by kernel_rfl) (fun _ _ _ h => h) (by rfl) (by assumption) ?_ ?_; rotate_left; (focus (intro w hSw; (try dsimp only at hSw); go_simp; first | done | with_reducible rfl)); (simp only [Act.at, List.setIfInBounds_toArray, List.set_cons_zero, List.set_cons_succ]))
    | (refine take_unwanted (i := 31) rfl rfl (by kernel_rfl) (by kernel_rfl) (by kernel_rfl) (fun _ _ _ h => h) (by rfl) (by assumption) ?_; (simp only [Act.at, List.setIfInBounds_toArray, List.set_cons_zero, List.set_cons_succ]))
    first
    | (refine take_wanted (i := 32) (v := ?_) rfl rfl (by kernel_rfl) (by kernel_rfl) (by kernel_rfl) (fun _ _ _ h => h) (by rfl) (by assumption) ?_ ?_; rotate_left; (focus (intro w hSw; (try dsimp only at hSw); go_simp; first | done | with_reducible rfl)); (simp only [Act.at, List.setIfInBounds_toArray, List.set_cons_zero, List.set_cons_succ]))
    | (refine take_unwanted (i := 32) rfl rfl (by kernel_rfl) (by kernel_rfl) (by kernel_rfl) (fun _ _ _ h => h) (by rfl) (by assumption) ?_; (simp only [Act.at, List.setIfInBounds_toArray, List.set_cons_zero, List.set_cons_succ]))
    first
    | (refine take_wanted (i := 33) (v := ?_) rfl rfl (by kernel_rfl) (by kernel_rfl) (by kernel_rfl) (fun _ _ _ h => h) (by rfl) (by assumption) ?_ ?_; rotate_left; (focus (intro w hSw; (try dsimp only at hSw); go_simp; first | done | with_reducible rfl)); (simp only [Act.at, List.setIfInBounds_toArray, List.set_cons_zero, List.set_cons_succ]))
    | (refine take_unwanted (i := 33) rfl rfl (by kernel_rfl) (by kernel_rfl) (by kernel_rfl) (fun _ _ _ h => h) (by rfl) (by assumption) ?_; (simp only [Act.at, List.setIfInBounds_toArray, List.set_cons_zero, List.set_cons_succ]))
    first
    | (refine take_wanted (i := 34) (v := ?_) rfl rfl (by kernel_rfl) (by kernel_rfl) (by kernel_rfl) (fun _ _ _ h => h) (by rfl) (by assumption) ?_ ?_; rotate_left; (focus (intro w hSw; (try dsimp only at hSw); go_simp; first | done | with_reducible rfl)); (simp only [Act.at, List.setIfInBounds_toArray, List.set_cons_zero, List.set_cons_succ]))
    | (refine take_unwanted (i := 34) rfl rfl (by kernel_rfl) (by kernel_rfl) (by kernel_rfl) (fun _ _ _ h => h) (by rfl) (by assumption) ?_; (simp only [Act.at, List.setIfInBounds_toArray, List.set_cons_zero, List.set_cons_succ]))
    first
    | (refine take_wanted (i := 35) (v := ?_) rfl rfl (by kernel_rfl) (by kernel_rfl) (by kernel_rfl) (fun _ _ _ h => h) (by rfl) (by assumption) ?_ ?_; rotate_left; (focus (intro w hSw; (try dsimp only at hSw); go_simp; first | done | with_reducible rfl)); (simp only [Act.at, List.setIfInBounds_toArray, List.set_cons_zero, List.set_cons_succ]))
    | (refine take_unwanted (i := 35) rfl rfl (by kernel_rfl) (by kernel_rfl) (by kernel_rfl) (fun _ _ _ h => h) (by rfl) (by assumption) ?_; (simp only [Act.at, List.setIfInBounds_toArray, List.set_cons_zero, List.set_cons_succ]))
    first
    | (refine take_wanted (i := 36) (v := ?_) rfl rfl (by kernel_rfl) (by kernel_rfl) (by kernel_rfl) (fun _ _ _ h => h) (by rfl) (by assumption) ?_ ?_; rotate_left; (focus (intro w hSw; (try dsimp only at hSw); go_simp; first | done | with_reducible rfl)); (simp only [Act.at, List.setIfInBounds_toArray, List.set_cons_zero, List.set_cons_succ]))
    | (refine take_unwanted (i := 36) rfl rfl (by kernel_rfl) (by kernel_rfl) (by kernel_rfl) (fun _ _ _ h => h) (by rfl) (by assumption) ?_; (simp only [Act.at, List.setIfInBounds_toArray, List.set_cons_zero, List.set_cons_succ]))
    first
    | (refine take_wanted (i := 37) (v := ?_) rfl rfl (by kernel_rfl) (by kernel_rfl) (by kernel_rfl) (fun _ _ _ h => h) (by rfl) (by assumption) ?_ ?_; rotate_left; (focus (intro w hSw; (try dsimp only at hSw); go_simp; first | done | with_reducible rfl)); (simp only [Act.at, List.setIfInBounds_toArray, List.set_cons_zero, List.set_cons_succ]))
    | (refine take_unwanted (i := 37) rfl rfl (by kernel_rfl) (by kernel_rfl) (by kernel_rfl) (fun _ _ _ h => h) (by rfl) (by assumption) ?_; (simp only [Act.at, List.setIfInBounds_toArray, List.set_cons_zero, List.set_cons_succ]))
    first
    | (refine take_wanted (i := 38) (v := ?_) rfl rfl (by kernel_rfl) (by kernel_rfl) (by kernel_rfl) (fun _ _ _ h => h) (by rfl) (by assumption) ?_ ?_; rotate_left; (focus (intro w hSw; (try dsimp only at hSw); go_simp; first | done | with_reducible rfl)); (simp only [Act.at, List.setIfInBounds_toArray, List.set_cons_zero, List.set_cons_succ]))
    | (refine take_unwanted (i := 38) rfl rfl (by kernel_rfl) (by kernel_rfl) (by kernel_rfl) (fun _ _ _ h => h) (by rfl) (by assumption) ?_; (simp only [Act.at, List.setIfInBounds_toArray, List.set_cons_zero, List.set_cons_succ]))
    first
    | (refine take_wanted (i := 39) (v := ?_) rfl rfl (by kernel_rfl) (by kernel_rfl) (by kernel_rfl) (fun _ _ _ h => h) (by rfl) (by assumption) ?_ ?_; rotate_left; (focus (intro w hSw; (try dsimp only at hSw); go_simp; first | done | with_reducible rfl)); (simp only [Act.at, List.setIfInBounds_toArray, List.set_cons_zero, List.set_cons_succ]))
    | (refine take_unwanted (i := 39) rfl rfl (by kernel_rfl) (by kernel_rfl) (by kernel_rfl) (fun _ _ _ h => h) (by rfl) (by assumption) ?_; (simp only [Act.at, List.setIfInBounds_toArray, List.set_cons_zero, List.set_cons_succ]))
    first
    | (refine take_wanted (i := 40) (v := ?_) rfl rfl (by kernel_rfl) (by kernel_rfl) (by kernel_rfl) (fun _ _ _ h => h) (by rfl) (by assumption) ?_ ?_; rotate_left; (focus (intro w hSw; (try dsimp only at hSw); go_simp; first | done | with_reducible rfl)); (simp only [Act.at, List.setIfInBounds_toArray, List.set_cons_zero, List.set_cons_succ]))
    | (refine take_unwanted (i := 40) rfl rfl (by kernel_rfl) (by kernel_rfl) (by kernel_rfl) (fun _ _ _ h => h) (by rfl) (by assumption) ?_; (simp only [Act.at, List.setIfInBounds_toArray, List.set_cons_zero, List.set_cons_succ]))
    first
    | (refine take_wanted (i := 41) (v := ?_) rfl rfl (by kernel_rfl) (by kernel_rfl) (by kernel_rfl) (fun _ _ _ h => h) (by rfl) (by assumption) ?_ ?_; rotate_left; (focus (intro w hSw; (try dsimp only at hSw); go_simp; first | done | with_reducible rfl)); (simp only [Act.at, List.setIfInBounds_toArray, List.set_cons_zero, List.set_cons_succ]))
    | (refine take_unwanted (i := 41) rfl rfl (by kernel_rfl) (by kernel_rfl) (by kernel_rfl) (fun _ _ _ h => h) (by rfl) (by assumption) ?_; (simp only [Act.at, List.setIfInBounds_toArray, List.set_cons_zero, List.set_cons_succ]))
    first
    | (refine take_wanted (i := 42) (v := ?_) rfl rfl (by kernel_rfl) (by kernel_rfl) (by kernel_rfl) (fun _ _ _ h => h) (by rfl) (by assumption) ?_ ?_; rotate_left; (focus (intro w hSw; (try dsimp only at hSw); go_simp; first | done | with_reducible rfl)); (simp only [Act.at, List.setIfInBounds_toArray, List.set_cons_zero, List.set_cons_succ]))
    | (refine take_unwanted (i := 42) rfl rfl (by kernel_rfl) (by kernel_rfl) (by kernel_rfl) (fun _ _ _ h => h) (by rfl) (by assumption) ?_; (simp only [Act.at, List.setIfInBounds_toArray, List.set_cons_zero, List.set_cons_succ]))
    first
    | (refine take_wanted (i := 43) (v := ?_) rfl rfl (by kernel_rfl) (by kernel_rfl) (by kernel_rfl) (fun _ _ _ h => h) (by rfl) (by assumption) ?_ ?_; rotate_left; (focus (intro w hSw; (try dsimp only at hSw); go_simp; first | done | with_reducible rfl)); (simp only [Act.at, List.setIfInBounds_toArray, List.set_cons_zero, List.set_cons_succ]))
    | (refine take_unwanted (i := 43) rfl rfl (by kernel_rfl) (by kernel_rfl) (by kernel_rfl) (fun _ _ _ h => h) (by rfl) (by assumption) ?_; (simp only [Act.at, List.setIfInBounds_toArray, List.set_cons_zero, List.set_cons_succ]))
    first
    | (refine take_wanted (i := 44) (v := ?_) rfl rfl (by kernel_rfl) (by kernel_rfl) (by kernel_rfl) (fun _ _ _ h => h) (by rfl) (by assumption) ?_ ?_; rotate_left; (focus (intro w hSw; (try dsimp only at hSw); go_simp; first | done | with_reducible rfl)); (simp only [Act.at, List.setIfInBounds_toArray, List.set_cons_zero, List.set_cons_succ]))
    | (refine take_unwanted (i := 44) rfl rfl (by kernel_rfl) (by kernel_rfl) (by kernel_rfl) (fun _ _ _ h => h) (by rfl) (by assumption) ?_; (simp only [Act.at, List.setIfInBounds_toArray, List.set_cons_zero, List.set_cons_succ]))
    first
    | (refine take_wanted (i := 45) (v := ?_) rfl rfl (by kernel_rfl) (by kernel_rfl) (by kernel_rfl) (fun _ _ _ h => h) (by rfl) (by assumption) ?_ ?_; rotate_left; (focus (intro w hSw; (try dsimp only at hSw); go_simp; first | done | with_reducible rfl)); (simp only [Act.at, List.setIfInBounds_toArray, List.set_cons_zero, List.set_cons_succ]))
    | (refine take_unwanted (i := 45) rfl rfl (by kernel_rfl) (by kernel_rfl) (by kernel_rfl) (fun _ _ _ h => h) (by rfl) (by assumption) ?_; (simp only [Act.at, List.setIfInBounds_toArray, List.set_cons_zero, List.set_cons_succ]))
    first
    | (refine take_wanted (i := 46) (v := ?_) rfl rfl (by kernel_rfl) (by kernel_rfl) (by kernel_rfl) (fun _ _ _ h => h) (by rfl) (by assumption) ?_ ?_; rotate_left; (focus (intro w hSw; (try dsimp only at hSw); go_simp; first | done | with_reducible rfl)); (simp only [Act.at, List.setIfInBounds_toArray, List.set_cons_zero, List.set_cons_succ]))
    | (refine take_unwanted (i := 46) rfl rfl (by kernel_rfl) (by kernel_rfl) (by kernel_rfl) (fun _ _ _ h => h) (by rfl) (by assumption) ?_; (simp only [Act.at, List.setIfInBounds_toArray, List.set_cons_zero, List.set_cons_succ]))
    first
    | (refine take_wanted (i := 47) (v := ?_) rfl rfl (by kernel_rfl) (by kernel_rfl) (by kernel_rfl) (fun _ _ _ h => h) (by rfl) (by assumption) ?_ ?_; rotate_left; (focus (intro w hSw; (try dsimp only at hSw); go_simp; first | done | with_reducible rfl)); (simp only [Act.at, List.setIfInBounds_toArray, List.set_cons_zero, List.set_cons_succ]))
    | (refine take_unwanted (i := 47) rfl rfl (by kernel_rfl) (by kernel_rfl) (by kernel_rfl) (fun _ _ _ h => h) (by rfl) (by assumption) ?_; (simp only [Act.at, List.setIfInBounds_toArray, List.set_cons_zero, List.set_cons_succ]))
    first
    | (refine take_wanted (i := 48) (v := ?_) rfl rfl (by kernel_rfl) (by kernel_rfl) (by kernel_rfl) (fun _ _ _ h => h) (by rfl) (by assumption) ?_ ?_; rotate_left; (focus (intro w hSw; (try dsimp only at hSw); go_simp; first | done | with_reducible rfl)); (simp only [Act.at, List.setIfInBounds_toArray, List.set_cons_zero, List.set_cons_succ]))
    | (refine take_unwanted (i := 48) rfl rfl (by kernel_rfl) (by kernel_rfl) (by kernel_rfl) (fun _ _ _ h => h) (by rfl) (by assumption) ?_; (simp only [Act.at, List.setIfInBounds_toArray, List.set_cons_zero, List.set_cons_succ]))
    refine take_call (i := 49) (by kernel_rfl) rfl rfl (by rfl) (fun K hK => ?_)
    go_simp
    refine (HBL.out _ _ _ _ _ HG.out.at_).mono ?_
    rintro r w8 ⟨rfl, hb⟩
    replace HG := Lib.hid (HG.out.below hb)
    clear hx hHeld hb
    have hx := HG.out
    refine hK.out _ _ hx (fun hHeld => ?_)
    clear hK K
    try simp only [Act.put, List.setIfInBounds_toArray, List.set_cons_zero, List.set_cons_succ]
    first
    | (refine take_wanted (i := 50) (v := ?_) rfl rfl (by kernel_rfl) (by kernel_rfl) (by kernel_rfl) (fun _ _ _ h => h) (by rfl) (by assumption) ?_ ?_; rotate_left; (focus (intro w hSw; (try dsimp only at hSw); go_simp; first | done | with_reducible rfl)); (simp only [Act.at, List.setIfInBounds_toArray, List.set_cons_zero, List.set_cons_succ]))
    | (refine take_unwanted (i := 50) rfl rfl (by kernel_rfl) (by kernel_rfl) (by kernel_rfl) (fun _ _ _ h => h) (by rfl) (by assumption) ?_; (simp only [Act.at, List.setIfInBounds_toArray, List.set_cons_zero, List.set_cons_succ]))
    first
    | (refine take_wanted (i := 51) (v := ?_) rfl rfl (by kernel_rfl) (by kernel_rfl) (by kernel_rfl) (fun _ _ _ h => h) (by rfl) (by assumption) ?_ ?_; rotate_left; (focus (intro w hSw; (try dsimp only at hSw); go_simp; first | done | with_reducible rfl)); (simp only [Act.at, List.setIfInBounds_toArray, List.set_cons_zero, List.set_cons_succ]))
    | (refine take_unwanted (i := 51) rfl rfl (by kernel_rfl) (by kernel_rfl) (by kernel_rfl) (fun _ _ _ h => h) (by rfl) (by assumption) ?_; (simp only [Act.at, List.setIfInBounds_toArray, List.set_cons_zero, List.set_cons_succ]))
    first
    | (refine take_wanted (i := 52) (v := ?_) rfl rfl (by kernel_rfl) (by kernel_rfl) (by kernel_rfl) (fun _ _ _ h => h) (by rfl) (by assumption) ?_ ?_; rotate_left; (focus (intro w hSw; (try dsimp only at hSw); go_simp; first | done | with_reducible rfl)); (simp only [Act.at, List.setIfInBounds_toArray, List.set_cons_zero, List.set_cons_succ]))
    | (refine take_unwanted (i := 52) rfl rfl (by kernel_rfl) (by kernel_rfl) (by kernel_rfl) (fun _ _ _ h => h) (by rfl) (by assumption) ?_; (simp only [Act.at, List.setIfInBounds_toArray, List.set_cons_zero, List.set_cons_succ]))
    first
    | (refine take_wanted (i := 53) (v := ?_) rfl rfl (by kernel_rfl) (by kernel_rfl) (by kernel_rfl) (fun _ _ _ h => h) (by rfl) (by assumption) ?_ ?_; rotate_left; (focus (intro w hSw; (try dsimp only at hSw); go_simp; first | done | with_reducible rfl)); (simp only [Act.at, List.setIfInBounds_toArray, List.set_cons_zero, List.set_cons_succ]))
    | (refine take_unwanted (i := 53) rfl rfl (by kernel_rfl) (by kernel_rfl) (by kernel_rfl) (fun _ _ _ h => h) (by rfl) (by assumption) ?_; (simp only [Act.at, List.setIfInBounds_toArray, List.set_cons_zero, List.set_cons_succ]))
    refine take_call (i := 54) (by kernel_rfl) rfl rfl (by rfl) (fun K hK => ?_)
    go_simp
    refine (HGD.out _ _ _ _ _ _ _ _ HG.out.at_).mono ?_
    rintro r w9 ⟨rfl, rfl⟩
    refine hK.out _ _ hx (fun hHeld => ?_)
    clear hK K
    try simp only [Act.put, List.setIfInBounds_toArray, List.set_cons_zero, List.set_cons_succ]
    refine take_call (i := 55) (by kernel_rfl) rfl rfl (by rfl) (fun K hK => ?_)
    go_simp
    refine (HSZ.out _ _ _ _ HG.out.at_.disk).mono ?_
    rintro r w9 ⟨rfl, rfl⟩
    refine hK.out _ _ hx (fun hHeld => ?_)
    clear hK K
    try simp only [Act.put, List.setIfInBounds_toArray, List.set_cons_zero, List.set_cons_succ]
    first
    | (refine take_wanted (i := 56) (v := ?_) rfl rfl (by kernel_rfl) (by kernel_rfl) (by kernel_rfl) (fun _ _ _ h => h) (by rfl) (by assumption) ?_ ?_; rotate_left; (focus (intro w hSw; (try dsimp only at hSw); go_simp; first | done | with_reducible rfl)); (simp only [Act.at, List.setIfInBounds_toArray, List.set_cons_zero, List.set_cons_succ]))
    | (refine take_unwanted (i := 56) rfl rfl (by kernel_rfl) (by kernel_rfl) (by kernel_rfl) (fun _ _ _ h => h) (by rfl) (by assumption) ?_; (simp only [Act.at, List.setIfInBounds_toArray, List.set_cons_zero, List.set_cons_succ]))
    first
    | (refine take_wanted (i := 57) (v := ?_) rfl rfl (by kernel_rfl) (by kernel_rfl) (by kernel_rfl) (fun _ _ _ h => h) (by rfl) (by assumption) ?_ ?_; rotate_left; (focus (intro w hSw; (try dsimp only at hSw); go_simp; first | done | with_reducible rfl)); (simp only [Act.at, List.setIfInBounds_toArray, List.set_cons_zero, List.set_cons_succ]))
    | (refine take_unwanted (i := 57) rfl rfl (by kernel_rfl) (by kernel_rfl) (by kernel_rfl) (fun _ _ _ h => h) (by rfl) (by assumption) ?_; (simp only [Act.at, List.setIfInBounds_toArray, List.set_cons_zero, List.set_cons_succ]))
    first
    | (refine take_wanted (i := 58) (v := ?_) rfl rfl (by kernel_rfl) (by kernel_rfl) (by kernel_rfl) (fun _ _ _ h => h) (by rfl) (by assumption) ?_ ?_; rotate_left; (focus (intro w hSw; (try dsimp only at hSw); go_simp; first | done | with_reducible rfl)); (simp only [Act.at, List.setIfInBounds_toArray, List.set_cons_zero, List.set_cons_succ]))
    | (refine take_unwanted (i := 58) rfl rfl (by kernel_rfl) (by kernel_rfl) (by kernel_rfl) (fun _ _ _ h => h) (by rfl) (by assumption) ?_; (simp only [Act.at, List.setIfInBounds_toArray, List.set_cons_zero, List.set_cons_succ]))
    first
    | (refine take_wanted (i := 59) (v := ?_) rfl rfl (by kernel_rfl) (by kernel_rfl) (by kernel_rfl) (fun _ _ _ h => h) (by rfl) (by assumption) ?_ ?_; rotate_left; (focus (intro w hSw; (try dsimp only at hSw); go_simp; first | done | with_reducible rfl)); (simp only [Act.at, List.setIfInBounds_toArray, List.set_cons_zero, List.set_cons_succ]))
    | (refine take_unwanted (i := 59) rfl rfl (by kernel_rfl) (by kernel_rfl) (by kernel_rfl) (fun _ _ _ h => h) (by rfl) (by assumption) ?_; (simp only [Act.at, List.setIfInBounds_toArray, List.set_cons_zero, List.set_cons_succ]))
    first
    | (refine take_wanted (i := 62) (v := ?_) rfl rfl (by kernel_rfl) (by kernel_rfl) (by kernel_rfl) (fun _ _ _ h => h) (by rfl) (by assumption) ?_ ?_; rotate_left; (focus (intro w hSw; (try dsimp only at hSw); go_simp; first | done | with_reducible rfl)); (simp only [Act.at, List.setIfInBounds_toArray, List.set_cons_zero, List.set_cons_succ]))
    | (refine take_unwanted (i := 62) rfl rfl (by kernel_rfl) (by kernel_rfl) (by kernel_rfl) (fun _ _ _ h => h) (by rfl) (by assumption) ?_; (simp only [Act.at, List.setIfInBounds_toArray, List.set_cons_zero, List.set_cons_succ]))
    refine take_call (i := 60) (by kernel_rfl) rfl rfl (by rfl) (fun K hK => ?_)
    go_simp
    refine (HGD.out _ _ _ _ _ _ _ _ HG.out.at_).mono ?_
    rintro r w9 ⟨rfl, rfl⟩
    refine hK.out _ _ hx (fun hHeld => ?_)
    clear hK K
    try simp only [Act.put, List.setIfInBounds_toArray, List.set_cons_zero, List.set_cons_succ]
    refine take_call (i := 61) (by kernel_rfl) rfl rfl (by rfl) (fun K hK => ?_)
    go_simp
    refine (HAC.out _ _ _ _ HG.out.at_.disk).mono ?_
    rintro r w9 ⟨rfl, rfl⟩
    refine hK.out _ _ hx (fun hHeld => ?_)
    clear hK K
    try simp only [Act.put, List.setIfInBounds_toArray, List.set_cons_zero, List.set_cons_succ]
    refine take_call (i := 63) (by kernel_rfl) rfl rfl (by rfl) (fun K hK => ?_)
    go_simp
    refine (HAC.out _ _ _ _ HG.out.at_.disk).mono ?_
    rintro r w9 ⟨rfl, rfl⟩
    refine hK.out _ _ hx (fun hHeld => ?_)
    clear hK K
    try simp only [Act.put, List.setIfInBounds_toArray, List.set_cons_zero, List.set_cons_succ]
    first
    | (refine take_wanted (i := 64) (v := ?_) rfl rfl (by kernel_rfl) (by kernel_rfl) (by kernel_rfl) (fun _ _ _ h => h) (by rfl) (by assumption) ?_ ?_; rotate_left; (focus (intro w hSw; (try dsimp only at hSw); go_simp; first | done | with_reducible rfl)); (simp only [Act.at, List.setIfInBounds_toArray, List.set_cons_zero, List.set_cons_succ]))
    | (refine take_unwanted (i := 64) rfl rfl (by kernel_rfl) (by kernel_rfl) (by kernel_rfl) (fun _ _ _ h => h) (by rfl) (by assumption) ?_; (simp only [Act.at, List.setIfInBounds_toArray, List.set_cons_zero, List.set_cons_succ]))
    first
    | (refine take_wanted (i := 65) (v := ?_) rfl rfl (by kernel_rfl) (by kernel_rfl) (by kernel_rfl) (fun _ _ _ h => h) (by rfl) (by assumption) ?_ ?_; rotate_left; (focus (intro w hSw; (try dsimp only at hSw); go_simp; first | done | with_reducible rfl)); (simp only [Act.at, List.setIfInBounds_toArray, List.set_cons_zero, List.set_cons_succ]))
    | (refine take_unwanted (i := 65) rfl rfl (by kernel_rfl) (by kernel_rfl) (by kernel_rfl) (fun _ _ _ h => h) (by rfl) (by assumption) ?_; (simp only [Act.at, List.setIfInBounds_toArray, List.set_cons_zero, List.set_cons_succ]))
    first
    | (refine take_wanted (i := 66) (v := ?_) rfl rfl (by kernel_rfl) (by kernel_rfl) (by kernel_rfl) (fun _ _ _ h => h) (by rfl) (by assumption) ?_ ?_; rotate_left; (focus (intro w hSw; (try dsimp only at hSw); go_simp; first | done | with_reducible rfl)); (simp only [Act.at, List.setIfInBounds_toArray, List.set_cons_zero, List.set_cons_succ]))
    | (refine take_unwanted (i := 66) rfl rfl (by kernel_rfl) (by kernel_rfl) (by kernel_rfl) (fun _ _ _ h => h) (by rfl) (by assumption) ?_; (simp only [Act.at, List.setIfInBounds_toArray, List.set_cons_zero, List.set_cons_succ]))
    refine take_call (i := 67) (by kernel_rfl) rfl rfl (by rfl) (fun K hK => ?_)
    go_simp
    refine (HAW.out _).mono ?_
    rintro r w10 ⟨rfl, hb⟩
    replace HG := Lib.hid (HG.out.below hb)
    clear hx hHeld hb
    have hx := HG.out
    refine hK.out _ _ hx (fun hHeld => ?_)
    clear hK K
    try simp only [Act.put, List.setIfInBounds_toArray, List.set_cons_zero, List.set_cons_succ]
    first
    | (refine take_wanted (i := 68) (v := ?_) rfl rfl (by kernel_rfl) (by kernel_rfl) (by kernel_rfl) (fun _ _ _ h => h) (by rfl) (by assumption) ?_ ?_; rotate_left; (focus (intro w hSw; (try dsimp only at hSw); go_simp; first | done | with_reducible rfl)); (simp only [Act.at, List.setIfInBounds_toArray, List.set_cons_zero, List.set_cons_succ]))
    | (refine take_unwanted (i := 68) rfl rfl (by kernel_rfl) (by kernel_rfl) (by kernel_rfl) (fun _ _ _ h => h) (by rfl) (by assumption) ?_; (simp only [Act.at, List.setIfInBounds_toArray, List.set_cons_zero, List.set_cons_succ]))
    first
    | (refine take_wanted (i := 69) (v := ?_) rfl rfl (by kernel_rfl) (by kernel_rfl) (by kernel_rfl) (fun _ _ _ h => h) (by rfl) (by assumption) ?_ ?_; rotate_left; (focus (intro w hSw; (try dsimp only at hSw); go_simp; first | done | with_reducible rfl)); (simp only [Act.at, List.setIfInBounds_toArray, List.set_cons_zero, List.set_cons_succ]))
    | (refine take_unwanted (i := 69) rfl rfl (by kernel_rfl) (by kernel_rfl) (by kernel_rfl) (fun _ _ _ h => h) (by rfl) (by assumption) ?_; (simp only [Act.at, List.setIfInBounds_toArray, List.set_cons_zero, List.set_cons_succ]))
    refine wpAnyH_done (by kernel_rfl) ?_ _
    go_wp2_with fail
    go_ret
    exact ⟨rfl, HG.out.bel⟩

set_option maxRecDepth 100000 in
theorem guardPuts_contract {H : Type} (enc : TypeId × Value → H) (W : World) (base : Nat) (args : Array Value) (ds gs : List (DataW H)) (before : List MemPlace)
    (hval : ∀ (j : Nat) t v, Tryd.f3.params[j]? = some t → args[j]? = some v → Value.okWide Tryd.prog W .any base t v)
    (hW : DataW.Whole enc Tryd.prog Tryd.f3.params.toList Rows.guardPutsSpec.vars false W args.toList ds gs before)
    (hsz : (DataW.weightsEach Tryd.prog (Tryd.f3.params.toList ++ Rows.guardPutsSpec.plain.varTypes Tryd.prog) (ds ++ gs)).all (· ≤ reachBytes) = true) :
    Calls Tryd.prog 3 args W fun e W' =>
      ((Rows.guardPutsSpec.fn H (ds ++ gs)).results = [.lit (.bool true)] ∧ (Rows.guardPutsSpec.fn H (ds ++ gs)).args = ds ∧ (Rows.guardPutsSpec.fn H (ds ++ gs)).vars = []) ∧ e = .returned (.bool true) ∧ Below W.heap.size W W' := by
  obtain ⟨p, q, hA0, hV, rfl, hfz, hnd⟩ := hW
  have hA : DataW.TrodAll enc Tryd.prog W 0 (fun _ => true) true Tryd.f3.params.toList args.toList ds p := hA0
  rw [Tryd.params3] at hA hval hsz
  obtain ⟨v0, v1, v2, v3, d0, d1, d2, d3, p0, p1, p2, p3, rfl, rfl, rfl, h0, h1, h2, h3⟩ := trodAll_four hA
  obtain ⟨rfl, rfl⟩ := trodVars_none hV
  obtain ⟨b, rfl, rfl, rfl, bd_b⟩ := open_int Tryd.underlying3 (hval 0 3 v0 rfl rfl) h0
  obtain ⟨i, rfl, rfl, rfl, bd_i⟩ := open_int Tryd.underlying3 (hval 1 3 v1 rfl rfl) h1
  obtain ⟨s, rfl, rfl, rfl, max_s⟩ := open_string Tryd.underlying9 (hval 2 9 v2 rfl rfl) h2
  have len_s : s.data.toList.length ≤ reachBytes := sized_string hsz (j := 2) (t := 9) rfl rfl
  obtain ⟨m, rfl, rfl, rfl, max_m⟩ := open_string Tryd.underlying9 (hval 3 9 v3 rfl rfl) h3
  have len_m : m.data.toList.length ≤ reachBytes := sized_string hsz (j := 3) (t := 9) rfl rfl
  rw [← S_of s]
  rw [← S_of m]
  exact (gputs_any b i s.data.toList m.data.toList (Nat.le_trans len_s (by decide)) (Nat.le_trans len_m (by decide)) W).mono fun e W' h => ⟨⟨rfl, rfl, rfl⟩, h⟩

end Go.Proofs.YtcgdjljfgjoliaaDoor
