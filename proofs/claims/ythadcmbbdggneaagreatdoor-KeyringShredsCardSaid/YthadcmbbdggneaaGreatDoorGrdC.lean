/-
  Guarded sectors are made: guard's zeros and guarded.
-/
import Derived.Test.YthadcmbbdggneaaGreatDoorGrdP
import Derived.Test.YthadcmbbdggneaaGreatDoorGrdB
namespace Go.Proofs.YthadcmbbdggneaaGreatDoor
open Go.RowKit
set_option linter.unusedVariables false

set_option maxRecDepth 100000 in
theorem gzeros_any (l : List UInt8) (w : World) (hl : l.length ≤ 1000) :
    Calls Tryz.prog 72 #[.string (S l)] w fun e w' => e = .returned (.bool (isZ l)) ∧ Below w.heap.size w w' := by
  have HT := Lib.hid (trim0_any l (by omega) w)
  have hi := trim0_is l
  generalize Lib.trimB l 0 = t at HT hi
  generalize isZ l = z at hi ⊢
  go_enter Tryz.func72, Tryz.ntmps72
  go_wp2_with fail
  refine HT.out.mono ?_
  rintro r w1 ⟨rfl, hw⟩
  have hb : Below w.heap.size w w1 := by
    rcases hw with rfl | rfl
    · exact Below.refl _ _
    · exact (Below.refl _ _).drew
  clear hw
  go_wp2_with fail
  go_ret
  exact ⟨rfl, hb⟩
theorem gparts_any (b : List UInt8) (hb : b.length = 64) (w : World) : Calls Tryz.prog 73 #[.string (S b)] w (PartsPost w (Grd.partsV b)) :=
  parts_any (fun l w h => gzeros_any l w h) b hb w

set_option maxRecDepth 100000 in
set_option maxHeartbeats 1000000 in
theorem guarded_any (a : Nat) (s : List UInt8) (hs : s.length ≤ 47) (ha : a < 18446744073709551616) (w : World) :
    Calls Tryz.prog 53 #[.int .i64 (a : Int), .string (S s)] w fun e w' => e = .returned (.string (S (Grd.grd a s))) ∧ Below w.heap.size w w' := by
  have HE : Hid (∀ W, Calls Tryz.prog 64 #[.int .i64 (a : Int)] W fun e w' => e = .returned (.string (S (Grd.eight a))) ∧ Below W.heap.size W w') := Lib.hid (fun W => by
    have := eight_any (a : Int) W
    rw [Grd.eightI_nat a ha] at this
    exact this)
  have HZ : Hid (∀ W, Calls Tryz.prog 55 #[.string (S [0]), .int .i64 (47 - (s.length : Int))] W fun e w' => e = .returned (.string (S (Grd.zeros (47 - s.length)))) ∧ Below W.heap.size W w') := Lib.hid (fun W => by
    have := zrep_any (47 - s.length) (by omega) W
    rw [Int.ofNat_sub hs] at this
    exact this)
  have hc : (UInt8.ofNat s.length).toNat = s.length := by rw [Grd.u8_toNat]; omega
  have hG : Grd.grd a s = Grd.eight a ++ UInt8.ofNat s.length :: (s ++ (Grd.zeros (47 - s.length) ++ Grd.eight a)) := by
    unfold Grd.grd
    simp
  have h8 : (Grd.eight a).length = 8 := rfl
  have hz : (Grd.zeros (47 - s.length)).length = 47 - s.length := Grd.zeros_len _
  have hB0 := Lib.hid (BldS.new w)
  generalize Grd.grd a s = R at hG ⊢
  generalize Grd.eight a = E at HE hG h8
  generalize Grd.zeros (47 - s.length) = Z at HZ hG hz
  have hle : (s.length : Int) ≤ 47 := by omega
  have hle0 : (0 : Int) ≤ (s.length : Int) := by omega
  have HWB : Hid (∀ (W : World) (l : List UInt8), BldS w w.heap.size l W → l.length ≤ 1000000 → Calls Tryz.prog 65 #[.pointer (some ⟨w.heap.size, 0, none⟩), .int .u8 (s.length : Int)] W fun e w' => e = .returned .nilIface ∧ BldS w w.heap.size (l ++ [UInt8.ofNat s.length]) w') := Lib.hid (fun W l h hl => by
    have := wbyte_any h (UInt8.ofNat s.length) hl
    rw [hc] at this
    exact this)
  have HG := Lib.hid hG
  have HL := Lib.hid (And.intro h8 (And.intro hz hs))
  clear hG hc h8 hz ha hs
  go_enter Tryz.func53, Tryz.ntmps53
  go_wp2_with fail
  refine (HE.out _).mono ?_
  rintro r w1 ⟨rfl, hb⟩
  have hB := Lib.hid (hB0.out.after hb)
  clear hb hB0
  go_wp2_with fail
  refine (wstr_any hB.out E (by have := HL.out.1; simp; omega)).mono ?_
  rintro r w2 ⟨rfl, hb⟩
  replace hB := Lib.hid hb
  clear hb
  go_wp2_with fail
  refine (HWB.out _ _ hB.out (by have := HL.out.1; simp; omega)).mono ?_
  rintro r w3 ⟨rfl, hb⟩
  replace hB := Lib.hid hb
  clear hb
  go_wp2_with fail
  refine (wstr_any hB.out s (by have := HL.out; simp; omega)).mono ?_
  rintro r w4 ⟨rfl, hb⟩
  replace hB := Lib.hid hb
  clear hb
  go_wp2_with fail
  refine (HZ.out _).mono ?_
  rintro r w5 ⟨rfl, hb⟩
  replace hB := Lib.hid (hB.out.after hb)
  clear hb
  go_wp2_with fail
  refine (wstr_any hB.out Z (by have := HL.out; simp; omega)).mono ?_
  rintro r w6 ⟨rfl, hb⟩
  replace hB := Lib.hid hb
  clear hb
  go_wp2_with fail
  refine (HE.out _).mono ?_
  rintro r w7 ⟨rfl, hb⟩
  replace hB := Lib.hid (hB.out.after hb)
  clear hb
  go_wp2_with fail
  refine (wstr_any hB.out E (by have := HL.out; simp; omega)).mono ?_
  rintro r w8 ⟨rfl, hb⟩
  replace hB := Lib.hid hb
  clear hb
  go_wp2_with fail
  refine (bstr_any hB.out).mono ?_
  rintro r w9 ⟨rfl, hb⟩
  go_wp2_with fail
  go_ret
  exact ⟨by rw [HG.out]; rfl, hb⟩
end Go.Proofs.YthadcmbbdggneaaGreatDoor
