/-
  The statements' own example.
-/
import Derived.Test.YtldlhdbdehmhbaaDskF
import Derived.Test.YtldlhdbdehmhbaaDskN
import Derived.Test.YtldlhdbdehmhbaaDskFillL
namespace Go.Proofs.Ytldlhdbdehmhbaa
open Go.RowKit
set_option linter.unusedVariables false

namespace Dsk
def x64 : T := List.replicate 64 120
def aw1 : St := (write (fresh 2) 0 x64).2
def aw2 : St := (crash aw1 ⟨0, 3⟩).2
def aw3 : St := (start aw2).2
def xxx : T := List.replicate 3 120 ++ List.replicate 61 0
theorem aw1_c : (write (fresh 2) 0 x64).1 = 0 := by decide +kernel
theorem aw2_c : (crash aw1 ⟨0, 3⟩).1 = 0 := by decide +kernel
theorem aw3_c : (start aw2).1 = 0 := by decide +kernel
theorem aw4 : read aw3 0 = (xxx, 0) := by decide +kernel
end Dsk
set_option maxRecDepth 100000 in
set_option maxHeartbeats 1000000 in
theorem awake_any (w : World) : Calls Try.prog 13 #[] w fun r w' => r = .returned (.bool true) ∧ Below w.heap.size w w' := by
  have HNEW : Hid (Calls Try.prog 6 #[.int .i64 2] w (NewDPost w 2)) := Lib.hid (newd_any 2 (by decide) (by decide) w)
  have HX : Hid (∀ W : World, Calls Try.prog 8 #[.int .u8 120, .int .i64 64] W fun e w' => e = .returned (.string (S Dsk.x64)) ∧ Below W.heap.size W w') := Lib.hid (fun W => fill_any 120 64 (by decide) W)
  have HZ : Hid (∀ W : World, Calls Try.prog 8 #[.int .u8 0, .int .i64 61] W fun e w' => e = .returned (.string (S (List.replicate 61 0))) ∧ Below W.heap.size W w') := Lib.hid (fun W => fill_any 0 61 (by decide) W)
  have HW : Hid (∀ (W : World) (g bd mb : Nat), DiskAt W g bd mb (Dsk.fresh 2) → Calls Try.prog 7 #[.pointer (some ⟨g, 0, none⟩), .int .i64 0, .string (S Dsk.x64)] W (DPost W g bd mb 0 Dsk.aw1)) := Lib.hid (fun W g bd mb h => by
    have := write_any h (by decide) (by decide) 0 Dsk.x64 (by decide)
    rw [Dsk.aw1_c] at this
    exact this)
  have HC : Hid (∀ (W : World) (g bd mb : Nat), DiskAt W g bd mb Dsk.aw1 → Calls Try.prog 10 #[.pointer (some ⟨g, 0, none⟩), .agg #[.int .u64 0, .int .i64 3]] W (DPost W g bd mb 0 Dsk.aw2)) := Lib.hid (fun W g bd mb h => by
    have := crash_any h (by decide +kernel) ⟨0, 3⟩ ⟨by decide, by decide, by decide⟩
    rw [Dsk.aw2_c] at this
    exact this)
  have HS : Hid (∀ (W : World) (g bd mb : Nat), DiskAt W g bd mb Dsk.aw2 → Calls Try.prog 11 #[.pointer (some ⟨g, 0, none⟩)] W (DPost W g bd mb 0 Dsk.aw3)) := Lib.hid (fun W g bd mb h => by
    have := start_any h
    rw [Dsk.aw3_c] at this
    exact this)
  have HR : Hid (∀ (W : World) (g bd mb : Nat), DiskAt W g bd mb Dsk.aw3 → Calls Try.prog 12 #[.pointer (some ⟨g, 0, none⟩), .int .i64 0] W fun e w' => e = .returned (.tuple #[.string (S Dsk.xxx), .int .i64 0]) ∧ Below W.heap.size W w') := Lib.hid (fun W g bd mb h => by
    have := read_any h 0
    rw [Dsk.aw4] at this
    exact this)
  have hadd : ({ data := #[120, 120, 120] } : ByteArray) ++ S (List.replicate 61 0) = S Dsk.xxx := rfl
  have hzl : ¬ 9223372036854775807 < 3 + (List.replicate 61 (0 : UInt8)).length := by decide
  generalize Dsk.xxx = y at HR hadd
  generalize Dsk.x64 = x at HX HW
  generalize Dsk.aw1 = d1 at HW HC
  generalize Dsk.aw2 = d2 at HC HS
  generalize Dsk.aw3 = d3 at HS HR
  generalize List.replicate 61 (0 : UInt8) = z at HZ hadd hzl
  unfold NewDPost at HNEW
  generalize Dsk.fresh 2 = d0 at HNEW HW
  go_enter Try.func13, Try.ntmps13
  go_wp2_with fail
  refine HNEW.out.mono ?_
  rintro r w1 ⟨g, bd, mb, rfl, hd, hb, hg, hbd, hmb⟩
  have hs : ∀ k ∈ [g, bd, mb], w.heap.size ≤ k := by
    intro k hk
    simp only [List.mem_cons, List.not_mem_nil, or_false] at hk
    rcases hk with rfl | rfl | rfl
    · exact hg
    · exact hbd
    · exact hmb
  have H := Lib.hid (And.intro hd hb)
  have HS0 : Hid _ := hs
  clear hd hb hs hg hbd hmb
  go_wp2_with fail
  refine (HX.out _).mono ?_
  rintro r w2 ⟨rfl, hb⟩
  replace H := Lib.hid (And.intro (H.out.1.below hb) (H.out.2.trans (hb.mono H.out.2.size)))
  clear hb
  go_wp2_with fail
  refine (HW.out _ _ _ _ H.out.1).mono ?_
  rintro r w3 ⟨rfl, hd, hm⟩
  replace H := Lib.hid (And.intro hd (hm.below H.out.2 H.out.2.size HS0.out))
  clear hd hm
  go_wp2_with fail
  refine (HC.out _ _ _ _ H.out.1).mono ?_
  rintro r w4 ⟨rfl, hd, hm⟩
  replace H := Lib.hid (And.intro hd (hm.below H.out.2 H.out.2.size HS0.out))
  clear hd hm
  go_wp2_with fail
  refine (HS.out _ _ _ _ H.out.1).mono ?_
  rintro r w5 ⟨rfl, hd, hm⟩
  replace H := Lib.hid (And.intro hd (hm.below H.out.2 H.out.2.size HS0.out))
  clear hd hm
  go_wp2_with fail
  refine (HR.out _ _ _ _ H.out.1).mono ?_
  rintro r w6 ⟨rfl, hb⟩
  replace H := Lib.hid (H.out.2.trans (hb.mono H.out.2.size))
  clear hb
  go_wp2_with fail
  refine (HZ.out _).mono ?_
  rintro r w7 ⟨rfl, hb⟩
  replace H := Lib.hid (H.out.trans (hb.mono H.out.size))
  clear hb
  go_wp2_with fail
  go_ret
  exact ⟨rfl, H.out⟩
end Go.Proofs.Ytldlhdbdehmhbaa
