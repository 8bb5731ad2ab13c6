/-
  A guarded sector is read: guard's Read.
-/
import Derived.Test.YthadcmbbdggneaaGreatDoorGrdC
import Derived.Test.YthadcmbbdggneaaGreatDoorGrdRun
import Derived.Test.YthadcmbbdggneaaGreatDoorDskF
namespace Go.Proofs.YthadcmbbdggneaaGreatDoor
open Go.RowKit
set_option linter.unusedVariables false

namespace Grd
theorem rd_eq (b : T) (h : b.length = 64) : rd b = if isZ b = true then ([], 0, 7) else if (partsV b).2.2 = true then ((partsV b).1, num8 (b.take 8), 0) else ([], 0, 17) := by
  have e : isZ b = decide (b = noughts) := by unfold isZ noughts zeros; rw [h]
  unfold rd partsV
  rw [e]
  by_cases h1 : b = noughts
  · rw [if_pos h1, decide_eq_true h1, if_pos rfl]
  · rw [if_neg h1, decide_eq_false h1, if_neg Bool.false_ne_true]
    by_cases h2 : isG b = true
    · rw [if_pos h2, if_pos h2]; rfl
    · rw [if_neg h2, if_neg h2]; rfl
theorem partsV_st (b : T) (h : (partsV b).2.2 = true) : (partsV b).2.1 = (num8 (b.take 8) : Int) := by
  unfold partsV at h ⊢
  split
  · rfl
  · rename_i h1
    rw [if_neg h1] at h
    cases h
end Grd
def GReadPost (w : World) (r : List UInt8 × Int × Int) (e : Ending) (w' : World) : Prop := e = .returned (.tuple #[.string (S r.1), .int .i64 r.2.1, .int .i64 r.2.2]) ∧ Below w.heap.size w w'
set_option maxRecDepth 100000 in
set_option maxHeartbeats 1000000 in
theorem gread_any {w : World} {g bd mb : Nat} {d : Dsk.St} (h : DiskAt w g bd mb d) (i : Int) :
    Calls Tryz.prog 57 #[.pointer (some ⟨g, 0, none⟩), .int .i64 i] w (GReadPost w (Grd.read d i)) := by
  have HR := Lib.hid (read_any h i)
  have hlen := Grd.read_len h.good i
  have hE : Grd.read d i = if (Dsk.read d i).2 ≠ 0 then ([], 0, (Dsk.read d i).2) else ((Grd.rd (Dsk.read d i).1).1, ((Grd.rd (Dsk.read d i).1).2.1 : Int), (Grd.rd (Dsk.read d i).1).2.2) := rfl
  generalize Grd.read d i = res at hE ⊢
  generalize Dsk.read d i = x at HR hlen hE
  obtain ⟨b, c⟩ := x
  unfold ReadDPost at HR
  unfold GReadPost
  clear h
  dsimp only at hlen hE HR
  by_cases h0 : c = 0
  · subst h0
    have hl := hlen rfl
    rw [if_neg (by simp), Grd.rd_eq b hl] at hE
    have HZ : Hid (∀ W, Calls Tryz.prog 72 #[.string (S b)] W fun e w' => e = .returned (.bool (isZ b)) ∧ Below W.heap.size W w') := Lib.hid (fun W => gzeros_any b W (by omega))
    have HP : Hid (∀ W, Calls Tryz.prog 73 #[.string (S b)] W (PartsPost W (Grd.partsV b))) := Lib.hid (fun W => gparts_any b hl W)
    have hst := Grd.partsV_st b
    unfold PartsPost at HP
    generalize Grd.num8 (b.take 8) = st at hE hst
    generalize Grd.partsV b = p at hE HP hst
    obtain ⟨dt, st2, ok⟩ := p
    generalize isZ b = z at hE HZ
    dsimp only at hE HP hst
    have HE := Lib.hid hE
    have HST := Lib.hid hst
    clear hE hst hl hlen
    go_enter Tryz.func57, Tryz.ntmps57
    go_wp2_with fail
    refine HR.out.mono ?_
    rintro r w1 ⟨rfl, hb⟩
    have HB := Lib.hid hb
    clear hb
    go_wp2_with fail
    refine (HZ.out _).mono ?_
    rintro r w2 ⟨rfl, hb⟩
    replace HB := Lib.hid (HB.out.trans (hb.mono HB.out.size))
    clear hb
    cases z
    · go_wp2_with fail
      refine (HP.out _).mono ?_
      rintro r w3 ⟨rfl, hb⟩
      replace HB := Lib.hid (HB.out.trans (hb.mono HB.out.size))
      clear hb
      cases ok
      · have hE := HE.out
        rw [if_neg Bool.false_ne_true, if_neg Bool.false_ne_true] at hE
        subst hE
        go_wp2_with fail
        go_ret3
        exact ⟨rfl, HB.out⟩
      · have hE := HE.out
        rw [if_neg Bool.false_ne_true, if_pos rfl] at hE
        subst hE
        have hst := HST.out rfl
        subst hst
        go_wp2_with fail
        go_ret3
        exact ⟨rfl, HB.out⟩
    · have hE := HE.out
      rw [if_pos rfl] at hE
      subst hE
      go_wp2_with fail
      go_ret3
      exact ⟨rfl, HB.out⟩
  · rw [if_pos h0] at hE
    subst hE
    have h1 : (c == 0) = false := by rw [beq_eq_false_iff_ne]; exact h0
    clear hlen
    go_enter Tryz.func57, Tryz.ntmps57
    go_wp2_with fail
    refine HR.out.mono ?_
    rintro r w1 ⟨rfl, hb⟩
    go_wp2_with fail
    go_ret3
    exact ⟨rfl, hb⟩
end Go.Proofs.YthadcmbbdggneaaGreatDoor
