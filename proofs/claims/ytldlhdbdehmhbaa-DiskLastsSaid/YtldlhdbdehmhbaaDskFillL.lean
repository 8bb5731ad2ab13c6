/-
  The statements' own fill.
-/
import Derived.Test.YtldlhdbdehmhbaaDskAt
import Derived.Laws.MakeOwn
namespace Go.Proofs.Ytldlhdbdehmhbaa
open Go.RowKit
set_option linter.unusedVariables false

def vInt : Value → Int | .int _ q => q | _ => 0
def fillc (c : UInt8) (n k : Nat) : Array Value := (bcells (List.replicate k c ++ List.replicate (n - k) 0)).toArray
theorem fillc_size (c : UInt8) (n k : Nat) (h : k ≤ n) : (fillc c n k).size = n := by simp [fillc, bcells]; omega
theorem fillc_step (c : UInt8) (n k : Nat) (h : k < n) : (fillc c n k).setIfInBounds k (.int .u8 (c.toNat : Int)) = fillc c n (k + 1) := by
  apply Array.ext'
  rw [Array.toList_setIfInBounds]
  show (bcells _).set k _ = bcells _
  unfold bcells
  rw [List.map_append, List.set_append_right _ _ (by simp), List.map_append]
  simp only [List.length_map, List.length_replicate, Nat.sub_self]
  have e : n - k = (n - (k + 1)) + 1 := by omega
  rw [e, List.replicate_succ, List.map_cons, List.set_cons_zero, List.replicate_succ', List.map_append, List.append_assoc]
  rfl
theorem u8Info : ∃ i0 : TypeInfo, Try.prog.info? 5 = some i0 ∧ i0.zero = some (.int .u8 0) ∧ i0.size = 1 ∧ i0.bytes = 1 := by
  have h : (Try.prog.info? 5).map (fun i => (i.zero, i.size, i.bytes)) = some (some (.int .u8 0), 1, 1) := by kernel_rfl
  cases hq : Try.prog.info? 5 with
  | none => rw [hq] at h; cases h
  | some i0 =>
    rw [hq] at h
    injection h with h
    simp only [Prod.mk.injEq] at h
    exact ⟨i0, rfl, h.1, h.2.1, h.2.2⟩
theorem run_make_bytes (c : UInt8) (n : Nat) (hn : n ≤ 1000000) (W : World) : (Instr.makeSlice 22 (.int .i64 (n : Int)) (.int .i64 (n : Int))).run Try.prog W = .ok (.slice (some ⟨W.heap.size, 0, none⟩) n n) (W.alloc (.cells (fillc c n 0) 5)) := by
  obtain ⟨i0, h1, h2, h3, h4⟩ := u8Info
  have h := run_make (P := Try.prog) W 22 5 i0 _ Try.underlying22 h1 h2 .i64 .i64 (n : Int) (n : Int) (by omega) (by omega) (by rw [h4]; omega) (by omega)
  have e : madeCells (Value.int .u8 0).cells (n * i0.size) = fillc c n 0 := by
    apply Array.ext'
    rw [h3, Nat.mul_one]
    show (madeCells #[Value.int .u8 0] n).toList = _
    rw [toList_madeCells_one]
    simp [fillc, bcells]
  rw [Int.toNat_natCast, e] at h
  exact h
def FillPost (w : World) (c : UInt8) (n : Nat) (e : Ending) (w' : World) : Prop := e = .returned (.string (S (List.replicate n c))) ∧ Below w.heap.size w w'
set_option maxHeartbeats 1000000 in
theorem fill_any (c : UInt8) (n : Nat) (hn : n ≤ 1000000) (w : World) :
    Calls Try.prog 8 #[.int .u8 (c.toNat : Int), .int .i64 (n : Int)] w (FillPost w c n) := by
  have hmk := fun W => run_make_bytes c n hn W
  have hstep := fillc_step c n
  have hsize := fillc_size c n
  have hall : ∀ W b, Has W b 5 (fillc c n n) → (convert 22 9 (.slice (some ⟨b, 0, none⟩) n n)).run Try.prog W = .ok (.string (S (List.replicate n c))) W := fun W b hb =>
    conv_text Try.underlying22 Try.underlying5 Try.underlying9 (List.replicate n c) List.length_replicate (fun i hi => by
      rw [Nat.zero_add, hb.cell]
      unfold fillc
      rw [Nat.sub_self, List.replicate_zero, List.append_nil, List.getElem?_toArray])
  have HALL : Hid _ := hall
  have HST : Hid _ := hstep
  have HSZ : Hid _ := hsize
  clear hall hstep hsize
  have n0 : (0 : Int) ≤ (n : Int) := by omega
  have n1 : (n : Int) ≤ 1000000 := by omega
  generalize hF : fillc c n = F at hmk HALL HST HSZ
  clear hF
  go_enter Try.func8, Try.ntmps8
  go_wp2_with fail
  have hm0 := Has.made w 5 (F 0)
  have hb0 : Below w.heap.size w (w.alloc (.cells (F 0) 5)) := (Below.refl _ w).alloc (Nat.le_refl _) _
  have hs0 := asize w (.cells (F 0) 5)
  generalize World.alloc w _ = W at hm0 hb0 hs0 ⊢
  go_loopw [6] (fun v6 wr => ∃ k : Nat, k ≤ n ∧ v6 = .int .i64 (k : Int) ∧ Has wr w.heap.size 5 (F k) ∧ Only W wr w.heap.size) (fun v6 _ => n - (vInt v6).toNat)
  case atStart => exact ⟨0, Nat.zero_le _, rfl, hm0, Only.refl _ _⟩
  case round =>
    obtain ⟨k, hk, rfl, hf, ho⟩ := hrel
    by_cases hlt : k < n
    · have hki : (k : Int) < (n : Int) := by omega
      have hk0 : (0 : Int) ≤ (k : Int) := by omega
      have hc : ∃ v, wr.cell? ⟨w.heap.size, k, none⟩ = some v := ⟨_, by rw [hf.cell, Array.getElem?_eq_getElem (by rw [HSZ.out k hk]; exact hlt)]⟩
      obtain ⟨v, hc⟩ := hc
      have hfr := hf.free k
      have hf' := hf.set k (.int .u8 (c.toNat : Int))
      rw [HST.out k hlt] at hf'
      have HN := Lib.hid (And.intro hf' (ho.trans (Only.set wr w.heap.size k (.int .u8 (c.toNat : Int)))))
      clear hf hf' ho hm0 hmk
      go_wp2_with fail
      refine ⟨⟨k + 1, by omega, by go_num, HN.out.1, HN.out.2⟩, ?_⟩
      simp only [vInt]
      omega
    · obtain rfl : k = n := by omega
      have hcv := HALL.out wr w.heap.size hf
      have hbe := ho.below hb0 (by omega) (Nat.le_refl _)
      have HBE := Lib.hid hbe
      clear hf ho hbe hm0 hmk
      go_wp2_with fail
      go_ret
      exact ⟨rfl, HBE.out⟩
end Go.Proofs.Ytldlhdbdehmhbaa
