/-
  The document's ring in the statement: its words; key, in.
-/
import Derived.Test.YthadcmbbdggneaaGreatDoorDskFillL
import Derived.Test.YthadcmbbdggneaaGreatDoorKeyPures
import Derived.Test.YthadcmbbdggneaaGreatDoorQuiet
import Derived.Test.YthadcmbbdggneaaGreatDoorTake
namespace Go.Proofs.YthadcmbbdggneaaGreatDoor
open Go.RowKit
set_option linter.unusedVariables false

/-- The document's ring: each slot's key, the start, how often one was shredded. -/
def kcells (K : Nat → Nat) (boot sh : Nat) : Array Value := #[.int .i64 (K 0 : Int), .int .i64 (K 1 : Int), .int .i64 (K 2 : Int), .int .i64 (K 3 : Int), .int .i64 (K 4 : Int), .int .i64 (K 5 : Int), .int .i64 (K 6 : Int), .int .i64 (K 7 : Int), .int .i64 (boot : Int), .int .i64 (sh : Int)]
theorem kcells_get (K : Nat → Nat) (boot sh i : Nat) (h : i < 8) : (kcells K boot sh)[i]? = some (.int .i64 (K i : Int)) := by
  rcases i with _ | _ | _ | _ | _ | _ | _ | _ | i
  all_goals first | rfl | omega
theorem kcells_set (K : Nat → Nat) (boot sh j c : Nat) (h : j < 8) : (kcells K boot sh).setIfInBounds j (.int .i64 (c : Int)) = kcells (Key.upd K j c) boot sh := by
  rcases j with _ | _ | _ | _ | _ | _ | _ | _ | j
  all_goals first | rfl | omega
/-- A block that is kept, if any. -/
abbrev Kp := Option (Nat × TypeId × Array Value)
structure PlK (P : Kp) (W : World) (gp : Nat) (K : Nat → Nat) (boot sh : Nat) : Prop where
  has : Has W gp 30 (kcells K boot sh)
  kp : ∀ o t cs, P = some (o, t, cs) → Has W o t cs ∧ o ≠ gp
section
variable {P : Kp} {W W' : World} {gp : Nat} {K : Nat → Nat} {boot sh : Nat}
theorem PlK.mv {s : List Nat} (h : PlK P W gp K boot sh) (hm : Mv W W' s) (hn : gp ∉ s) (hk : ∀ o t cs, P = some (o, t, cs) → o ∉ s) : PlK P W' gp K boot sh :=
  ⟨hm.has h.has hn, fun o t cs e => ⟨hm.has (h.kp o t cs e).1 (hk o t cs e), (h.kp o t cs e).2⟩⟩
theorem PlK.below (h : PlK P W gp K boot sh) (hb : Below W.heap.size W W') : PlK P W' gp K boot sh := h.mv (Mv.of_below hb []) (by simp) (fun _ _ _ _ => by simp)
theorem PlK.key (h : PlK P W gp K boot sh) (i : Nat) (hi : i < 8) : W.cell? ⟨gp, i, none⟩ = some (.int .i64 (K i : Int)) := by rw [h.has.cell, kcells_get K boot sh i hi]
theorem PlK.bootAt (h : PlK P W gp K boot sh) : W.cell? ⟨gp, 8, none⟩ = some (.int .i64 (boot : Int)) := h.has.cell 8
theorem PlK.shred (h : PlK P W gp K boot sh) : W.cell? ⟨gp, 9, none⟩ = some (.int .i64 (sh : Int)) := h.has.cell 9
theorem PlK.setAny (h : PlK P W gp K boot sh) (j : Nat) (v : Value) : ∀ o t cs, P = some (o, t, cs) → Has (W.setCell ⟨gp, j, none⟩ v) o t cs ∧ o ≠ gp := fun o t cs e =>
  ⟨(Mv.of_only (Only.set W gp j v) (s := [gp]) (by simp)).has (h.kp o t cs e).1 (by simp [(h.kp o t cs e).2]), (h.kp o t cs e).2⟩
theorem PlK.setKey (h : PlK P W gp K boot sh) (j c : Nat) (hj : j < 8) : PlK P (W.setCell ⟨gp, j, none⟩ (.int .i64 (c : Int))) gp (Key.upd K j c) boot sh := ⟨by
  have := h.has.set j (.int .i64 (c : Int))
  rw [kcells_set K boot sh j c hj] at this
  exact this, h.setAny j _⟩
theorem PlK.setBoot (h : PlK P W gp K boot sh) (b : Nat) : PlK P (W.setCell ⟨gp, 8, none⟩ (.int .i64 (b : Int))) gp K b sh := ⟨h.has.set 8 (.int .i64 (b : Int)), h.setAny 8 _⟩
theorem PlK.setShred (h : PlK P W gp K boot sh) (s : Nat) : PlK P (W.setCell ⟨gp, 9, none⟩ (.int .i64 (s : Int))) gp K boot s := ⟨h.has.set 9 (.int .i64 (s : Int)), h.setAny 9 _⟩
theorem PlK.cells {K' : Nat → Nat} (h : PlK P W gp K boot sh) (hk : ∀ i, i < 8 → K' i = K i) : PlK P W gp K' boot sh := ⟨by
  have e : kcells K' boot sh = kcells K boot sh := by
    unfold kcells
    rw [hk 0 (by decide), hk 1 (by decide), hk 2 (by decide), hk 3 (by decide), hk 4 (by decide), hk 5 (by decide), hk 6 (by decide), hk 7 (by decide)]
  rw [e]
  exact h.has, h.kp⟩
end
def KeyPost (w : World) (c : Nat) (e : Ending) (w' : World) : Prop := e = .returned (.string (S (Key.keyT c))) ∧ Below w.heap.size w w'
set_option maxHeartbeats 1000000 in
theorem key_any (c : Nat) (hc : c < 256) (w : World) :
    Calls Tryz.prog 10 #[.int .u8 (c : Int)] w (KeyPost w c) := by
  have hcc : (c : Int) = (((UInt8.ofNat c).toNat : Nat) : Int) := by rw [UInt8.toNat_ofNat']; omega
  unfold KeyPost Key.keyT
  rw [hcc]
  generalize UInt8.ofNat c = u
  have hmk := run_make_bytes u 32 (by decide)
  have hstep := fillc_step u 32
  have hsize := fillc_size u 32
  have hall : ∀ W b, Has W b 5 (fillc u 32 32) → (convert 62 9 (.slice (some ⟨b, 0, none⟩) 32 32)).run Tryz.prog W = .ok (.string (S (List.replicate 32 u))) W := fun W b hb =>
    conv_text Tryz.underlying62 Tryz.underlying5 Tryz.underlying9 (List.replicate 32 u) List.length_replicate (fun i hi => by
      rw [Nat.zero_add, hb.cell]
      unfold fillc
      rw [Nat.sub_self, List.replicate_zero, List.append_nil, List.getElem?_toArray])
  have hmk2 : ∀ W, (Instr.makeSlice 62 (.int .i64 32) (.int .i64 32)).run Tryz.prog W = .ok (.slice (some ⟨W.heap.size, 0, none⟩) 32 32) (W.alloc (.cells (fillc u 32 0) 5)) := fun W => hmk W
  have HALL : Hid _ := hall
  have HST : Hid _ := hstep
  have HSZ : Hid _ := hsize
  clear hall hstep hsize hmk hcc
  generalize hF : fillc u 32 = F at hmk2 HALL HST HSZ
  clear hF
  generalize hR : List.replicate 32 u = RR at HALL ⊢
  clear hR
  go_enter Tryz.func10, Tryz.ntmps10
  go_wp2_with fail
  have hm0 := Has.made w 5 (F 0)
  have hb0 : Below w.heap.size w (w.alloc (.cells (F 0) 5)) := (Below.refl _ w).alloc (Nat.le_refl _) _
  have hs0 := asize w (.cells (F 0) 5)
  generalize World.alloc w _ = W at hm0 hb0 hs0 ⊢
  go_loopw [4] (fun v4 wr => ∃ k : Nat, k ≤ 32 ∧ v4 = .int .i64 (k : Int) ∧ Has wr w.heap.size 5 (F k) ∧ Only W wr w.heap.size) (fun v4 _ => 32 - (vInt v4).toNat)
  case atStart => exact ⟨0, Nat.zero_le _, rfl, hm0, Only.refl _ _⟩
  case round =>
    obtain ⟨k, hk, rfl, hf, ho⟩ := hrel
    by_cases hlt : k < 32
    · have hki : (k : Int) < 32 := by omega
      have hk0 : (0 : Int) ≤ (k : Int) := by omega
      have hc : ∃ v, wr.cell? ⟨w.heap.size, k, none⟩ = some v := ⟨_, by rw [hf.cell, Array.getElem?_eq_getElem (by rw [HSZ.out k hk]; exact hlt)]⟩
      obtain ⟨v, hc⟩ := hc
      have hfr := hf.free k
      have hf' := hf.set k (.int .u8 (u.toNat : Int))
      rw [HST.out k hlt] at hf'
      have HN := Lib.hid (And.intro hf' (ho.trans (Only.set wr w.heap.size k (.int .u8 (u.toNat : Int)))))
      clear hf hf' ho hm0 hmk2
      go_wp2_with fail
      refine ⟨⟨k + 1, by omega, by go_num, HN.out.1, HN.out.2⟩, ?_⟩
      simp only [vInt]
      omega
    · obtain rfl : k = 32 := by omega
      have hcv := HALL.out wr w.heap.size hf
      have hbe := ho.below hb0 (by omega) (Nat.le_refl _)
      have HBE := Lib.hid hbe
      clear hf ho hbe hm0 hmk2
      go_wp2_with fail
      go_ret
      exact ⟨rfl, HBE.out⟩
theorem kin_yes (i : Nat) (hi : i < 8) (w : World) : Calls Tryz.prog 33 #[.int .i64 (i : Int)] w fun e w' => e = .returned (.bool true) ∧ w' = w := by
  have h1 : (0 : Int) ≤ (i : Int) := by omega
  have h2 : (i : Int) < 8 := by omega
  clear hi
  go_enter Tryz.func33, Tryz.ntmps33
  go_wp2_with fail
  go_ret
  exact ⟨rfl, rfl⟩
theorem kin_no (i : Int) (hi : i < 0 ∨ 8 ≤ i) (w : World) : Calls Tryz.prog 33 #[.int .i64 i] w fun e w' => e = .returned (.bool false) ∧ w' = w := by
  by_cases h1 : i < 0
  · have h2 : ¬ (0 : Int) ≤ i := by omega
    clear hi
    go_enter Tryz.func33, Tryz.ntmps33
    go_wp2_with fail
    go_ret
    exact ⟨rfl, rfl⟩
  · have h2 : (0 : Int) ≤ i := by omega
    have h3 : ¬ i < 8 := by omega
    clear hi
    go_enter Tryz.func33, Tryz.ntmps33
    go_wp2_with fail
    go_ret
    exact ⟨rfl, rfl⟩
end Go.Proofs.YthadcmbbdggneaaGreatDoor
