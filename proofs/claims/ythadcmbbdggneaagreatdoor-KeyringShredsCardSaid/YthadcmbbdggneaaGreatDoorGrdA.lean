/-
  Numbers as eight bytes, and bytes as a number: guard's Eight and Number.
-/
import Derived.Test.YthadcmbbdggneaaGreatDoorGrdNum
import Derived.Test.YthadcmbbdggneaaGreatDoorDskFillL
namespace Go.Proofs.YthadcmbbdggneaaGreatDoor
open Go.RowKit
set_option linter.unusedVariables false

/-- The first k bytes of L are written, the rest are noughts. -/
def partc (L : List UInt8) (k : Nat) : Array Value := (bcells (L.take k ++ List.replicate (L.length - k) 0)).toArray
theorem partc_size (L : List UInt8) (k : Nat) (h : k ≤ L.length) : (partc L k).size = L.length := by simp [partc, bcells]; omega
theorem partc_step (L : List UInt8) (k : Nat) (h : k < L.length) : (partc L k).setIfInBounds k (.int .u8 ((L[k]'h).toNat : Int)) = partc L (k + 1) := by
  apply Array.ext'
  rw [Array.toList_setIfInBounds]
  show (bcells _).set k _ = bcells _
  unfold bcells
  rw [List.map_append, List.set_append_right _ _ (by simp; omega), List.map_append]
  have e1 : k - (List.map (fun c : UInt8 => Value.int .u8 c.toNat) (L.take k)).length = 0 := by simp; omega
  rw [e1]
  have e : L.length - k = (L.length - (k + 1)) + 1 := by omega
  rw [e, List.replicate_succ, List.map_cons, List.set_cons_zero, List.take_succ_eq_append_getElem h, List.map_append, List.append_assoc]
  rfl
theorem partc_zero (L : List UInt8) : partc L 0 = fillc 0 L.length 0 := by
  unfold partc fillc
  simp
theorem partc_all (L : List UInt8) {W : World} {b : Nat} (h : Has W b 5 (partc L L.length)) :
    (convert 62 9 (.slice (some ⟨b, 0, none⟩) L.length L.length)).run Tryz.prog W = .ok (.string (S L)) W :=
  conv_text Tryz.underlying62 Tryz.underlying5 Tryz.underlying9 L rfl (fun i hi => by
    rw [Nat.zero_add, h.cell]
    unfold partc
    rw [Nat.sub_self, List.replicate_zero, List.append_nil, List.take_length, List.getElem?_toArray])

set_option maxHeartbeats 1000000 in
theorem eight_any (n : Int) (w : World) :
    Calls Tryz.prog 64 #[.int .i64 n] w fun e w' => e = .returned (.string (S (Grd.eightI n))) ∧ Below w.heap.size w w' := by
  have hmk : ∀ W, (Instr.makeSlice 62 (.int .i64 8) (.int .i64 8)).run Tryz.prog W = .ok (.slice (some ⟨W.heap.size, 0, none⟩) 8 8) (W.alloc (.cells (partc (Grd.eightI n) 0) 5)) := fun W => by
    rw [partc_zero]
    exact run_make_bytes 0 8 (by decide) W
  have hat := Grd.eightI_at n
  have hstep := partc_step (Grd.eightI n)
  have hsize := partc_size (Grd.eightI n)
  have hall : ∀ W b, Has W b 5 (partc (Grd.eightI n) 8) → (convert 62 9 (.slice (some ⟨b, 0, none⟩) 8 8)).run Tryz.prog W = .ok (.string (S (Grd.eightI n))) W := fun W b h => partc_all (Grd.eightI n) h
  have hb : ∀ k (h : k < 8), (partc (Grd.eightI n) k).setIfInBounds k (.int .u8 ((n / 2 ^ (8 * (7 - k))) % 256)) = partc (Grd.eightI n) (k + 1) := fun k h => by
    rw [← hat k h]
    exact hstep k h
  rw [Grd.eightI_len] at hsize
  have HALL : Hid _ := hall
  have HST : Hid _ := hb
  have HSZ : Hid _ := hsize
  clear hall hstep hsize hat hb
  generalize hF : partc (Grd.eightI n) = F at hmk HALL HST HSZ
  generalize Grd.eightI n = L at hF HALL ⊢
  clear hF
  go_enter Tryz.func64, Tryz.ntmps64
  go_wp2_with fail
  have hm0 := Has.made w 5 (F 0)
  have hb0 : Below w.heap.size w (w.alloc (.cells (F 0) 5)) := (Below.refl _ w).alloc (Nat.le_refl _) _
  have hs0 := asize w (.cells (F 0) 5)
  generalize World.alloc w _ = W at hm0 hb0 hs0 ⊢
  go_loopw [8] (fun v8 wr => ∃ k : Nat, k ≤ 8 ∧ v8 = .int .i64 (k : Int) ∧ Has wr w.heap.size 5 (F k) ∧ Only W wr w.heap.size) (fun v8 _ => 8 - (vInt v8).toNat)
  case atStart => exact ⟨0, Nat.zero_le _, rfl, hm0, Only.refl _ _⟩
  case round =>
    obtain ⟨k, hk, rfl, hf, ho⟩ := hrel
    by_cases hlt : k < 8
    · have hki : (k : Int) < 8 := by omega
      have hk0 : (0 : Int) ≤ (k : Int) := by omega
      have hc : ∃ v, wr.cell? ⟨w.heap.size, k, none⟩ = some v := ⟨_, by rw [hf.cell, Array.getElem?_eq_getElem (by rw [HSZ.out k hk]; exact hlt)]⟩
      obtain ⟨v, hc⟩ := hc
      have hfr := hf.free k
      have hsh : (8 * ((7 : Int) - (k : Int))).toNat = 8 * (7 - k) := by omega
      have hf' := hf.set k (.int .u8 ((n / 2 ^ (8 * (7 - k))) % 256))
      rw [HST.out k hlt] at hf'
      have HN := Lib.hid (And.intro hf' (ho.trans (Only.set wr w.heap.size k (.int .u8 ((n / 2 ^ (8 * (7 - k))) % 256)))))
      clear hf hf' ho hm0 hmk
      go_wp2_with fail
      refine ⟨⟨k + 1, by omega, by go_num, HN.out.1, HN.out.2⟩, ?_⟩
      simp only [vInt]
      omega
    · obtain rfl : k = 8 := by omega
      have hcv := HALL.out wr w.heap.size hf
      have hbe := ho.below hb0 (by omega) (Nat.le_refl _)
      have HBE := Lib.hid hbe
      clear hf ho hbe hm0 hmk
      go_wp2_with fail
      go_ret
      exact ⟨rfl, HBE.out⟩

def vI (v : Value) : Nat := match v with | .int _ q => q.toNat | _ => 0
set_option maxRecDepth 100000 in
set_option maxHeartbeats 1000000 in
theorem number_any (l : List UInt8) (hl : l.length ≤ 1000000000) (w : World) :
    Calls Tryz.prog 92 #[.string (S l)] w fun e w' => e = .returned (.int .i64 (Grd.numI l)) ∧ Below w.heap.size w w' := by
  have hle : (l.length : Int) ≤ 1000000000 := by omega
  have hconv := fun W (m : List UInt8) => conv_bytes (P := Tryz.prog) Tryz.underlying9 Tryz.underlying62 Tryz.underlying5 W m
  have hcell : ∀ (m : List UInt8) (k : Nat) (h : k < m.length), (bworld w 5 m).cell? ⟨w.heap.size, k, none⟩ = some (.int .u8 ((m[k]'h).toNat : Int)) := fun m k h => by
    rw [bworld_cell w 5 m k h]
    simp [bcells, List.getElem?_eq_getElem h]
  have hbel := fun m => bworld_below w 5 m
  have hst : ∀ (m : List UInt8) (k : Nat) (h : k < m.length), bits .or .i64 (wrap64 (Grd.W (Grd.num8 (m.take k)) * 256)) (wrap64 ((m[k]'h).toNat : Int)) = Grd.W (Grd.num8 (m.take (k + 1))) := fun m k h => by
    have e : wrap64 ((m[k]'h).toNat : Int) = ((m[k]'h).toNat : Int) := by
      have := (m[k]'h).toNat_lt
      unfold wrap64
      omega
    rw [e, List.take_succ_eq_append_getElem h, ← Grd.W_step, IntKind.wrap_i64]
    first | rfl | (congr 1; unfold wrap64; rfl)
  have hF : ∀ m : List UInt8, Grd.W (Grd.num8 (m.take m.length)) = Grd.numI m := fun m => by rw [List.take_length]; rfl
  have HC : Hid _ := hcell
  have HB : Hid _ := hbel
  have HS : Hid _ := hst
  clear hcell hbel hst
  by_cases h8 : l.length ≤ 8
  · have h1 : ¬ (8 : Int) < (l.length : Int) := by omega
    have HF := Lib.hid (hF l); clear hF
    generalize Grd.numI l = res at HF ⊢
    go_enter Tryz.func92, Tryz.ntmps92
    go_wp2_with fail
    generalize hn : l.length = n at *
    clear hconv h8 h1
    go_loopw [3, 14] (fun v3 v14 wr => ∃ k : Nat, k ≤ n ∧ v3 = .int .i64 (Grd.W (Grd.num8 (l.take k))) ∧ v14 = .int .i64 (k : Int) ∧ wr = bworld w 5 l) (fun _ v14 _ => n - vI v14)
    case atStart => exact ⟨0, Nat.zero_le _, rfl, rfl, rfl⟩
    case round =>
      obtain ⟨k, hk, rfl, rfl, rfl⟩ := hrel
      have hk0 : (0 : Int) ≤ (k : Int) := by omega
      by_cases hlt : k < n
      · have hki : (k : Int) < (n : Int) := by omega
        have hc := HC.out l k (by omega)
        have hs := HS.out l k (by omega)
        generalize l[k]'(by omega) = c at hc hs
        obtain ⟨A, hA⟩ : ∃ A, Grd.W (Grd.num8 (l.take k)) = A := ⟨_, rfl⟩
        rw [hA] at hs ⊢
        have HN := Lib.hid hs
        clear hs hA
        go_wp2_with fail
        refine ⟨⟨k + 1, by omega, ?_, by go_num, by trivial⟩, ?_⟩
        · rw [HN.out]
        · simp only [vI]
          omega
      · obtain rfl : k = n := by omega
        rw [HF.out]
        go_wp2_with fail
        go_ret
        exact ⟨rfl, HB.out l⟩
  · have h1 : (8 : Int) < (l.length : Int) := by omega
    have hL : Grd.numI (l.drop (l.length - 8)) = Grd.numI l := (Grd.numI_last l (l.length - 8) (by omega)).resolve_right (by omega)
    have hfm := hF (l.drop (l.length - 8))
    rw [hL] at hfm
    have hmn : (l.drop (l.length - 8)).length = 8 := by rw [List.length_drop]; omega
    rw [hmn] at hfm
    have h88 : l.length - (l.length - 8) = 8 := by omega
    have HM := Lib.hid hmn
    have HF := Lib.hid hfm
    have H88 := Lib.hid h88
    clear hF hfm hmn hL h88
    generalize Grd.numI l = res at HF ⊢
    go_enter Tryz.func92, Tryz.ntmps92
    go_wp2_with fail
    rw [H88.out]
    generalize List.drop (l.length - 8) l = m at *
    obtain ⟨n, hn⟩ : ∃ n, n = 8 := ⟨_, rfl⟩
    have hmn := HM.out
    rw [← hn] at hmn HF ⊢
    clear hconv h8 h1 H88 HM hle
    go_loopw [3, 14] (fun v3 v14 wr => ∃ k : Nat, k ≤ n ∧ v3 = .int .i64 (Grd.W (Grd.num8 (m.take k))) ∧ v14 = .int .i64 (k : Int) ∧ wr = bworld w 5 m) (fun _ v14 _ => n - vI v14)
    case atStart => exact ⟨0, Nat.zero_le _, rfl, rfl, rfl⟩
    case round =>
      obtain ⟨k, hk, rfl, rfl, rfl⟩ := hrel
      have hk0 : (0 : Int) ≤ (k : Int) := by omega
      by_cases hlt : k < n
      · have hki : (k : Int) < (n : Int) := by omega
        have hc := HC.out m k (by omega)
        have hs := HS.out m k (by omega)
        generalize m[k]'(by omega) = c at hc hs
        obtain ⟨A, hA⟩ : ∃ A, Grd.W (Grd.num8 (m.take k)) = A := ⟨_, rfl⟩
        rw [hA] at hs ⊢
        have HN := Lib.hid hs
        clear hs hA
        go_wp2_with fail
        refine ⟨⟨k + 1, by omega, ?_, by go_num, by trivial⟩, ?_⟩
        · rw [HN.out]
        · simp only [vI]
          omega
      · obtain rfl : k = n := by omega
        rw [HF.out]
        go_wp2_with fail
        go_ret
        exact ⟨rfl, HB.out m⟩

end Go.Proofs.YthadcmbbdggneaaGreatDoor
