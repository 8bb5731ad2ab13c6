import Derived.Test.YtihhgingdgepcaaWrite
namespace Go.Proofs.Ytihhgingdgepcaa
open Go.RowKit
/-- The texts so far. -/
def sofar (l : List (List UInt8)) (k : Nat) (st : Wt.St) : Wt.St := (l.take k).foldl (fun st s => Wt.text s st) st
theorem sofar_zero (l : List (List UInt8)) (st : Wt.St) : sofar l 0 st = st := by simp [sofar]
theorem sofar_all (l : List (List UInt8)) (st : Wt.St) : sofar l l.length st = l.foldl (fun st s => Wt.text s st) st := by simp [sofar]
theorem sofar_succ (l : List (List UInt8)) (k : Nat) (h : k < l.length) (st : Wt.St) : sofar l (k + 1) st = Wt.text l[k] (sofar l k st) := by
  unfold sofar
  rw [List.take_succ_eq_append_getElem h, List.foldl_append]; rfl

set_option maxRecDepth 100000 in
set_option maxHeartbeats 1000000 in
theorem wtexts_wr (l : List (List UInt8)) (b off cap : Nat) (g : Nat) (st : Wt.St) (w : World) (h : Wr w g st) (hrow : SRow w b off l) (hbg : b ≠ g) (hcap : (Wt.flat st).length + (l.map fun s => s.length + 8).sum ≤ 1000000000000000) (hll : l.length ≤ 140737488355328) (hsl : ∀ s ∈ l, s.length ≤ 140737488355328) :
    Calls Try.prog 41 #[.pointer (some ⟨g, 0, none⟩), .slice (some ⟨b, off, none⟩) l.length cap] w fun r w' => r = .returned (.tuple #[]) ∧ Wr w' g (Wt.texts l st) ∧ Only w w' g := by
  have hN := wnum_wr l.length g st w h (by omega)
  have hT : Wt.texts l st = l.foldl (fun st s => Wt.text s st) (Wt.num l.length st) := rfl
  have hf0 := Wt.flat_num l.length st
  have hl8 := M.encL_len l.length
  generalize hst1 : Wt.num l.length st = st1 at hN hT hf0
  have hf1 : (Wt.flat st1).length ≤ (Wt.flat st).length + 8 := by rw [hf0, List.length_append]; omega
  have HN := Lib.hid hN; clear hN
  have HT := Lib.hid hT; clear hT hf0 hst1
  have HCAP := Lib.hid (And.intro hcap hf1); clear hcap hf1
  have HSL := Lib.hid hsl; clear hsl
  have HROW := Lib.hid hrow; clear hrow
  go_enter Try.func41, Try.ntmps41
  go_wp2_with fail
  refine (HN.out).mono ?_
  rintro r w1 ⟨rfl, h1, ho1⟩
  go_wp2_with fail
  go_loopw [11] (fun v11 wr => ∃ k : Nat, k ≤ l.length ∧ v11 = .int .i64 k ∧ Wr wr g (sofar l k st1) ∧ Only w wr g) (fun v11 _ => l.length - (intOf v11).toNat)
  case atStart =>
    have h0 : Wr w1 g (sofar l 0 st1) := (sofar_zero l st1).symm ▸ h1
    exact ⟨0, Nat.zero_le _, rfl, h0, ho1⟩
  case round =>
    obtain ⟨k, hk, rfl, hwk, hok⟩ := hrel
    by_cases hlt : k < l.length
    · have hcell := HROW.out.only hok hbg k hlt
      have hfk : (Wt.flat (sofar l k st1)).length ≤ _ := flat_take_le l k st1
      have hsk := HSL.out l[k] (List.getElem_mem hlt)
      have hk0 : (0 : Int) ≤ (k : Int) := by omega
      have hki : (k : Int) < (l.length : Int) := by omega
      have hnx := sofar_succ l k hlt st1
      have hX := wtext_wr l[k] g _ wr hwk (by have := HCAP.out.1; have := HCAP.out.2; omega)
      rw [← hnx] at hX
      have HX := Lib.hid hX; clear hX hnx hfk
      clear hsk
      generalize l[k] = s at hcell HX
      go_wp2_with fail
      refine (HX.out).mono ?_
      rintro r w2 ⟨rfl, h2, ho2⟩
      go_wp2_with fail
      go_roundw
      case rel => exact ⟨k + 1, by omega, by go_num, h2, hok.trans ho2⟩
      case measure => simp [intOf]; omega
    · have hke : k = l.length := by omega
      subst hke
      rw [sofar_all] at hwk
      go_wp2_with fail
      go_returns
      rw [HT.out]
      exact ⟨rfl, hwk, hok⟩
end Go.Proofs.Ytihhgingdgepcaa
