/-
  The contract of the statements' longest.
-/
import Derived.Test.YtclocjfnkaaenaaBackSpec
import Derived.Test.YtclocjfnkaaenaaProg
namespace Go.Proofs.Ytclocjfnkaaenaa
open Go.RowKit
set_option linter.unusedVariables false

set_option maxHeartbeats 1000000 in
theorem longest_any (l : List (List UInt8)) (A : Option Addr) (cap B : Nat) (w : World) (hsl : SSl w B A l) (hl : (l.map fun s => s.length + 1).sum ≤ 1048576) :
    Calls Try.prog 15 #[.slice A l.length cap] w fun e w' => e = .returned (.int .i64 (longest l : Nat)) ∧ w = w' := by
  by_cases hnil : l = []
  · subst hnil
    go_enter Try.func15, Try.ntmps15
    go_wp2_with fail
    refine wp_loop_rounds 1 ?_
    rw [rounds_succ]
    go_wp2_with fail
    go_ret
    exact ⟨rfl, rfl⟩
  · obtain ⟨b, off, rfl, hb, hrow⟩ := hsl hnil
    have hle := Item.le_sum l
    have hll := Item.length_le_sum l
    have hlb : l.length ≤ 1048576 := by omega
    have hmx : ∀ k, longest (l.take k) ≤ 1048576 := fun k => longest_le _ _ (fun s hs => Nat.le_trans (hle s (List.mem_of_mem_take hs)) hl)
    have HLE := Lib.hid (fun s hs => Nat.le_trans (hle s hs) hl); clear hle hl hll
    have HMX := Lib.hid hmx; clear hmx
    have HROW := Lib.hid hrow; clear hrow
    clear hsl
    have h0 : longest (l.take 0) = 0 := rfl
    go_enter Try.func15, Try.ntmps15
    go_wp2_with fail
    go_loop [3, 4] (fun v3 v4 => ∃ k : Nat, k ≤ l.length ∧ v4 = .int .i64 k ∧ v3 = .int .i64 (longest (l.take k) : Nat)) (fun _ v4 => l.length - (intOf v4).toNat)
    case atStart => exact ⟨0, Nat.zero_le _, rfl, rfl⟩
    case round =>
      obtain ⟨k, hk, rfl, rfl⟩ := hrel
      by_cases hlt : k < l.length
      · have hcell := HROW.out k hlt
        have hs := HLE.out (l[k]'hlt) (List.getElem_mem hlt)
        have hm := HMX.out k
        have hsn := longest_snoc (l.take k) (l[k]'hlt)
        rw [← List.take_succ_eq_append_getElem hlt] at hsn
        have hk0 : (0 : Int) ≤ (k : Int) := by omega
        have hki : (k : Int) < (l.length : Int) := by omega
        generalize (l[k]'hlt) = t at hcell hs hsn
        generalize longest (l.take k) = n at hm hsn ⊢
        by_cases hc : n < t.length
        · rw [if_pos hc] at hsn
          have HSN := Lib.hid hsn; clear hsn
          have hc' : (n : Int) < (t.length : Int) := by omega
          go_wp2_with fail
          go_round
          case rel => exact ⟨k + 1, by omega, by go_num, by rw [HSN.out]⟩
          case measure => simp [intOf]; omega
        · rw [if_neg hc] at hsn
          have HSN := Lib.hid hsn; clear hsn
          have hc' : ¬ (n : Int) < (t.length : Int) := by omega
          go_wp2_with fail
          go_round
          case rel => exact ⟨k + 1, by omega, by go_num, by rw [HSN.out]⟩
          case measure => simp [intOf]; omega
      · have hke : k = l.length := by omega
        have hki : ¬ (k : Int) < (l.length : Int) := by omega
        rw [hke, List.take_length]
        clear hke hlt hk
        go_wp2_with fail
        go_ret
        exact ⟨rfl, rfl⟩
end Go.Proofs.Ytclocjfnkaaenaa
