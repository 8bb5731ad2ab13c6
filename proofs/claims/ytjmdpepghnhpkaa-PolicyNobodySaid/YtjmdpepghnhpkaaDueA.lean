/-
  The fifteenth layer's statements' own ahead, barred.
-/
import Derived.Test.YtjmdpepghnhpkaaDueMem
import Derived.Test.YtjmdpepghnhpkaaProg
import Derived.Deep.QuietTactic
import Derived.Deep.LoopGhost
namespace Go.Proofs.Ytjmdpepghnhpkaa
open Go.RowKit
set_option linter.unusedVariables false

theorem duTwo (w : World) (o p : Obj) : Below w.heap.size w ((w.alloc o).alloc p) := ((Below.refl _ w).alloc (Nat.le_refl _) o).alloc (by rw [asize]; omega) p
set_option maxRecDepth 100000 in
theorem dahead_any (a b : Du) (w : World) : Calls Try.prog 22 #[.agg #[.int .i64 a.seq, .int .i64 a.due], .agg #[.int .i64 b.seq, .int .i64 b.due]] w fun r w' => r = .returned (.bool (Du.lt a b)) ∧ Below w.heap.size w w' := by
  have hl : Du.lt a b = decide (a.due < b.due ∨ (a.due = b.due ∧ a.seq < b.seq)) := rfl
  generalize Du.lt a b = res at hl ⊢
  obtain ⟨s1, d1⟩ := a
  obtain ⟨s2, d2⟩ := b
  dsimp only at *
  have HL := Lib.hid hl
  clear hl
  by_cases c1 : d1 < d2
  · obtain rfl : res = true := by rw [HL.out]; exact decide_eq_true (Or.inl c1)
    clear HL
    go_enter Try.func22, Try.ntmps22
    go_wp2_with fail
    go_ret
    exact ⟨rfl, duTwo _ _ _⟩
  · by_cases c2 : d1 = d2
    · subst c2
      by_cases c3 : s1 < s2
      · obtain rfl : res = true := by rw [HL.out]; exact decide_eq_true (Or.inr ⟨rfl, c3⟩)
        clear HL
        go_enter Try.func22, Try.ntmps22
        go_wp2_with fail
        go_ret
        exact ⟨rfl, duTwo _ _ _⟩
      · obtain rfl : res = false := by rw [HL.out]; exact decide_eq_false (by omega)
        clear HL
        go_enter Try.func22, Try.ntmps22
        go_wp2_with fail
        go_ret
        exact ⟨rfl, duTwo _ _ _⟩
    · have c2b : (d1 == d2) = false := by rw [beq_eq_false_iff_ne]; exact c2
      obtain rfl : res = false := by rw [HL.out]; exact decide_eq_false (by omega)
      clear HL c2
      go_enter Try.func22, Try.ntmps22
      go_wp2_with fail
      go_ret
      exact ⟨rfl, duTwo _ _ _⟩
set_option maxRecDepth 100000 in
set_option maxHeartbeats 1000000 in
theorem dbarred_any {w : World} {L : List Int} {A : Option Addr} {cap : Nat} (hr : RowI w [] A L) (hl : L.length ≤ cap) (hc : cap ≤ 9223372036854775807) (seq : Int) :
    Calls Try.prog 19 #[.slice A L.length cap, .int .i64 seq] w fun r w' => r = .returned (.bool (decide (seq ∈ L))) ∧ w' = w := by
  have HR := Lib.hid hr
  have HYES : Hid (∀ k (h : k < L.length), L[k] = seq → decide (seq ∈ L) = true) := Lib.hid (fun k h e => decide_eq_true (by rw [← e]; exact List.getElem_mem h))
  have HNO : Hid (seq ∉ L → decide (seq ∈ L) = false) := Lib.hid (fun h => decide_eq_false h)
  generalize decide (seq ∈ L) = res at HYES HNO ⊢
  clear hr
  go_enter Try.func19, Try.ntmps19
  go_wp2_with fail
  go_loopg [5] L.length (fun n v5 wr => ∃ k : Nat, k + n = L.length ∧ v5 = .int .i64 (k : Int) ∧ Hid (seq ∉ L.take k) ∧ wr = w)
  case atStart => exact ⟨0, Nat.zero_add _, rfl, Lib.hid (by simp), rfl⟩
  case round =>
    obtain ⟨k, hkn, rfl, HU, rfl⟩ := hrel
    cases gk with
    | zero =>
      have hlt : ¬ (k : Int) < (L.length : Int) := by omega
      obtain rfl : res = false := HNO.out (by have := HU.out; rwa [List.take_of_length_le (by omega)] at this)
      clear HU HNO HYES hkn
      go_wp2_with fail
      go_ret
      exact ⟨rfl, rfl⟩
    | succ n =>
      have hlt : (k : Int) < (L.length : Int) := by omega
      have hk : k < L.length := by omega
      have hinc : IntKind.i64.wrap ((k : Int) + 1) = (k : Int) + 1 := by rw [IntKind.wrap_i64]; omega
      have hkc : (k : Int) < (cap : Int) := by omega
      have hk0 : (0 : Int) ≤ (k : Int) := by omega
      obtain ⟨b, off, hA, hck⟩ := RowI.get HR.out k hk
      subst hA
      have HT : Hid (L.take (k + 1) = L.take k ++ [L[k]'hk]) := Lib.hid (List.take_succ_eq_append_getElem hk)
      have HY := Lib.hid (HYES.out k hk)
      generalize L[k]'hk = x at hck HT HY
      have HN := Lib.hid hkn
      clear hkn
      by_cases hx : x = seq
      · obtain rfl : res = true := HY.out hx
        subst hx
        clear HNO HYES HU HY HT
        go_wp2_with fail
        go_ret
        exact ⟨rfl, rfl⟩
      · have hxb : (x == seq) = false := by rw [beq_eq_false_iff_ne]; exact hx
        have HU2 : Hid (seq ∉ L.take (k + 1)) := Lib.hid (by
          rw [HT.out]
          intro hm
          rcases List.mem_append.1 hm with hm | hm
          · exact HU.out hm
          · exact hx (List.mem_singleton.1 hm).symm)
        clear hx HY HU HT
        go_wp2_with fail
        go_roundg n
        case measure => omega
        case rel => exact ⟨k + 1, by have := HN.out; omega, by go_num, HU2, rfl⟩
end Go.Proofs.Ytjmdpepghnhpkaa
