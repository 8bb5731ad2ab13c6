/-
  Numbers: slices.Values feeds them.
-/
import Derived.Test.YtjmdpepghnhpkaaSeqC
import Derived.Test.YtjmdpepghnhpkaaProg
namespace Go.Proofs.Ytjmdpepghnhpkaa
open Go.RowKit Go.Shelf
set_option linter.unusedVariables false
attribute [local go_sem] Oper.semAt_some

set_option maxRecDepth 100000 in
set_option maxHeartbeats 2000000 in
theorem feedsI (F : Fence) (n : Nat) (hF : F.fn 45) (hro : F.round = none) (hn : 1 ≤ n) {w : World} {Bs N0 : Nat} {A : Option Addr} {cap : Nat} {L : List Int} (hc : w.cell? ⟨Bs, 0, none⟩ = some (.slice A L.length cap)) (hB : Bs < N0)
    (hr : ∀ k (hk : k < L.length), ∃ b off, A = some ⟨b, off, none⟩ ∧ b < N0 ∧ w.cell? ⟨b, off + k, none⟩ = some (.int .i64 L[k])) (hl : L.length ≤ 1000000) (hcap : L.length ≤ cap) :
    Feeds F n Try.prog 45 #[.pointer (some ⟨Bs, 0, none⟩)] (L.map (Value.int .i64)) N0 w := fun l J W hW hJB hJA hY h0 => by
  have hc' : W.cell? ⟨Bs, 0, none⟩ = some (.slice A L.length cap) := (hW.cell (p := ⟨Bs, 0, none⟩) hB).trans hc
  refine callsIn_of_wp Try.func45 rfl hF ?_ hro
  simp only [Try.ntmps45, List.size_toArray, List.length_cons, List.length_nil, Nat.reduceAdd, Nat.reduceSub, Array.replicate_succ, Array.replicate_zero, List.push_toArray, List.append_toArray, List.nil_append, List.cons_append]
  gi_wp2
  gi_loopw [7] (fun i wr => ∃ k : Nat, k ≤ L.length ∧ i = .int .i64 (k : Int) ∧ J k wr) (fun i _ => L.length - (intOf i).toNat)
  case atStart => exact ⟨0, Nat.zero_le _, rfl, h0⟩
  case round =>
    obtain ⟨k, hk, rfl, hJs⟩ := hrel
    by_cases hlt : k < L.length
    · obtain ⟨b, off, hA, hb, hx'⟩ := hr k hlt
      have hbw := hJB k wr hJs
      have hx := (hbw.cell (p := ⟨b, off + k, none⟩) hb).trans hx'
      obtain ⟨fn, tmps, assign, body, hy, hR⟩ := hY k (.int .i64 L[k]) wr (by simp [hlt]) hJs
      generalize L[k]'hlt = x at hx hy
      subst hA
      have hki : (k : Int) < (L.length : Int) := by omega
      have hkc : (k : Int) < (cap : Int) := by omega
      have hk0 : (0 : Int) ≤ (k : Int) := by omega
      have hinc : IntKind.i64.wrap ((k : Int) + 1) = (k : Int) + 1 := by rw [IntKind.wrap_i64]; omega
      gi_wp2
      refine hR.mono ?_
      rintro e W3 ⟨rfl, hJ3⟩
      gi_wp2
      go_roundw
      case rel => exact ⟨k + 1, by omega, by go_num, hJ3⟩
      case measure => simp [intOf]; omega
    · obtain rfl : k = L.length := by omega
      have hki : ¬ (L.length : Int) < (L.length : Int) := by omega
      gi_wp2
      go_end0
      exact ⟨⟨_, rfl⟩, hJs⟩
end Go.Proofs.Ytjmdpepghnhpkaa
