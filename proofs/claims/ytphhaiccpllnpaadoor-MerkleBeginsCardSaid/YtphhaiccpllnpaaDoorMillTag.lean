/-
  The contracts of mill's tag and Tag.
-/
import Derived.Test.YtphhaiccpllnpaaDoorMillReady
import Derived.Deep.QuietTactic
import Derived.Deep.RegionHeld3
namespace Go.Proofs.YtphhaiccpllnpaaDoor
open Go.RowKit
set_option linter.unusedVariables false

/-- The tag by a key made ready. -/
def Mill.tagOf (l : List Mill.En) (kh pa pb s : List UInt8) : List UInt8 := (if Mill.keyed l then Mill.ask l (true, kh, s) else none).getD (Sha.sum (pb ++ Sha.sum (pa ++ s)))
theorem Mill.tagOf_ready (l : List Mill.En) (k s : List UInt8) : Mill.tagOf l (Mill.kh l k) (Mill.pad (Mill.key64 k) 0x36) (Mill.pad (Mill.key64 k) 0x5c) s = Mill.tag l k s := by
  unfold Mill.tagOf Mill.tag Mill.kh Mill.hmac
  cases h : Mill.keyed l with
  | true => rfl
  | false =>
    simp only [Bool.false_eq_true, if_false]
    rw [Mill.ask_untagged l h]

theorem Asks.look1 {w : World} {tv : Option Nat} {l : List Mill.En} (h : Asks w tv l) (i : Mill.In) (h1 : i.2.1.length ≤ maxLen) (h2 : i.2.2.length ≤ maxLen) (W : World) (hW : ∀ b, tv = some b → W.heap[b]? = w.heap[b]?) :
    (Instr.lookup 62 (.map tv) (inVal i) true).run Tryd.prog W = .ok (.tuple #[.agg #[.string (S ((Mill.ask l i).getD []))], .bool (Mill.ask l i).isSome]) W :=
  (h.keep hW).look i h1 h2

theorem pad_length (l : List Mill.En) (k : List UInt8) : (Mill.kh l k).length ≤ 64 ∧ (Mill.pad (Mill.key64 k) 0x36).length = 64 ∧ (Mill.pad (Mill.key64 k) 0x5c).length = 64 := by
  refine ⟨?_, Mill.pad_len _ _ (Mill.key64_len k), Mill.pad_len _ _ (Mill.key64_len k)⟩
  unfold Mill.kh
  split
  · rw [Sha.sum_len]; omega
  · exact Nat.zero_le _

end Go.Proofs.YtphhaiccpllnpaaDoor
