/-
  The contracts of value's readWord and Read.
-/
import Derived.Test.YtfppobnfajkmmaaValH
import Derived.Test.YtfppobnfajkmmaaReadMore
namespace Go.Proofs.Ytfppobnfajkmmaa
open Go.RowKit
set_option linter.unusedVariables false

/-- Bytes as a word, the highest first. -/
def wordOf (l : List UInt8) : Nat := l.foldl (fun n c => (n * 256 + c.toNat) % 18446744073709551616) 0
theorem wordOf_snoc (l : List UInt8) (c : UInt8) : wordOf (l ++ [c]) = (wordOf l * 256 + c.toNat) % 18446744073709551616 := by
  simp [wordOf]
theorem wordOf_lt (l : List UInt8) : wordOf l < 18446744073709551616 := by
  rcases List.eq_nil_or_concat l with rfl | ⟨l', c, rfl⟩
  · simp [wordOf]
  · rw [List.concat_eq_append, wordOf_snoc]; exact Nat.mod_lt _ (by decide)
theorem wordOf_take (l : List UInt8) (k : Nat) (h : k < l.length) : wordOf (l.take (k + 1)) = (wordOf (l.take k) * 256 + l[k].toNat) % 18446744073709551616 := by
  rw [List.take_succ_eq_append_getElem h, wordOf_snoc]

theorem or_word (n c : Nat) (hn : n < 18446744073709551616) (hc : c < 256) : bits .or .u64 ((n : Int) * 256 % 18446744073709551616) (c : Int) = (((n * 256 + c) % 18446744073709551616 : Nat) : Int) := by
  have e1 : (BitVec.ofInt 64 ((n : Int) * 256 % 18446744073709551616)).toNat = n * 256 % 2 ^ 64 := by
    rw [show (n : Int) * 256 % 18446744073709551616 = ((n * 256 % 2 ^ 64 : Nat) : Int) by omega, BitVec.ofInt_natCast, BitVec.toNat_ofNat]; exact Nat.mod_mod _ _
  have e2 : (BitVec.ofInt 64 (c : Int)).toNat = c := by
    rw [BitVec.ofInt_natCast, BitVec.toNat_ofNat]; exact Nat.mod_eq_of_lt (by omega)
  show IntKind.u64.wrap ((BitVec.ofInt 64 ((n : Int) * 256 % 18446744073709551616) ||| BitVec.ofInt 64 (c : Int)).toNat : Int) = _
  rw [BitVec.toNat_or, e1, e2]
  have e3 : n * 256 % 2 ^ 64 = 2 ^ 8 * (n % 2 ^ 56) := by omega
  have e4 : n * 256 % 2 ^ 64 ||| c = n * 256 % 2 ^ 64 + c := by
    rw [e3, Nat.two_pow_add_eq_or_of_lt (i := 8) (b := c) (by simpa using hc)]
  rw [e4]
  show ((n * 256 % 2 ^ 64 + c : Nat) : Int) % 18446744073709551616 = _
  omega

set_option maxHeartbeats 1000000 in
theorem readWord_any (g b : Nat) (st : R.St) (w : World) (h : Rd w g b st) (hcap : st.1.length ≤ 4611686018427387904) :
    Calls Try.prog 60 #[.pointer (some ⟨g, 0, none⟩)] w fun r w' => r = .returned (.int .u64 (wordOf (R.next 8 st).1 : Nat)) ∧ Rd w' g b (R.next 8 st).2 ∧ Only w w' g := by
  have hN := raw_rd 8 g b st w h hcap
  have hl8 := R.next_len 8 st
  generalize R.next 8 st = x at hN hl8 ⊢
  obtain ⟨l, st1⟩ := x
  replace hl8 : l.length ≤ 8 := by simp only [] at hl8; omega
  have HN := Lib.hid hN; clear hN
  go_enter Try.func60, Try.ntmps60
  go_wp2_with fail
  refine (HN.out).mono ?_
  rintro r w1 ⟨rfl, hr, ho⟩
  go_wp2_with fail
  go_loopw [4, 10] (fun v4 v10 wr => ∃ k : Nat, k ≤ l.length ∧ v10 = .int .i64 (k : Int) ∧ v4 = .int .u64 (wordOf (l.take k) : Nat) ∧ wr = w1) (fun _ v10 _ => l.length - (intOf v10).toNat)
  case atStart => exact ⟨0, Nat.zero_le _, rfl, by simp [wordOf], rfl⟩
  case round =>
    obtain ⟨k, hk, rfl, rfl, rfl⟩ := hrel
    by_cases hlt : k < l.length
    · have hix := fun W => run_index_S (P := Try.prog) W l .i64 k Try.underlying9 hlt
      have hki : (k : Int) < (l.length : Int) := by omega
      have hor := or_word (wordOf (l.take k)) (l[k]'hlt).toNat (wordOf_lt _) (l[k]'hlt).toNat_lt
      rw [← wordOf_take l k hlt] at hor
      have hlt1 := wordOf_lt (l.take k)
      generalize hwd : wordOf (l.take k) = n at hor hlt1 ⊢
      generalize hwe : wordOf (l.take (k + 1)) = n' at hor
      generalize hce : (l[k]'hlt).toNat = c at hor hix
      have hc : c < 256 := by rw [← hce]; exact (l[k]'hlt).toNat_lt
      have hor' : bits .or .u64 (IntKind.u64.wrap ((n : Int) * 256)) (c : Int) = (n' : Int) := hor
      have HWE := Lib.hid (And.intro hwe hor'); clear hwe hwd hce hor'
      go_wp2_with fail
      refine ⟨⟨k + 1, by omega, by go_num, by rw [HWE.out.1, HWE.out.2], trivial⟩, ?_⟩
      simp only [intOf]
      omega
    · obtain rfl : k = l.length := by omega
      rw [List.take_length]
      go_wp2_with fail
      go_ret
      exact ⟨rfl, hr, ho⟩

/-- What Read answers. -/
def Val.read (l : List UInt8) : Val × R.St :=
  let n := R.num 4 (l, 0)
  if n.1 = 1 then (⟨1, (R.flag n.2).1, 0, 0, []⟩, (R.flag n.2).2)
  else if n.1 = 2 then (⟨2, false, wrap64 (wordOf (R.next 8 n.2).1 : Nat), 0, []⟩, (R.next 8 n.2).2)
  else if n.1 = 3 then (⟨3, false, 0, wordOf (R.next 8 n.2).1, []⟩, (R.next 8 n.2).2)
  else if n.1 = 4 then (⟨4, false, 0, 0, (R.text 200 n.2).1⟩, (R.text 200 n.2).2)
  else (⟨n.1, false, 0, 0, []⟩, n.2)
def Val.readE (l : List UInt8) : Int := (R.fin (Val.read l).2).2
def zeroV : Val := ⟨0, false, 0, 0, []⟩
def Val.readV (l : List UInt8) : Val × Int :=
  if Val.readE l ≠ 0 then (zeroV, Val.readE l) else if (Val.read l).1.right = true then ((Val.read l).1, 0) else (zeroV, 4)

theorem R.num_le (m : Int) (hm : 0 ≤ m) (st : R.St) : 0 ≤ (R.num m st).1 ∧ (R.num m st).1 ≤ m := by
  show 0 ≤ (if (if m < ((R.fold _ : Nat) : Int) then R.fail 3 _ else _ : R.St).2 = 0 then ((R.fold _ : Nat) : Int) else 0) ∧ (if (if m < ((R.fold _ : Nat) : Int) then R.fail 3 _ else _ : R.St).2 = 0 then ((R.fold _ : Nat) : Int) else 0) ≤ m
  generalize R.fold _ = n
  generalize R.lead _ _ = st3
  by_cases h : m < (n : Int)
  · rw [if_pos h]
    have hne : ¬ (R.fail 3 st3).2 = 0 := by
      show ¬ (if st3.2 = 0 then (3 : Int) else st3.2) = 0
      split <;> omega
    rw [if_neg hne]
    omega
  · rw [if_neg h]
    split <;> omega

theorem Val.read_ok (l : List UInt8) : (Val.read l).1.ok := by
  have h1 := R.num_le 4 (by decide) (l, 0)
  have h2 := wordOf_lt (R.next 8 (R.num 4 (l, 0)).2).1
  have h3 : ∀ n : Int, -9223372036854775808 ≤ wrap64 n ∧ wrap64 n < 9223372036854775808 := fun n => by
    unfold wrap64; omega
  have h4 := h3 (wordOf (R.next 8 (R.num 4 (l, 0)).2).1 : Nat)
  unfold Val.read
  simp only []
  split
  · exact ⟨by simp, by simp, by simp⟩
  · split
    · exact ⟨by simp, h4, by simp⟩
    · split
      · exact ⟨h2, by simp, by simp⟩
      · split
        · exact ⟨by simp, by simp, by simp⟩
        · exact ⟨by simp, by simp, by simp; omega⟩
end Go.Proofs.Ytfppobnfajkmmaa
