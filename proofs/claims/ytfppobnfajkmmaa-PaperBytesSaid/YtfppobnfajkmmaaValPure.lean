/-
  What was written of a value is read again, and nothing else: plain.
-/
import Derived.Test.YtfppobnfajkmmaaValI
import Derived.Test.YtfppobnfajkmmaaReadPure
namespace Go.Proofs.Ytfppobnfajkmmaa
open Go.RowKit
set_option linter.unusedVariables false

theorem wordOf_fold : ∀ (k : Nat) (l : List UInt8), l.length = k → k ≤ 8 → wordOf l = R.fold l := by
  intro k
  induction k with
  | zero => intro l h _; rw [List.eq_nil_of_length_eq_zero h]; rfl
  | succ k ih =>
    intro l h hk
    rcases List.eq_nil_or_concat l with rfl | ⟨l', c, rfl⟩
    · simp at h
    · rw [List.concat_eq_append] at h ⊢
      rw [List.length_append] at h
      have hl' : l'.length = k := by simpa using h
      rw [wordOf_snoc, R.fold_snoc, ih l' hl' (by omega)]
      have h1 := R.fold_lt k l' hl'
      have h2 : 256 ^ k ≤ 256 ^ 7 := Nat.pow_le_pow_right (by omega) (by omega)
      have h3 : (256 : Nat) ^ 7 = 72057594037927936 := by decide
      have := c.toNat_lt
      omega
theorem foldl_shift : ∀ (l : List UInt8) (a : Nat), l.foldl (fun n c => n * 256 + c.toNat) a = a * 256 ^ l.length + R.fold l := by
  intro l
  induction l with
  | nil => intro a; simp [R.fold]
  | cons c l ih =>
    intro a
    have e : R.fold (c :: l) = l.foldl (fun n c => n * 256 + c.toNat) (0 * 256 + c.toNat) := rfl
    rw [e, List.foldl_cons, ih, ih, List.length_cons, Nat.pow_succ]
    generalize 256 ^ l.length = p
    rw [Nat.zero_mul, Nat.zero_add, Nat.add_mul, Nat.mul_assoc, Nat.mul_comm 256 p, Nat.add_assoc]
theorem fold_cons (c : UInt8) (l : List UInt8) : R.fold (c :: l) = c.toNat * 256 ^ l.length + R.fold l := by
  have e : R.fold (c :: l) = l.foldl (fun n c => n * 256 + c.toNat) (0 * 256 + c.toNat) := rfl
  rw [e, foldl_shift, Nat.zero_mul, Nat.zero_add]
theorem fold_oct (n : Nat) : ∀ k, R.fold (oct k n) = n % 256 ^ k := by
  intro k
  induction k with
  | zero => simp [oct, R.fold]; omega
  | succ k ih =>
    rw [oct, fold_cons, ih, oct_len, Nat.mod_pow_succ]
    have : (UInt8.ofNat (n / 256 ^ k % 256)).toNat = n / 256 ^ k % 256 := by simp
    rw [this, Nat.mul_comm, Nat.add_comm]
theorem oct_add : ∀ (k a n : Nat), oct k (a * 256 ^ k + n) = oct k n := by
  intro k
  induction k with
  | zero => intro a n; rfl
  | succ k ih =>
    intro a n
    have e : a * 256 ^ (k + 1) + n = a * 256 * 256 ^ k + n := by rw [Nat.pow_succ, Nat.mul_assoc, Nat.mul_comm 256]
    rw [oct, oct, e, ih]
    have hp : 0 < 256 ^ k := Nat.pow_pos (by omega)
    have h1 : (a * 256 * 256 ^ k + n) / 256 ^ k = a * 256 + n / 256 ^ k := by
      rw [Nat.add_comm, Nat.add_mul_div_right _ _ hp, Nat.add_comm]
    rw [h1]
    congr 2
    omega
theorem oct_fold : ∀ (l : List UInt8), oct l.length (R.fold l) = l := by
  intro l
  induction l with
  | nil => rfl
  | cons c l ih =>
    rw [List.length_cons, oct, fold_cons, oct_add, ih]
    have hf := R.fold_lt _ l rfl
    have hp : 0 < 256 ^ l.length := Nat.pow_pos (by omega)
    have h1 : (c.toNat * 256 ^ l.length + R.fold l) / 256 ^ l.length = c.toNat := by
      rw [Nat.add_comm, Nat.add_mul_div_right _ _ hp, Nat.div_eq_of_lt hf, Nat.zero_add]
    rw [h1]
    have := c.toNat_lt
    congr 1
    rw [Nat.mod_eq_of_lt this]
    simp

theorem wordOf_oct (n : Nat) (hn : n < 18446744073709551616) : wordOf (oct 8 n) = n := by
  rw [wordOf_fold 8 _ (oct_len 8 n) (Nat.le_refl _), fold_oct]
  have : (256 : Nat) ^ 8 = 18446744073709551616 := by decide
  rw [this]; exact Nat.mod_eq_of_lt hn
theorem oct_wordOf (l : List UInt8) (h : l.length = 8) : oct 8 (wordOf l) = l := by
  rw [wordOf_fold 8 l h (Nat.le_refl _)]
  have := oct_fold l
  rwa [h] at this

theorem w64_wrap (n : Nat) (hn : n < 18446744073709551616) : w64 (wrap64 (n : Int)) = n := by
  unfold w64 wrap64; omega
theorem wrap_w64 (i : Int) (h0 : -9223372036854775808 ≤ i) (h1 : i < 9223372036854775808) : wrap64 ((w64 i : Nat) : Int) = i := by
  unfold w64 wrap64; omega

/-- A value that may be is read of its bytes. -/
theorem read_enc {x : Val} (hx : x.ok) (hr : x.right = true) : Val.readV x.enc = (x, 0) := by
  obtain ⟨h0, h4, ht, hc⟩ := Val.right_le hr
  have key : Val.read x.enc = (x, ([], 0)) := by
    have hn : R.num 4 (x.enc, 0) = (x.kind, (x.body, 0)) := R.num_fwd 4 x.kind x.body h0 (by omega) h4
    unfold Val.read
    simp only [hn]
    obtain ⟨k, f, i, b, t⟩ := x
    simp only [] at h0 h4 ht hc ⊢
    have hk : k = 0 ∨ k = 1 ∨ k = 2 ∨ k = 3 ∨ k = 4 := by omega
    rcases hk with rfl | rfl | rfl | rfl | rfl
    · have hc' : Val.mk 0 f i b t = ⟨0, false, 0, 0, []⟩ := hc
      rw [hc']; rfl
    · have hc' : Val.mk 1 f i b t = ⟨1, f, 0, 0, []⟩ := hc
      have hb : Val.body ⟨1, f, i, b, t⟩ = [if f then 1 else 0] := rfl
      rw [if_pos rfl, hb, hc']
      cases f <;> rfl
    · have hc' : Val.mk 2 f i b t = ⟨2, false, i, 0, []⟩ := hc
      have hb : Val.body ⟨2, f, i, b, t⟩ = oct 8 (w64 i) := rfl
      have hnx : R.next 8 (oct 8 (w64 i), 0) = (oct 8 (w64 i), ([], 0)) := by
        have := R.next_ok 8 (oct 8 (w64 i)) (by rw [oct_len]; omega)
        rw [List.take_of_length_le (by rw [oct_len]; omega), List.drop_eq_nil_of_le (by rw [oct_len]; omega)] at this
        exact this
      rw [if_neg (by decide), if_pos rfl, hb, hc', hnx]
      simp only []
      rw [wordOf_oct _ (by unfold w64; omega), wrap_w64 i hx.2.1.1 hx.2.1.2]
    · have hc' : Val.mk 3 f i b t = ⟨3, false, 0, b, []⟩ := by
        have h3 : Val.mk 3 f i b t = ⟨3, false, 0, Val.cbits b, []⟩ := hc
        have : b = Val.cbits b := by injection h3
        rw [h3, ← this]
      have hb : Val.body ⟨3, f, i, b, t⟩ = oct 8 b := rfl
      have hnx : R.next 8 (oct 8 b, 0) = (oct 8 b, ([], 0)) := by
        have := R.next_ok 8 (oct 8 b) (by rw [oct_len]; omega)
        rw [List.take_of_length_le (by rw [oct_len]; omega), List.drop_eq_nil_of_le (by rw [oct_len]; omega)] at this
        exact this
      rw [if_neg (by decide), if_neg (by decide), if_pos rfl, hb, hc', hnx]
      simp only []
      rw [wordOf_oct _ hx.1]
    · have hc' : Val.mk 4 f i b t = ⟨4, false, 0, 0, t⟩ := hc
      have hb : Val.body ⟨4, f, i, b, t⟩ = M.encL t.length ++ t := rfl
      have htx := R.text_fwd 200 t [] (by omega) (by omega)
      rw [List.append_nil] at htx
      rw [if_neg (by decide), if_neg (by decide), if_neg (by decide), if_pos rfl, hb, hc', htx]
  unfold Val.readV Val.readE
  rw [key]
  have hf : R.fin ([], 0) = ([], 0) := rfl
  rw [hf, if_neg (by simp), if_pos hr]

/-- What was read without an error has just these bytes. -/
theorem enc_read {l : List UInt8} (h : (Val.readV l).2 = 0) : (Val.readV l).1.right = true ∧ (Val.readV l).1.enc = l := by
  unfold Val.readV at h ⊢
  by_cases he : Val.readE l = 0
  · rw [if_neg (by simpa using he)] at h ⊢
    by_cases hr : (Val.read l).1.right = true
    · rw [if_pos hr]
      refine ⟨hr, ?_⟩
      simp only []
      obtain ⟨e0, r0⟩ := R.fin_ok _ he
      have hb := R.num_back 4 l
      have hle := R.num_le 4 (by decide) (l, 0)
      unfold Val.read at e0 r0 ⊢
      generalize R.num 4 (l, 0) = n at hb hle e0 r0 ⊢
      obtain ⟨k, ⟨l1, e1⟩⟩ := n
      simp only [] at hb hle e0 r0 ⊢
      have hk : k = 0 ∨ k = 1 ∨ k = 2 ∨ k = 3 ∨ k = 4 := by omega
      have enck : ∀ x : Val, x.kind = k → x.body = l1 → e1 = 0 → x.enc = l := fun x h1 h2 h3 => by
        show M.encL x.kind ++ x.body = l
        rw [h1, h2]; exact (hb h3).2.2.2.symm
      rcases hk with rfl | rfl | rfl | rfl | rfl
      · rw [if_neg (by decide), if_neg (by decide), if_neg (by decide), if_neg (by decide)] at e0 r0 ⊢
        exact enck ⟨0, false, 0, 0, []⟩ rfl (by rw [show l1 = [] from r0]; rfl) e0
      · rw [if_pos rfl] at e0 r0 ⊢
        have e10 : e1 = 0 := by
          refine Decidable.byContradiction fun hne => ?_
          have hn := R.next_bad 1 l1 e1 hne
          unfold R.flag at e0
          rw [hn] at e0
          exact hne e0
        subst e10
        refine enck _ rfl ?_ rfl
        unfold R.flag at e0 r0 ⊢
        cases l1 with
        | nil => exact absurd e0 (by decide)
        | cons c t =>
          have hn : R.next 1 (c :: t, 0) = ([c], (t, 0)) := by
            have := R.next_ok 1 (c :: t) (by simp)
            simpa using this
          rw [hn] at e0 r0 ⊢
          simp only [] at e0 r0 ⊢
          by_cases hc : 1 < c.toNat
          · rw [if_pos hc] at e0
            exact absurd e0 (by show ¬ (4 : Int) = 0; omega)
          · rw [if_neg hc] at r0
            simp only [] at r0
            subst r0
            show [if (c.toNat == 1) then 1 else 0] = [c]
            have h01 : c.toNat = 0 ∨ c.toNat = 1 := by omega
            rcases h01 with h | h
            · rw [h]
              have : c = 0 := UInt8.toNat_inj.1 (by simpa using h)
              rw [this]; rfl
            · rw [h]
              have : c = 1 := UInt8.toNat_inj.1 (by simpa using h)
              rw [this]; rfl
      · rw [if_neg (by decide), if_pos rfl] at e0 r0 ⊢
        have e10 : e1 = 0 := by
          refine Decidable.byContradiction fun hne => ?_
          rw [R.next_bad 8 l1 e1 hne] at e0
          exact hne e0
        subst e10
        by_cases hs : l1.length < 8
        · have := R.next_short 8 l1 hs
          rw [show ((8 : Nat) : Int) = 8 from rfl] at this
          rw [this] at e0
          exact absurd e0 (by show ¬ (2 : Int) = 0; omega)
        · have hn := R.next_ok 8 l1 (by omega)
          rw [show ((8 : Nat) : Int) = 8 from rfl] at hn
          rw [hn] at r0 ⊢
          simp only [] at r0 ⊢
          have hl8 : l1.length = 8 := by
            have := congrArg List.length r0
            rw [List.length_drop, List.length_nil] at this
            omega
          rw [List.take_of_length_le (by omega)]
          refine enck _ rfl ?_ rfl
          show oct 8 (w64 (wrap64 _)) = l1
          rw [w64_wrap _ (wordOf_lt _), oct_wordOf l1 hl8]
      · rw [if_neg (by decide), if_neg (by decide), if_pos rfl] at e0 r0 ⊢
        have e10 : e1 = 0 := by
          refine Decidable.byContradiction fun hne => ?_
          rw [R.next_bad 8 l1 e1 hne] at e0
          exact hne e0
        subst e10
        by_cases hs : l1.length < 8
        · have := R.next_short 8 l1 hs
          rw [show ((8 : Nat) : Int) = 8 from rfl] at this
          rw [this] at e0
          exact absurd e0 (by show ¬ (2 : Int) = 0; omega)
        · have hn := R.next_ok 8 l1 (by omega)
          rw [show ((8 : Nat) : Int) = 8 from rfl] at hn
          rw [hn] at r0 ⊢
          simp only [] at r0 ⊢
          have hl8 : l1.length = 8 := by
            have := congrArg List.length r0
            rw [List.length_drop, List.length_nil] at this
            omega
          rw [List.take_of_length_le (by omega)]
          refine enck _ rfl ?_ rfl
          show oct 8 (wordOf l1) = l1
          rw [oct_wordOf l1 hl8]
      · rw [if_neg (by decide), if_neg (by decide), if_neg (by decide), if_pos rfl] at e0 r0 ⊢
        have e10 : e1 = 0 := by
          refine Decidable.byContradiction fun hne => ?_
          unfold R.text at e0
          have hnb : ∀ n : Int, R.next n (l1, e1) = ([], (l1, e1)) := fun n => R.next_bad n l1 e1 hne
          have hd := R.num_bad 200 0 (l1, e1) (l1, e1) hne (R.digits_bad l1 e1 hne)
          rw [hd] at e0
          simp only [] at e0
          rw [hnb] at e0
          exact hne e0
        subst e10
        have htb := (R.text_back 200 l1 e0).1
        rw [r0, List.append_nil] at htb
        exact enck _ rfl htb.symm rfl
    · rw [if_neg hr] at h
      exact absurd h (by decide)
  · rw [if_pos (by simpa using he)] at h
    exact absurd h he
theorem read_zero {l : List UInt8} (h : (Val.readV l).2 ≠ 0) : (Val.readV l).1 = zeroV := by
  unfold Val.readV at h ⊢
  by_cases he : Val.readE l = 0
  · rw [if_neg (by simpa using he)] at h ⊢
    by_cases hr : (Val.read l).1.right = true
    · rw [if_pos hr] at h; exact absurd rfl h
    · rw [if_neg hr]
  · rw [if_pos (by simpa using he)]
end Go.Proofs.Ytfppobnfajkmmaa
