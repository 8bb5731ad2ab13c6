/-
  A query with one term more, plain. No program stands here.
-/
import Derived.Test.YtfcmkbeilpclmaaFndSpec
namespace Go.Proofs.Ytfcmkbeilpclmaa
set_option linter.unusedVariables false
namespace Fnd

theorem found_len (q : Qry) (L : List (List Fld)) (k : Nat) : (found q L k).length ≤ k := by
  unfold found
  have := List.length_filter_le (all q L) (List.range k)
  rw [List.length_range] at this
  exact this
theorem run_plain {q : Qry} {L : List (List Fld)} (h : q.nm = []) (hm : (L.length : Int) ≤ q.most) : run q L = found q L L.length := by
  unfold run
  rw [srt_none (fun i j => by unfold order; rw [if_pos h]), List.take_of_length_le (by have := found_len q L L.length; omega)]
theorem run_len (q : Qry) (L : List (List Fld)) : (run q L).length ≤ L.length := by
  unfold run
  have h2 := (srt_perm (order q L) (found q L L.length)).length_eq
  have h3 := found_len q L L.length
  rw [List.length_take]
  omega
/-- A term ahead of the others: of what the others find, what it holds for. -/
theorem found_cons (t : Trm) (T : List Trm) (n : List UInt8) (d : Bool) (m : Int) (L : List (List Fld)) (k : Nat) :
    found ⟨t :: T, n, d, m⟩ L k = (found ⟨T, n, d, m⟩ L k).filter fun i => holds t (L.getD i []) := by
  unfold found
  rw [List.filter_filter]
  congr 1
theorem holds_field {t : Trm} {P : List Fld} (h : holds t P = true) : (field P t.name).isSome = true := by
  unfold holds at h
  cases hf : field P t.name with
  | none => rw [hf] at h; cases h
  | some v => rfl
theorem holds_flip (t : Trm) (P : List Fld) : holds { t with neg := !t.neg } P = ((field P t.name).isSome && !holds t P) := holds_not t t.neg P
theorem more_yes (t : Trm) (a b : Val) (T : List Trm) (n : List UInt8) (d : Bool) (m : Int) (L : List (List Fld)) (k : Nat) :
    found ⟨t :: T, n, d, m⟩ L k = (found ⟨⟨t.name, a, b, false, false, false⟩ :: T, n, d, m⟩ L k).filter fun i => holds t (L.getD i []) := by
  rw [found_cons, found_cons ⟨t.name, a, b, false, false, false⟩, List.filter_filter]
  refine List.filter_congr fun i _ => ?_
  rw [holds_there]
  cases h : holds t (L.getD i []) with
  | false => rfl
  | true => rw [holds_field h]; rfl
theorem more_no (t : Trm) (a b : Val) (T : List Trm) (n : List UInt8) (d : Bool) (m : Int) (L : List (List Fld)) (k : Nat) :
    found ⟨{ t with neg := !t.neg } :: T, n, d, m⟩ L k = (found ⟨⟨t.name, a, b, false, false, false⟩ :: T, n, d, m⟩ L k).filter fun i => !holds t (L.getD i []) := by
  rw [found_cons, found_cons ⟨t.name, a, b, false, false, false⟩, List.filter_filter]
  refine List.filter_congr fun i _ => ?_
  rw [holds_there, holds_flip, Bool.and_comm]
/-- The errors of a query with a term ahead of the others. -/
theorem termsE_cons (t : Trm) (T : List Trm) : termsE (t :: T) = if termE t = 0 then termsE T else termE t := rfl
theorem termE_neg (t : Trm) (b : Bool) : termE { t with neg := b } = termE t := rfl
theorem termE_there {t : Trm} (h : termE t = 0) (a b : Val) : termE ⟨t.name, a, b, false, false, false⟩ = 0 := by
  unfold termE at *
  by_cases hw : Pap.word 16 t.name = false
  · rw [if_pos hw] at h; cases h
  · rw [if_neg hw]; simp
theorem termsE_good {T : List Trm} : termsE T = 0 ↔ ∀ t ∈ T, termE t = 0 := by
  induction T with
  | nil => exact ⟨fun _ t h => (by cases h), fun _ => rfl⟩
  | cons t T ih =>
    rw [termsE_cons]
    constructor
    · intro h u hu
      by_cases ht : termE t = 0
      · rw [if_pos ht] at h
        rcases List.mem_cons.1 hu with rfl | hu
        · exact ht
        · exact ih.1 h u hu
      · rw [if_neg ht] at h; exact absurd h ht
    · intro h
      rw [if_pos (h t (List.mem_cons_self ..))]
      exact ih.2 fun u hu => h u (List.mem_cons_of_mem _ hu)
/-- What the law's inner loop finds: the place behind the last that the new one is not ahead of. -/
theorem ins_at {lt : Nat → Nat → Bool} (hw : Weak lt) {l : List Nat} (hl : l.Pairwise (fun a b => lt b a = false)) {i k : Nat} (hk : k ≤ l.length) (h1 : ∀ x ∈ l.drop k, lt i x = true) (h2 : ∀ (h : 0 < k), lt i (l[k - 1]'(by omega)) = false) :
    ins lt i l = l.take k ++ i :: l.drop k := by
  have h := ins_split hw i (l.take k) (l.drop k) (by rw [List.take_append_drop]; exact hl) (fun x hx => ?_) (fun x hx => h1 x (List.mem_of_mem_head? hx))
  · rwa [List.take_append_drop] at h
  · cases k with
    | zero => rw [List.take_zero] at hx; cases hx
    | succ k =>
      rw [List.take_succ_eq_append_getElem (by omega), List.getLast?_append] at hx
      have hx' : l[k]'(by omega) = x := by simpa using hx
      rw [← hx']
      exact h2 (Nat.succ_pos _)
/-- The row that the law builds, one paper more. -/
theorem build_yes {q : Qry} {L : List (List Fld)} {k : Nat} (h : all q L k = true) : srt (order q L) (found q L (k + 1)) = ins (order q L) k (srt (order q L) (found q L k)) := by rw [found_yes h, srt_snoc]
theorem build_no {q : Qry} {L : List (List Fld)} {k : Nat} (h : all q L k = false) : srt (order q L) (found q L (k + 1)) = srt (order q L) (found q L k) := by rw [found_no h]
theorem build_sorted (q : Qry) (L : List (List Fld)) (k : Nat) : (srt (order q L) (found q L k)).Pairwise (fun a b => order q L b a = false) := srt_sorted (order_weak q L) (found_rise q L k)
theorem build_lt {q : Qry} {L : List (List Fld)} {k i : Nat} (h : i ∈ srt (order q L) (found q L k)) : i < k := (found_lt ((srt_perm (order q L) (found q L k)).mem_iff.1 h)).1
end Fnd
end Go.Proofs.Ytfcmkbeilpclmaa
