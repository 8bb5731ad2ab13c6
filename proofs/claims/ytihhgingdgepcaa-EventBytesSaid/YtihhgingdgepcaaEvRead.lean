/-
  How an event is read: plain; what was read has just these bytes, and what may be is read again. No program stands here.
-/
import Derived.Test.YtihhgingdgepcaaEvSpec
import Derived.Test.YtihhgingdgepcaaTextsSpec
namespace Go.Proofs.Ytihhgingdgepcaa
set_option linter.unusedVariables false

namespace R
theorem flag_err (st : St) (h : st.2 ≠ 0) : flag st = (false, st) := by
  obtain ⟨l, e⟩ := st
  unfold flag
  rw [next_bad 1 l e h]
theorem flag_fwd (b : Bool) (r : List UInt8) : flag (Ev.flg b ++ r, 0) = (b, (r, 0)) := by
  have h : next 1 (Ev.flg b ++ r, 0) = ((Ev.flg b ++ r).take 1, ((Ev.flg b ++ r).drop 1, 0)) := next_ok 1 (Ev.flg b ++ r) (by unfold Ev.flg; simp)
  unfold flag
  rw [h]
  unfold Ev.flg
  cases b <;> rfl
theorem flag_back (l : List UInt8) (h : (flag (l, 0)).2.2 = 0) : l = Ev.flg (flag (l, 0)).1 ++ (flag (l, 0)).2.1 := by
  cases l with
  | nil =>
    have e : flag ([], 0) = (false, ([], 2)) := rfl
    rw [e] at h
    exact absurd h (by decide)
  | cons c t =>
    have e : next 1 (c :: t, 0) = ([c], (t, 0)) := next_ok 1 (c :: t) (by simp)
    have e2 : flag (c :: t, 0) = (c.toNat == 1, if 1 < c.toNat then fail 4 (t, 0) else (t, 0)) := by
      unfold flag
      rw [e]
    rw [e2] at h ⊢
    by_cases hc : 1 < c.toNat
    · rw [if_pos hc] at h
      have e4 : (fail 4 ((t, 0) : St)).2 = 4 := rfl
      rw [e4] at h
      exact absurd h (by decide)
    · rw [if_neg hc]
      show c :: t = Ev.flg (c.toNat == 1) ++ t
      unfold Ev.flg
      have h2 : c.toNat = 0 ∨ c.toNat = 1 := by omega
      rcases h2 with h2 | h2
      · have : c = 0 := UInt8.toNat_inj.1 h2
        subst this; rfl
      · have : c = 1 := UInt8.toNat_inj.1 h2
        subst this; rfl
theorem textsK_back : ∀ (k : Nat) (m : Int) (l : List UInt8) (acc : List (List UInt8)), (textsK k m (l, 0) acc).2.2 = 0 →
    ∃ H : List (List UInt8), (textsK k m (l, 0) acc).1 = acc ++ H ∧ H.length = k ∧ l = H.flatMap Ev.txt ++ (textsK k m (l, 0) acc).2.1
  | 0, m, l, acc, h => ⟨[], by simp [textsK], rfl, by simp [textsK]⟩
  | k + 1, m, l, acc, h => by
    unfold textsK at h ⊢
    by_cases h0 : (text m (l, 0)).2.2 = 0
    · rw [if_pos h0] at h ⊢
      have hb := (text_back m l h0).1
      generalize text m (l, 0) = x at h h0 hb ⊢
      obtain ⟨t, l1, e⟩ := x
      dsimp only at h h0 hb ⊢
      subst h0
      obtain ⟨H, q1, q2, q3⟩ := textsK_back k m l1 (acc ++ [t]) h
      refine ⟨t :: H, ?_, by rw [List.length_cons, q2], ?_⟩
      · rw [q1]; simp
      · rw [List.flatMap_cons, List.append_assoc, ← q3]
        exact hb
    · rw [if_neg h0] at h
      exact absurd h h0
theorem num_back0 {m : Int} {l : List UInt8} (h : (num m (l, 0)).2.2 = 0) : l = M.encL (num m (l, 0)).1 ++ (num m (l, 0)).2.1 := (num_back m l h).2.2.2
theorem texts_back {many m : Int} {l : List UInt8} (h : (texts many m (l, 0)).2.2 = 0) :
    l = M.encL (texts many m (l, 0)).1.length ++ ((texts many m (l, 0)).1.flatMap Ev.txt ++ (texts many m (l, 0)).2.1) := by
  unfold texts at h ⊢
  by_cases h0 : (num many (l, 0)).2.2 = 0
  · have hb := num_back many l h0
    generalize num many (l, 0) = x at h h0 hb ⊢
    obtain ⟨n, l1, e⟩ := x
    dsimp only at h h0 hb ⊢
    subst h0
    obtain ⟨H, q1, q2, q3⟩ := textsK_back n.toNat m l1 [] h
    rw [q1, List.nil_append, q2, ← q3, Int.toNat_of_nonneg hb.1]
    exact hb.2.2.2
  · have hn := num_zero many (l, 0) h0
    rw [hn] at h
    exact absurd h h0
theorem textsK_fwd {m : Int} {r : List UInt8} : ∀ (H : List (List UInt8)) (acc : List (List UInt8)), (∀ x ∈ H, (x.length : Int) ≤ m ∧ x.length < 72057594037927936) → textsK H.length m (H.flatMap Ev.txt ++ r, 0) acc = (acc ++ H, (r, 0))
  | [], acc, _ => by simp [textsK]
  | x :: H, acc, h => by
    have hx := h x (List.mem_cons_self ..)
    have e : (x :: H).flatMap Ev.txt ++ r = M.encL x.length ++ x ++ (H.flatMap Ev.txt ++ r) := by rw [List.flatMap_cons, List.append_assoc]; rfl
    rw [List.length_cons, textsK, e, text_fwd m x (H.flatMap Ev.txt ++ r) (by omega) hx.1, if_pos rfl, textsK_fwd H _ (fun y hy => h y (List.mem_cons_of_mem _ hy))]
    simp
theorem texts_fwd {many m : Int} {r : List UInt8} (H : List (List UInt8)) (h1 : (H.length : Int) ≤ many) (h2 : H.length < 72057594037927936) (h : ∀ x ∈ H, (x.length : Int) ≤ m ∧ x.length < 72057594037927936) :
    texts many m (M.encL H.length ++ (H.flatMap Ev.txt ++ r), 0) = (H, (r, 0)) := by
  unfold texts
  rw [num_fwd many H.length _ (by omega) (by omega) h1]
  dsimp only
  rw [Int.toNat_natCast, textsK_fwd H [] h, List.nil_append]
theorem texts_err (many m : Int) (st : St) (h : st.2 ≠ 0) : texts many m st = ([], st) := by
  unfold texts
  rw [num_err many st h]
  rfl
end R
namespace Ev
open R (St)
/-- A slip is read. -/
def rS (st : St) : Slp × St :=
  let a := R.text 16 st
  let b := R.text 32 a.2
  let c := R.flag b.2
  if c.1 = true then (⟨a.1, b.1, [], true⟩, c.2) else (⟨a.1, b.1, (R.text 224 c.2).1, false⟩, (R.text 224 c.2).2)
def rSs : Nat → St → List Slp → List Slp × St
  | 0, st, acc => (acc, st)
  | k + 1, st, acc => rSs k (rS st).2 (acc ++ [(rS st).1])
/-- A paper as it is kept is read. -/
def rE (st : St) : Ent × St :=
  let i := R.text 24 st
  let c := R.num 7 i.2
  let b := R.num 1099511627776 c.2
  let s := R.num 63 b.2
  let g := R.flag s.2
  let h := R.texts 4 16 g.2
  let n := R.num 12 h.2
  let l := rSs n.1.toNat n.2 []
  (⟨i.1, c.1, b.1, s.1, l.1, g.1, h.1⟩, l.2)
/-- An event is read. -/
def rV (st : St) : Evt × St :=
  let k := R.num 7 st
  if k.1 = 1 then ({ Evt.zero with kind := 1, ent := (rE k.2).1 }, (rE k.2).2)
  else if k.1 = 2 then ({ Evt.zero with kind := 2, seq := (R.num 63 k.2).1, idx := (R.num 11 (R.num 63 k.2).2).1 }, (R.num 11 (R.num 63 k.2).2).2)
  else if k.1 = 3 then ({ Evt.zero with kind := 3, seq := (R.num 63 k.2).1 }, (R.num 63 k.2).2)
  else if k.1 = 4 ∨ k.1 = 5 then ({ Evt.zero with kind := k.1, seq := (R.num 63 k.2).1, name := (R.text 16 (R.num 63 k.2).2).1 }, (R.text 16 (R.num 63 k.2).2).2)
  else if k.1 = 6 then ({ Evt.zero with kind := 6, size := (R.num 64 k.2).1, root := (R.text 32 (R.num 64 k.2).2).1 }, (R.text 32 (R.num 64 k.2).2).2)
  else if k.1 = 7 then ({ Evt.zero with kind := 7, now := (R.num 1099511627776 k.2).1 }, (R.num 1099511627776 k.2).2)
  else ({ Evt.zero with kind := k.1 }, k.2)
/-- What reading any bytes comes to: an event, and a code. -/
def readV (s : T) : Evt × Int :=
  if (R.fin (rV (s, 0)).2).2 ≠ 0 then (Evt.zero, (R.fin (rV (s, 0)).2).2) else if right (rV (s, 0)).1 = true then ((rV (s, 0)).1, 0) else (Evt.zero, 4)
/-! errors stay -/
theorem rS_err (st : St) (h : st.2 ≠ 0) : (rS st).2 = st := by
  unfold rS
  simp only [R.text_err _ _ h, R.flag_err _ h]
  rfl
theorem rSs_err : ∀ (k : Nat) (st : St) (acc : List Slp), st.2 ≠ 0 → (rSs k st acc).2 = st
  | 0, st, acc, h => rfl
  | k + 1, st, acc, h => by
    unfold rSs
    rw [rSs_err k (rS st).2 _ (by rw [rS_err st h]; exact h), rS_err st h]
theorem rE_err (st : St) (h : st.2 ≠ 0) : (rE st).2 = st := by
  unfold rE
  simp only [R.text_err _ _ h, R.num_err _ _ h, R.flag_err _ h, R.texts_err _ _ _ h]
  rfl
theorem rV_err (st : St) (h : st.2 ≠ 0) : (rV st).2 = st := by
  unfold rV
  simp only [R.num_err _ _ h]
  rfl
/-! what was read -/
end Ev
namespace R
theorem text_bk {m : Int} {st : St} (h : (text m st).2.2 = 0) : st.2 = 0 ∧ st.1 = Ev.txt (text m st).1 ++ (text m st).2.1 := by
  by_cases h0 : st.2 = 0
  · obtain ⟨l, e⟩ := st
    dsimp only at h0
    subst h0
    exact ⟨rfl, (text_back m l h).1⟩
  · rw [text_err m st h0] at h
    exact absurd h h0
theorem num_bk {m : Int} {st : St} (h : (num m st).2.2 = 0) : st.2 = 0 ∧ st.1 = M.encL (num m st).1 ++ (num m st).2.1 ∧ 0 ≤ (num m st).1 := by
  by_cases h0 : st.2 = 0
  · obtain ⟨l, e⟩ := st
    dsimp only at h0
    subst h0
    exact ⟨rfl, num_back0 h, (num_back m l h).1⟩
  · rw [num_err m st h0] at h
    exact absurd h h0
theorem flag_bk {st : St} (h : (flag st).2.2 = 0) : st.2 = 0 ∧ st.1 = Ev.flg (flag st).1 ++ (flag st).2.1 := by
  by_cases h0 : st.2 = 0
  · obtain ⟨l, e⟩ := st
    dsimp only at h0
    subst h0
    exact ⟨rfl, flag_back l h⟩
  · rw [flag_err st h0] at h
    exact absurd h h0
theorem texts_bk {many m : Int} {st : St} (h : (texts many m st).2.2 = 0) : st.2 = 0 ∧ st.1 = M.encL (texts many m st).1.length ++ ((texts many m st).1.flatMap Ev.txt ++ (texts many m st).2.1) := by
  by_cases h0 : st.2 = 0
  · obtain ⟨l, e⟩ := st
    dsimp only at h0
    subst h0
    exact ⟨rfl, texts_back h⟩
  · rw [texts_err many m st h0] at h
    exact absurd h h0
end R
namespace Ev
open R (St)
theorem rS_bk {st : St} (h : (rS st).2.2 = 0) : st.2 = 0 ∧ st.1 = encS (rS st).1 ++ (rS st).2.1 := by
  have e : rS st = if (R.flag (R.text 32 (R.text 16 st).2).2).1 = true then (⟨(R.text 16 st).1, (R.text 32 (R.text 16 st).2).1, [], true⟩, (R.flag (R.text 32 (R.text 16 st).2).2).2)
      else (⟨(R.text 16 st).1, (R.text 32 (R.text 16 st).2).1, (R.text 224 (R.flag (R.text 32 (R.text 16 st).2).2).2).1, false⟩, (R.text 224 (R.flag (R.text 32 (R.text 16 st).2).2).2).2) := rfl
  rw [e] at h ⊢
  have b1 := fun h => R.text_bk (m := 16) (st := st) h
  have b2 := fun h => R.text_bk (m := 32) (st := (R.text 16 st).2) h
  have b3 := fun h => R.flag_bk (st := (R.text 32 (R.text 16 st).2).2) h
  have b4 := fun h => R.text_bk (m := 224) (st := (R.flag (R.text 32 (R.text 16 st).2).2).2) h
  generalize R.text 224 (R.flag (R.text 32 (R.text 16 st).2).2).2 = x4 at *
  generalize R.flag (R.text 32 (R.text 16 st).2).2 = x3 at *
  generalize R.text 32 (R.text 16 st).2 = x2 at *
  generalize R.text 16 st = x1 at *
  obtain ⟨t1, s1⟩ := x1
  obtain ⟨t2, s2⟩ := x2
  obtain ⟨t3, s3⟩ := x3
  obtain ⟨t4, s4⟩ := x4
  dsimp only at *
  cases t3 with
  | true =>
    rw [if_pos rfl] at h ⊢
    obtain ⟨c3, d3⟩ := b3 h
    obtain ⟨c2, d2⟩ := b2 c3
    obtain ⟨c1, d1⟩ := b1 c2
    refine ⟨c1, ?_⟩
    unfold encS
    dsimp only
    rw [if_pos rfl, d1, d2, d3]
    simp only [List.append_assoc, List.append_nil]
  | false =>
    rw [if_neg (by decide)] at h ⊢
    obtain ⟨c4, d4⟩ := b4 h
    obtain ⟨c3, d3⟩ := b3 c4
    obtain ⟨c2, d2⟩ := b2 c3
    obtain ⟨c1, d1⟩ := b1 c2
    refine ⟨c1, ?_⟩
    unfold encS
    dsimp only
    rw [if_neg (by decide), d1, d2, d3, d4]
    simp only [List.append_assoc]
theorem rSs_bk : ∀ (k : Nat) (st : St) (acc : List Slp), (rSs k st acc).2.2 = 0 → st.2 = 0 ∧ ∃ L, (rSs k st acc).1 = acc ++ L ∧ L.length = k ∧ st.1 = L.flatMap encS ++ (rSs k st acc).2.1
  | 0, st, acc, h => ⟨h, [], by simp [rSs], rfl, by simp [rSs]⟩
  | k + 1, st, acc, h => by
    unfold rSs at h ⊢
    obtain ⟨c, L, q1, q2, q3⟩ := rSs_bk k (rS st).2 (acc ++ [(rS st).1]) h
    obtain ⟨c1, d1⟩ := rS_bk c
    refine ⟨c1, (rS st).1 :: L, by rw [q1]; simp, by rw [List.length_cons, q2], ?_⟩
    rw [List.flatMap_cons, List.append_assoc, ← q3]
    exact d1
theorem rE_bk {st : St} (h : (rE st).2.2 = 0) : st.2 = 0 ∧ st.1 = encE (rE st).1 ++ (rE st).2.1 := by
  unfold rE at h ⊢
  dsimp only at h ⊢
  obtain ⟨c8, L, q1, q2, q3⟩ := rSs_bk _ _ _ h
  obtain ⟨c7, d7, e7⟩ := R.num_bk c8
  obtain ⟨c6, d6⟩ := R.texts_bk c7
  obtain ⟨c5, d5⟩ := R.flag_bk c6
  obtain ⟨c4, d4, _⟩ := R.num_bk c5
  obtain ⟨c3, d3, _⟩ := R.num_bk c4
  obtain ⟨c2, d2, _⟩ := R.num_bk c3
  obtain ⟨c1, d1⟩ := R.text_bk c2
  refine ⟨c1, ?_⟩
  unfold encE
  dsimp only
  rw [q1, List.nil_append, q2, Int.toNat_of_nonneg e7]
  rw [d1, d2, d3, d4, d5, d6, d7, q3]
  simp only [List.append_assoc]
theorem rV_bk {st : St} (h : (rV st).2.2 = 0) (hr : right (rV st).1 = true) : st.2 = 0 ∧ st.1 = enc (rV st).1 ++ (rV st).2.1 := by
  have hk := right_kind hr
  clear hr
  unfold rV at h hk ⊢
  dsimp only at h hk ⊢
  have b0 := fun h => R.num_bk (m := 7) (st := st) h
  generalize R.num 7 st = k at *
  obtain ⟨k, s0⟩ := k
  dsimp only at h hk b0 ⊢
  by_cases k1 : k = 1
  · subst k1
    rw [if_pos rfl] at h ⊢
    dsimp only at h ⊢
    obtain ⟨c1, d1⟩ := rE_bk h
    obtain ⟨c0, d0, _⟩ := b0 c1
    refine ⟨c0, ?_⟩
    rw [enc1 rfl, d0, d1, List.append_assoc]
  rw [if_neg k1] at h hk ⊢
  by_cases k2 : k = 2
  · subst k2
    rw [if_pos rfl] at h ⊢
    dsimp only at h ⊢
    obtain ⟨c2, d2, _⟩ := R.num_bk h
    obtain ⟨c1, d1, _⟩ := R.num_bk c2
    obtain ⟨c0, d0, _⟩ := b0 c1
    refine ⟨c0, ?_⟩
    rw [enc2 rfl, d0, d1, d2]
    simp only [List.append_assoc]
  rw [if_neg k2] at h hk ⊢
  by_cases k3 : k = 3
  · subst k3
    rw [if_pos rfl] at h ⊢
    dsimp only at h ⊢
    obtain ⟨c1, d1, _⟩ := R.num_bk h
    obtain ⟨c0, d0, _⟩ := b0 c1
    refine ⟨c0, ?_⟩
    rw [enc3 rfl, d0, d1]
    simp only [List.append_assoc]
  rw [if_neg k3] at h hk ⊢
  by_cases k4 : k = 4 ∨ k = 5
  · rw [if_pos k4] at h ⊢
    dsimp only at h ⊢
    obtain ⟨c2, d2⟩ := R.text_bk h
    obtain ⟨c1, d1, _⟩ := R.num_bk c2
    obtain ⟨c0, d0, _⟩ := b0 c1
    refine ⟨c0, ?_⟩
    rw [enc4 k4, d0, d1, d2]
    simp only [List.append_assoc]
  rw [if_neg k4] at h hk ⊢
  by_cases k6 : k = 6
  · subst k6
    rw [if_pos rfl] at h ⊢
    dsimp only at h ⊢
    obtain ⟨c2, d2⟩ := R.text_bk h
    obtain ⟨c1, d1, _⟩ := R.num_bk c2
    obtain ⟨c0, d0, _⟩ := b0 c1
    refine ⟨c0, ?_⟩
    rw [enc6 rfl, d0, d1, d2]
    simp only [List.append_assoc]
  rw [if_neg k6] at h hk ⊢
  by_cases k7 : k = 7
  · subst k7
    rw [if_pos rfl] at h ⊢
    dsimp only at h ⊢
    obtain ⟨c1, d1, _⟩ := R.num_bk h
    obtain ⟨c0, d0, _⟩ := b0 c1
    refine ⟨c0, ?_⟩
    rw [enc7 rfl, d0, d1]
    simp only [List.append_assoc]
  rw [if_neg k7] at hk
  exact absurd hk (by dsimp only; omega)
theorem rV_clean (st : St) : clean (rV st).1 = (rV st).1 := by
  unfold rV
  dsimp only
  generalize R.num 7 st = k
  obtain ⟨k, s0⟩ := k
  dsimp only
  by_cases k1 : k = 1
  · subst k1; rw [if_pos rfl, clean1 rfl]
  rw [if_neg k1]
  by_cases k2 : k = 2
  · subst k2; rw [if_pos rfl, clean2 rfl]
  rw [if_neg k2]
  by_cases k3 : k = 3
  · subst k3; rw [if_pos rfl, clean3 rfl]
  rw [if_neg k3]
  by_cases k4 : k = 4 ∨ k = 5
  · rw [if_pos k4, clean4 (by exact k4)]
  rw [if_neg k4]
  by_cases k6 : k = 6
  · subst k6; rw [if_pos rfl, clean6 rfl]
  rw [if_neg k6]
  by_cases k7 : k = 7
  · subst k7; rw [if_pos rfl, clean7 rfl]
  rw [if_neg k7]
  have hk : k < 1 ∨ 7 < k := by omega
  exact clean0 (v := { Evt.zero with kind := k }) hk
/-- What was read may be, is clean, and has just these bytes. -/
theorem readV_back {s : T} (h : (readV s).2 = 0) : right (readV s).1 = true ∧ clean (readV s).1 = (readV s).1 ∧ enc (readV s).1 = s := by
  unfold readV at h ⊢
  split at h
  · rename_i h1
    exact absurd h h1
  · rename_i h1
    split at h
    · rename_i h2
      rw [if_neg h1, if_pos h2]
      obtain ⟨f1, f2⟩ := R.fin_ok _ (Decidable.not_not.1 h1)
      obtain ⟨_, d⟩ := rV_bk f1 h2
      refine ⟨h2, rV_clean _, ?_⟩
      rw [f2, List.append_nil] at d
      exact d.symm
    · cases h
theorem readV_none {s : T} (h : (readV s).2 ≠ 0) : (readV s).1 = Evt.zero := by
  unfold readV at h ⊢
  split
  · rfl
  · rename_i h1
    rw [if_neg h1] at h
    split
    · rename_i h2
      rw [if_pos h2] at h
      exact absurd rfl h
    · rfl
/-! what may be is read again -/
theorem rS_fwd {g : Bool} {s : Slp} (r : T) (h : slipR g s = true) : rS (encS s ++ r, 0) = (s, (r, 0)) := by
  obtain ⟨h1, h2, h3, h4⟩ := slipR_iff.1 h
  have hn := (Pap.word_len h1).2
  obtain ⟨n, p, c, e⟩ := s
  dsimp only at *
  unfold encS
  dsimp only
  cases e with
  | true =>
    have hc := h3 rfl
    subst hc
    have e0 : txt n ++ txt p ++ flg true ++ (if true = true then [] else txt []) ++ r = M.encL n.length ++ n ++ (M.encL p.length ++ p ++ (flg true ++ r)) := by
      rw [if_pos rfl]; unfold txt; simp only [List.append_assoc, List.append_nil]
    rw [e0]
    unfold rS
    rw [R.text_fwd 16 n _ (by omega) (by omega)]
    dsimp only
    rw [R.text_fwd 32 p _ (by omega) (by omega)]
    dsimp only
    rw [R.flag_fwd]
    rfl
  | false =>
    obtain ⟨h5, h6, _⟩ := h4 rfl
    have e0 : txt n ++ txt p ++ flg false ++ (if false = true then [] else txt c) ++ r = M.encL n.length ++ n ++ (M.encL p.length ++ p ++ (flg false ++ (M.encL c.length ++ c ++ r))) := by
      rw [if_neg (by decide)]; unfold txt; simp only [List.append_assoc]
    rw [e0]
    unfold rS
    rw [R.text_fwd 16 n _ (by omega) (by omega)]
    dsimp only
    rw [R.text_fwd 32 p _ (by omega) (by omega)]
    dsimp only
    rw [R.flag_fwd]
    dsimp only
    rw [if_neg (by decide), R.text_fwd 224 c _ (by omega) (by omega)]
theorem rSs_fwd {g : Bool} (r : T) : ∀ (L : List Slp) (acc : List Slp), (∀ x ∈ L, slipR g x = true) → rSs L.length (L.flatMap encS ++ r, 0) acc = (acc ++ L, (r, 0))
  | [], acc, _ => by simp [rSs]
  | x :: L, acc, h => by
    rw [List.length_cons, rSs, List.flatMap_cons, List.append_assoc, rS_fwd _ (h x (List.mem_cons_self ..))]
    dsimp only
    rw [rSs_fwd r L _ (fun y hy => h y (List.mem_cons_of_mem _ hy))]
    simp
theorem rE_fwd {e : Ent} (r : T) (h : entR e = true) : rE (encE e ++ r, 0) = (e, (r, 0)) := by
  obtain ⟨h1, h2, h3, h4, h5, h6, h7, h8, h9, h10⟩ := entR_iff.1 h
  have hn := (Pap.word_len h1).2
  obtain ⟨id, cls, born, slot, L, gone, H⟩ := e
  dsimp only at *
  have e0 : encE ⟨id, cls, born, slot, L, gone, H⟩ ++ r = M.encL id.length ++ id ++ (M.encL cls ++ (M.encL born ++ (M.encL slot ++ (flg gone ++ (M.encL H.length ++ (H.flatMap txt ++ (M.encL L.length ++ (L.flatMap encS ++ r)))))))) := by
    unfold encE txt; simp only [List.append_assoc]
  rw [e0]
  unfold rE
  rw [R.text_fwd 24 id _ (by omega) (by omega)]
  dsimp only
  rw [R.num_fwd 7 cls _ h2.1 (by omega) h2.2]
  dsimp only
  rw [R.num_fwd 1099511627776 born _ h3.1 (by omega) h3.2]
  dsimp only
  rw [R.num_fwd 63 slot _ h4.1 (by omega) h4.2]
  dsimp only
  rw [R.flag_fwd]
  dsimp only
  rw [R.texts_fwd H (by omega) (by omega) (fun x hx => by have := (Pap.word_len (h7 x hx)).2; exact ⟨by omega, by omega⟩)]
  dsimp only
  rw [R.num_fwd 12 (L.length : Int) _ (by omega) (by omega) (by omega)]
  dsimp only
  rw [Int.toNat_natCast, rSs_fwd r L [] h9, List.nil_append]
theorem rV_fwd {v : Evt} (h : right v = true) : rV (enc v, 0) = (clean v, ([], 0)) := by
  have hk := right_kind h
  have e0 : ∀ B : T, R.num 7 (M.encL v.kind ++ B, 0) = (v.kind, (B, 0)) := fun B => R.num_fwd 7 v.kind B (by omega) (by omega) (by omega)
  rcases kinds v with q | q | q | q | q | q | q
  · rw [right1 q] at h
    rw [enc1 q, clean1 q]
    unfold rV
    rw [e0]
    dsimp only
    rw [if_pos q]
    have := rE_fwd [] h
    rw [List.append_nil] at this
    rw [this]
  · rw [right2 q, Bool.and_eq_true, rng_iff, rng_iff] at h
    rw [enc2 q, clean2 q]
    unfold rV
    rw [e0]
    dsimp only
    rw [if_neg (by omega), if_pos q, R.num_fwd 63 v.seq _ h.1.1 (by omega) h.1.2]
    dsimp only
    have := R.num_fwd 11 v.idx [] h.2.1 (by omega) h.2.2
    rw [List.append_nil] at this
    rw [this]
  · rw [right3 q, rng_iff] at h
    rw [enc3 q, clean3 q]
    unfold rV
    rw [e0]
    dsimp only
    rw [if_neg (by omega), if_neg (by omega), if_pos q]
    have := R.num_fwd 63 v.seq [] h.1 (by omega) h.2
    rw [List.append_nil] at this
    rw [this]
  · rw [right4 q, Bool.and_eq_true, rng_iff] at h
    have hw := (Pap.word_len h.2).2
    rw [enc4 q, clean4 q]
    unfold rV
    rw [e0]
    dsimp only
    rw [if_neg (by omega), if_neg (by omega), if_neg (by omega), if_pos q, R.num_fwd 63 v.seq _ h.1.1 (by omega) h.1.2]
    dsimp only
    have := R.text_fwd 16 v.name [] (by omega) (by omega)
    rw [List.append_nil] at this
    unfold txt
    rw [this]
  · rw [right6 q, Bool.and_eq_true, rng_iff, decide_eq_true_iff] at h
    rw [enc6 q, clean6 q]
    unfold rV
    rw [e0]
    dsimp only
    rw [if_neg (by omega), if_neg (by omega), if_neg (by omega), if_neg (by omega), if_pos q, R.num_fwd 64 v.size _ h.1.1 (by omega) h.1.2]
    dsimp only
    have := R.text_fwd 32 v.root [] (by omega) (by omega)
    rw [List.append_nil] at this
    unfold txt
    rw [this]
  · rw [right7 q, rng_iff] at h
    rw [enc7 q, clean7 q]
    unfold rV
    rw [e0]
    dsimp only
    rw [if_neg (by omega), if_neg (by omega), if_neg (by omega), if_neg (by omega), if_neg (by omega), if_pos q]
    have := R.num_fwd 1099511627776 v.now [] h.1 (by omega) h.2
    rw [List.append_nil] at this
    rw [this]
  · rw [right0 q] at h; cases h
theorem readV_fwd {v : Evt} (h : right v = true) : readV (enc v) = (clean v, 0) := by
  unfold readV
  rw [rV_fwd h]
  dsimp only
  have e : (R.fin (([] : T), (0 : Int))).2 = 0 := rfl
  rw [if_neg (by rw [e]; decide), if_pos (by rw [right_clean]; exact h)]
theorem enc_ne (v : Evt) (h : right v = true) : enc v ≠ [] := by
  have hk := right_kind h
  have e0 : M.encL v.kind ≠ [] := by
    obtain ⟨k, hk'⟩ := Int.eq_ofNat_of_zero_le (show 0 ≤ v.kind by omega)
    rw [hk', M.encL, if_pos ⟨by omega, by omega⟩]
    exact List.cons_ne_nil _ _
  unfold enc
  intro e
  exact e0 (List.append_eq_nil_iff.1 e).1
/-- Two events have one form just where they are one, clean. -/
theorem same_iff (a b : Evt) : (decide (bytes a ≠ []) && decide (bytes a = bytes b)) = (right a && right b && decide (clean a = clean b)) := by
  cases ha : right a with
  | false =>
    have e : bytes a = [] := by unfold bytes; rw [ha]; rfl
    rw [e]; rfl
  | true =>
    have e : bytes a = enc a := by unfold bytes; rw [if_pos ha]
    rw [e, decide_eq_true (enc_ne a ha), Bool.true_and, Bool.true_and]
    cases hb : right b with
    | false =>
      have e2 : bytes b = [] := by unfold bytes; rw [hb]; rfl
      rw [e2, decide_eq_false (enc_ne a ha)]; rfl
    | true =>
      have e2 : bytes b = enc b := by unfold bytes; rw [if_pos hb]
      rw [e2, Bool.true_and]
      refine decide_eq_decide.2 ⟨fun h => ?_, fun h => ?_⟩
      · have h1 := readV_fwd ha
        rw [h, readV_fwd hb] at h1
        injection h1 with h1 _
        exact h1.symm
      · rw [← enc_clean ha, ← enc_clean hb, h]
end Ev
end Go.Proofs.Ytihhgingdgepcaa
