/-
  What is opened upon a new disk, to whose third sector a record was appended, or none: of any place, size and seed.
-/
import Derived.Test.YtjdklifkalnamaaGreatDoorJrnX
namespace Go.Proofs.YtjdklifkalnamaaGreatDoor
open Go.RowKit
set_option linter.unusedVariables false

namespace Jrn
open Grd (eight num8 eight_inj)
theorem pays2_two : ∀ (ts : List Nat) (l : Nat) (t : T), ∀ w ∈ pays2 l t ts, ∃ l' t', w.1 = piece2 l' t' := by
  intro ts
  induction ts with
  | nil => intro l t w hw; cases hw
  | cons a ts ih =>
    intro l t w hw
    unfold pays2 at hw
    rcases List.mem_cons.1 hw with rfl | hw
    · exact ⟨l, t, rfl⟩
    · exact ih _ _ w hw
/-- A record alone: nothing else is found. -/
theorem alone {r : Nat → X} (hr : Room r) {s : T} {ts : List Nat} (hts : ts.length = need s.length) (hs : s.length ≤ 6000) (hag : Agree r 3 (pays 7 s ts)) (hout : ∀ k, (k < 3 ∨ 3 + need s.length ≤ k) → (r k).1 = []) {base size seed : Nat} (hsd : seed < 4294967296) (h : ¬ (base = 3 ∧ seed = 7 ∧ need s.length ≤ size)) : nextP r base size seed = none := by
  by_cases hb : base < 3 ∨ 3 + need s.length ≤ base
  · exact nextP_nil (hout base hb)
  · by_cases hb3 : base = 3
    · subst hb3
      cases ts with
      | nil => have := need_pos s.length; rw [List.length_nil] at hts; omega
      | cons t0 ts =>
        have hag' := hag
        unfold pays at hag'
        have h0 := hag'.head
        by_cases hs7 : seed = 7
        · subst hs7
          cases hn : nextP r 3 size 7 with
          | none => rfl
          | some q =>
            exfalso
            obtain ⟨s', ts'⟩ := q
            obtain ⟨a1, a2, a3⟩ := nextP_some hr hn
            have hsh : s'.length ≤ 6000 := a1.short
            have hcn : ts'.length = need s'.length := a1.cnt
            cases ts' with
            | nil => have := need_pos s'.length; rw [List.length_nil] at hcn; omega
            | cons t1 ts' =>
              unfold pays at a2
              have h1 := a2.head
              rw [h0] at h1
              have e := congrArg (fun x : X => lenOf x.1) h1
              dsimp only at e
              rw [piece1_lenOf 7 s hs, piece1_lenOf 7 s' hsh] at e
              rw [← e] at a3
              exact h ⟨rfl, rfl, a3⟩
        · unfold nextP readP
          rw [if_neg]
          rintro ⟨_, hc⟩
          rw [Nat.add_zero, h0] at hc
          dsimp only at hc
          rw [piece1_take] at hc
          unfold sc at hc
          rw [if_pos rfl] at hc
          injection hc with _ hc
          have := eight_inj (by decide) (by omega) hc
          omega
    · have hk : base - 3 < (pays 7 s ts).length := by rw [pays_len]; omega
      have hx := hag (base - 3) _ (List.getElem?_eq_getElem hk)
      rw [show 3 + (base - 3) = base by omega] at hx
      cases ts with
      | nil => have := need_pos s.length; rw [List.length_nil] at hts; omega
      | cons t0 ts =>
        obtain ⟨m, hm⟩ : ∃ m, base - 3 = m + 1 := ⟨base - 4, by omega⟩
        have hin : (pays 7 s (t0 :: ts))[base - 3]'hk ∈ pays2 t0 (s.drop 36) ts := by
          have e : (pays 7 s (t0 :: ts)) = (piece1 7 s, t0) :: pays2 t0 (s.drop 36) ts := rfl
          simp only [e, hm, List.getElem_cons_succ]
          exact List.getElem_mem _
        obtain ⟨l', t', e⟩ := pays2_two _ _ _ _ hin
        unfold nextP readP
        rw [if_neg]
        rintro ⟨_, hc⟩
        rw [Nat.add_zero, hx] at hc
        dsimp only at hc
        rw [e, piece2_take] at hc
        unfold sc at hc
        rw [if_pos rfl] at hc
        injection hc with hc
        revert hc
        decide
end Jrn
/-- What Open finds: the record, or none. -/
def OF (N : List Jrn.Rec) (d : Dsk.St) : Prop :=
  ∀ base size seed : Nat, 1 ≤ size → 1 ≤ seed → seed < 4294967296 → base + size ≤ d.secs.length → ∃ L0, (((N ≠ [] ∧ base = 3 ∧ seed = 7 ∧ Jrn.usedL N ≤ size) ∧ L0 = N) ∨ (¬ (N ≠ [] ∧ base = 3 ∧ seed = 7 ∧ Jrn.usedL N ≤ size) ∧ L0 = [])) ∧
    (∀ W gg g bd mb boot wn, GuardAt W gg g bd mb boot wn d → Calls Tryz.prog 22 #[.pointer (some ⟨gg, 0, none⟩), .int .i64 (base : Int), .int .i64 (size : Int), .int .i64 (seed : Int)] W (OpenPost W gg g bd mb base size seed boot wn L0 0 0 d))
theorem of_fresh (n : Nat) : OF [] (Dsk.fresh n) := by
  intro base size seed h1 h2 h3 h4
  refine ⟨[], Or.inr ⟨fun h => h.1 rfl, rfl⟩, fun W gg g bd mb boot wn hg => ?_⟩
  exact jnopen_any hg rfl h1 h2 h3 h4 (fun q hq => by cases hq) (fun k w hw => by simp [Jrn.secs] at hw) (Nat.zero_le _) (Jrn.nextP_nil (Jrn.rx_fresh n _)) (Or.inr ⟨rfl, rfl, Or.inl rfl⟩)
theorem of_one {n : Nat} {d : Dsk.St} {s : List UInt8} {ts : List Nat} (hu : d.up = true) (hts : ts.length = Jrn.need s.length) (hs : s.length ≤ 6000) (hag : Jrn.Agree (Jrn.rx d) 3 (Jrn.pays 7 s ts)) (hout : ∀ k, (k < 3 ∨ 3 + Jrn.need s.length ≤ k) → (Jrn.rx d k).1 = []) (hw : 3 ∈ Dsk.waits d.secs) : OF [(s, ts)] d := by
  have hU : Jrn.usedL [(s, ts)] = Jrn.need s.length := by rw [Jrn.usedL_cons]; rfl
  intro base size seed h1 h2 h3 h4
  rw [hU]
  by_cases hh : base = 3 ∧ seed = 7 ∧ Jrn.need s.length ≤ size
  · refine ⟨[(s, ts)], Or.inl ⟨⟨by simp, hh⟩, rfl⟩, fun W gg g bd mb boot wn hg => ?_⟩
    obtain ⟨rfl, rfl, h7⟩ := hh
    have hag2 : Jrn.Agree (Jrn.rx d) 3 (Jrn.secs 7 [(s, ts)]) := by
      have e : Jrn.secs 7 [(s, ts)] = Jrn.pays 7 s ts ++ [] := rfl
      rw [e, List.append_nil]
      exact hag
    refine jnopen_any hg hu h1 h2 h3 h4 (fun q hq => by rw [List.mem_singleton.1 hq]; exact ⟨hs, hts⟩) hag2 (by rw [hU]; exact h7) ?_ (Or.inr ⟨rfl, rfl, Or.inr ⟨by simp, ?_, ?_⟩⟩)
    · rw [hU]
      exact Jrn.nextP_nil (hout _ (Or.inr (Nat.le_refl _)))
    · rw [hU]; show 0 + Jrn.need s.length ≤ _; omega
    · unfold Jrn.durB
      rw [decide_eq_false_iff_not]
      intro hc
      have hp := Jrn.need_pos s.length
      have h0 := hc 0 (by show 0 < 0 + Jrn.need s.length; omega) (Nat.le_refl _)
      unfold Jrn.firmAt at h0
      have : (Dsk.waits d.secs).contains (3 + 0) = true := List.contains_iff_mem.2 hw
      rw [this] at h0
      simp at h0
  · refine ⟨[], Or.inr ⟨fun h => hh h.2, rfl⟩, fun W gg g bd mb boot wn hg => ?_⟩
    exact jnopen_any hg hu h1 h2 h3 h4 (fun q hq => by cases hq) (fun k w hw => by simp [Jrn.secs] at hw) (Nat.zero_le _) (Jrn.alone (Jrn.rx_room d) hts hs hag hout h3 hh) (Or.inr ⟨rfl, rfl, Or.inl rfl⟩)
/-- Behind the law's Append: a record, or none. -/
def XAPost (w0 w : World) (K : JK) (vs vr : Value) (n : Nat) (e : Ending) (w' : World) : Prop :=
  ∃ (c : Int) (vs' vr' : Value) (N : List Jrn.Rec) (wn : Nat) (d : Dsk.St), e = .returned (.int .i64 c) ∧ JX w0 w' K vs' vr' N wn d ∧ Mv w w' (K.all vs vr) ∧ OF N d ∧ d.secs.length = n ∧ N.length ≤ 1 ∧ (N ≠ [] → 0 < Jrn.usedL N)
theorem xappend_any {w0 w : World} {gj gg g bd mb n : Nat} {vs vr : Value} (h : JX w0 w ⟨gj, gg, g, bd, mb, 3, 60, 7, 1⟩ vs vr [] 0 (Dsk.fresh n)) (hn : 63 ≤ n) (s : List UInt8) :
    Calls Tryz.prog 16 #[.pointer (some ⟨gj, 0, none⟩), .string (S s)] w (XAPost w0 w ⟨gj, gg, g, bd, mb, 3, 60, 7, 1⟩ vs vr n) := by
  have hfl : (Dsk.fresh n).secs.length = n := List.length_replicate
  by_cases h1 : 6000 < s.length
  · have hq := jnappend_long h.jn s h1
    exact hq.mono fun e w' hq => ⟨3, vs, vr, [], 0, Dsk.fresh n, hq.1, h.below hq.2, Mv.of_below hq.2 _, of_fresh n, hfl, by decide, fun hc => absurd rfl hc⟩
  · by_cases h2 : 60 < Jrn.usedL [] + Jrn.need s.length
    · have hq := jnappend_full h.jn s (by omega) h2
      exact hq.mono fun e w' hq => ⟨6, vs, vr, [], 0, Dsk.fresh n, hq.1, h.below hq.2, Mv.of_below hq.2 _, of_fresh n, hfl, by decide, fun hc => absurd rfl hc⟩
    · have hnd : Jrn.need s.length ≤ 200 := by unfold Jrn.need; omega
      have hq := jx_append h rfl rfl (by rw [hfl]; exact hn) s (by omega) (by show Jrn.usedL [] + Jrn.need s.length ≤ 60; omega) (by omega) (by show (0 : Nat) < _; decide) (by show (0 : Nat) < _; decide)
      refine hq.mono fun e w' hq => ?_
      obtain ⟨he, vs', vr', d', q1, q2, q3, q4, q5, q6, q7, q8, q9, q10⟩ := hq
      have hU : Jrn.usedL [(s, Jrn.stamps 1 0 (Jrn.need s.length))] = Jrn.need s.length := by rw [Jrn.usedL_cons]; rfl
      refine ⟨0, vs', vr', [(s, Jrn.stamps 1 0 (Jrn.need s.length))], _, d', he, q1, q2, of_one (n := n) q3 (Jrn.stamps_len ..) (by omega) q8 ?_ ?_, by rw [q5]; exact hfl, by simp, fun _ => by rw [hU]; exact Jrn.need_pos _⟩
      · intro k hk
        rw [q9 k hk]
        exact Jrn.rx_fresh n k
      · have hp := Jrn.need_pos s.length
        exact q10 3 (Nat.le_refl _) (by show 3 < 3 + 0 + Jrn.need s.length; omega)
end Go.Proofs.YtjdklifkalnamaaGreatDoor
