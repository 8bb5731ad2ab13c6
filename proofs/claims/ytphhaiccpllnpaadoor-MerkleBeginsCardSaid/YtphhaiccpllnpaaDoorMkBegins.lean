/-
  The program's Grown, told whole between roots; who is believed to have grown out of others has twins.
-/
import Derived.Test.YtphhaiccpllnpaaDoorMkTwins
import Derived.Test.YtphhaiccpllnpaaDoorMkGrownE
namespace Go.Proofs.YtphhaiccpllnpaaDoor
open Go.RowKit
set_option linter.unusedVariables false

namespace Mk
/-- What is known where a growth is believed. -/
def Grew (l : List Mill.En) (a n : Nat) (ra rn : T) (p ts : List T) : Prop := a ≤ n ∧ (1 ≤ a → Sums p ∧ p.length = long a n true ∧ (both l a n true ra p).1 = ra ∧ (both l a n true ra p).2 = rn ∧ ts = bothAsks l a n true ra p)
end Mk
theorem mGrown_any (g nb : Nat) (tv : Option Nat) (l : List Mill.En) (hl : Mill.right l = true) (a n : Nat) (ra rn : List UInt8) (p : List (List UInt8)) (A : Option Addr) (cap : Nat) (st : Mill.St) (w : World) (hn : n ≤ 65536) (hr : ra.length = 32 ∧ rn.length = 32) (hcap : p.length ≤ cap) (hcm : cap ≤ 9223372036854775807)
    (hrow : RowS w [g, nb] A p) (hsum : st.sums ≤ 1000000) (hm : MkW w g nb tv l st) :
    Calls Tryd.prog 30 #[.pointer (some ⟨g, 0, none⟩), .agg #[.int .i64 (a : Int), .string (S ra)], .agg #[.int .i64 (n : Int), .string (S rn)], .slice A p.length cap] w
      fun e w' => ∃ (c : Int) (ts : List (List UInt8)), e = .returned (.int .i64 c) ∧ ts.length ≤ 40 ∧ (c = 0 → Mk.Grew l a n ra rn p ts) ∧ MkW w' g nb tv l (Mill.steps l ts st) ∧ Mv w w' [g, nb] := by
  have hrow0 : RowS w [] A p := fun hl => by
    obtain ⟨b, off, hA, hb, hn, hr⟩ := hrow hl
    exact ⟨b, off, hA, hb, (by simp), hr⟩
  by_cases han : a ≤ n
  · by_cases hp : p.length ≤ 17 ∧ Mk.allSums p = true
    · by_cases h0 : a = 0
      · subst h0
        exact (grown_none g nb tv l hl (n : Int) ra rn p A cap st w (by omega) (by omega) hr hcap hcm hrow hp hsum hm).mono fun e w' ⟨he, hm', hv⟩ => ⟨_, [[]], he, by decide, fun _ => ⟨Nat.zero_le _, fun h => by omega⟩, hm', hv⟩
      · by_cases hlen : p.length = Mk.long a n true
        · refine (grown_lead g nb tv l hl a n ra rn p A cap st w (by omega) han hn hr hcap hcm hrow hp hlen hsum hm).mono fun e w' ⟨he, hm', hv⟩ => ⟨_, _, he, ?_, fun hc => ⟨han, fun _ => ?_⟩, hm', hv⟩
          · have := Mk.bothAsks_len l p.length a n true ra p rfl
            omega
          · unfold leadC at hc
            by_cases h : (Mk.both l a n true ra p).1 = ra ∧ (Mk.both l a n true ra p).2 = rn
            · exact ⟨(Mk.allSums_iff p).1 hp.2, hlen, h.1, h.2, rfl⟩
            · rw [if_neg h] at hc; exact absurd hc (by decide)
        · exact (grown_len g a n ra rn p A cap w (by omega) han hn hr hcap hcm hrow0 hp hlen).mono fun e w' ⟨he, hb⟩ => ⟨20, [], he, Nat.zero_le _, fun h => absurd h (by decide), hm.below hb, Mv.of_below hb _⟩
    · exact (grown_proof g (a : Int) (n : Int) ra rn p A cap w (by omega) (by omega) (by omega) hr hcap hcm hrow0 hp).mono fun e w' ⟨he, hb⟩ => ⟨20, [], he, Nat.zero_le _, fun h => absurd h (by decide), hm.below hb, Mv.of_below hb _⟩
  · exact (grown_size g (a : Int) (n : Int) ra rn p A cap w (by omega)).mono fun e w' ⟨he, hb⟩ => ⟨21, [], he, Nat.zero_le _, fun h => absurd h (by decide), hm.below hb, Mv.of_below hb _⟩

namespace Mk
theorem begins_fin (l : List Mill.En) (hr : Mill.right l = true) (A B p ts : List T) (hA : Sums A) (hB : Sums B) (h1 : A.length ≤ 20) (h2 : B.length ≤ 20) (ht : ts.length ≤ 40) (h : Grew l A.length B.length (root l A) (root l B) p ts) :
    A.length ≤ B.length ∧ (decide (A = B.take A.length) = true ∨ (decide (A = B.take A.length) = false ∧ (Mill.steps l ts (Mill.steps l (rootAsks l B) (Mill.steps l (rootAsks l A) Mill.fresh))).met = true ∧
      ((Mill.steps l ts (Mill.steps l (rootAsks l B) (Mill.steps l (rootAsks l A) Mill.fresh))).a == (Mill.steps l ts (Mill.steps l (rootAsks l B) (Mill.steps l (rootAsks l A) Mill.fresh))).b) = false)) := by
  obtain ⟨hab, hg⟩ := h
  refine ⟨hab, ?_⟩
  by_cases he : A = B.take A.length
  · exact Or.inl (decide_eq_true he)
  · refine Or.inr ⟨decide_eq_false he, ?_⟩
    have hpos : 1 ≤ A.length := by
      rcases Nat.eq_zero_or_pos A.length with h0 | h0
      · exact absurd (by rw [h0, List.take_zero]; exact List.length_eq_zero_iff.mp h0) he
      · exact h0
    obtain ⟨sp, hp, e1, e2, rfl⟩ := hg hpos
    have ka := (rootAsks_len l A.length A rfl).1
    have kb := (rootAsks_len l B.length B rfl).1
    rcases both_begins l hr (rootAsks l A ++ rootAsks l B ++ bothAsks l A.length B.length true (root l A) p) B.length A.length true (root l A) p A B hpos hab rfl rfl hA hB sp hp (fun _ => root_len l hr A hA)
      (fun x hx => List.mem_append_left _ (List.mem_append_left _ hx)) (fun x hx => List.mem_append_left _ (List.mem_append_right _ hx)) (fun x hx => List.mem_append_right _ hx) e1 e2 with h | hc
    · exact absurd h he
    · rw [← Mill.steps_app, ← Mill.steps_app, ← List.append_assoc]
      obtain ⟨m1, m2⟩ := Mill.twins_coll l _ (by rw [List.length_append, List.length_append]; omega) hc
      exact ⟨m1, by simpa using m2⟩
end Mk
end Go.Proofs.YtphhaiccpllnpaaDoor
