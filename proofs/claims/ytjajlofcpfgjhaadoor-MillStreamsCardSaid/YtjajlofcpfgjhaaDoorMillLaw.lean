/-
  The contracts of the third layer's statements' own few, right, sum.
-/
import Derived.Test.YtjajlofcpfgjhaaDoorMillTag
import Derived.Test.YtjajlofcpfgjhaaDoorMillAwake
namespace Go.Proofs.YtjajlofcpfgjhaaDoor
open Go.RowKit
set_option linter.unusedVariables false

/-- A slice that reads as entries. -/
def Ents (w : World) (A : Option Addr) (l : List Mill.En) : Prop := l ≠ [] → ∃ b off, A = some ⟨b, off, none⟩ ∧ ∀ (i : Nat) (h : i < l.length),
  w.cell? ⟨b, off + i * 4, none⟩ = some (.bool (l[i]'h).tag) ∧ w.cell? ⟨b, off + i * 4 + 1, none⟩ = some (.string (S (l[i]'h).key)) ∧ w.cell? ⟨b, off + i * 4 + 2, none⟩ = some (.string (S (l[i]'h).text)) ∧ w.cell? ⟨b, off + i * 4 + 3, none⟩ = some (.string (S (l[i]'h).out))
theorem Ents.below {w w' : World} {A : Option Addr} {l : List Mill.En} (h : Ents w A l) (hb : Below w.heap.size w w') : Ents w' A l := fun hl => by
  obtain ⟨b, off, hA, hc⟩ := h hl
  have hlt : b < w.heap.size := World.block_lt_of_cell? w ⟨b, off + 0 * 4, none⟩ (hc 0 (List.length_pos_iff.2 hl)).1
  refine ⟨b, off, hA, fun i hi => ?_⟩
  obtain ⟨h0, h1, h2, h3⟩ := hc i hi
  exact ⟨(hb.cell (p := ⟨b, _, none⟩) hlt).trans h0, (hb.cell (p := ⟨b, _, none⟩) hlt).trans h1, (hb.cell (p := ⟨b, _, none⟩) hlt).trans h2, (hb.cell (p := ⟨b, _, none⟩) hlt).trans h3⟩
theorem Ents.take {w : World} {A : Option Addr} {l : List Mill.En} (h : Ents w A l) (k : Nat) : Ents w A (l.take k) := fun hl => by
  obtain ⟨b, off, hA, hc⟩ := h (by rintro rfl; simp at hl)
  refine ⟨b, off, hA, fun i hi => ?_⟩
  have hi' : i < l.length := by rw [List.length_take] at hi; omega
  rw [List.getElem_take]
  exact hc i hi'
/-- The bounds of what is read. -/
def Mill.fit (l : List Mill.En) : Prop := ∀ e ∈ l, e.key.length ≤ 1000000000000000 ∧ e.text.length ≤ 1000000000000000

theorem few_any (A : Option Addr) (l : List Mill.En) (cap : Nat) (hc : l.length ≤ cap) (hmax : cap ≤ 9223372036854775807) (w : World) :
    Calls Tryd.prog 12 #[.slice A l.length cap] w fun e w' => e = .returned (.slice A (l.take 10).length cap) ∧ w = w' := by
  by_cases h : 10 < l.length
  · have h1 : (10 : Int) < (l.length : Int) := by omega
    have h2 : (l.take 10).length = 10 := by rw [List.length_take]; omega
    have h3 : (10 : Int) ≤ (cap : Int) := by omega
    rw [h2]
    go_enter Tryd.func12, Tryd.ntmps12
    go_wp2_with fail
    go_ret
    exact ⟨rfl, rfl⟩
  · have h1 : ¬ (10 : Int) < (l.length : Int) := by omega
    have h2 : (l.take 10).length = l.length := by rw [List.length_take]; omega
    rw [h2]
    go_enter Tryd.func12, Tryd.ntmps12
    go_wp2_with fail
    go_ret
    exact ⟨rfl, rfl⟩

theorem right_take (l : List Mill.En) (i : Nat) (h : i < l.length) : Mill.right (l.take (i + 1)) = (Mill.right (l.take i) && decide ((l[i]'h).out.length = 32)) := by
  unfold Mill.right
  rw [List.take_succ_eq_append_getElem h, List.all_append]; simp
theorem right_bad (l : List Mill.En) (i : Nat) (h : i < l.length) (hb : (l[i]'h).out.length ≠ 32) : Mill.right l = false := by
  unfold Mill.right
  rw [List.all_eq_false]
  exact ⟨l[i], List.getElem_mem h, by simpa using hb⟩

set_option maxHeartbeats 2000000 in
theorem right_any (A : Option Addr) (l : List Mill.En) (cap : Nat) (hlen : l.length ≤ 1000000) (w : World) (hE : Ents w A l) :
    Calls Tryd.prog 14 #[.slice A l.length cap] w (SamePost w (.bool (Mill.right l))) := by
  by_cases hl : l = []
  · subst hl
    have hr : Mill.right [] = true := rfl
    rw [hr]
    go_enter Tryd.func14, Tryd.ntmps14
    go_wp2_with fail
    refine wp_loop_rounds 1 ?_
    rw [rounds_succ]
    go_wp2_with fail
    go_ret
    exact ⟨rfl, rfl⟩
  · obtain ⟨b, off, rfl, hc⟩ := hE hl
    clear hl
    have HC := Lib.hid hc; clear hc
    go_enter Tryd.func14, Tryd.ntmps14
    go_wp2_with fail
    go_loop [3] (fun v3 => ∃ i : Nat, i ≤ l.length ∧ v3 = .int .i64 i ∧ Mill.right (l.take i) = true) (fun v3 => l.length - (intOf v3).toNat)
    case atStart => exact ⟨0, Nat.zero_le _, rfl, rfl⟩
    case round =>
      obtain ⟨i, hi, rfl, hr⟩ := hrel
      by_cases hlt : i < l.length
      · have c3 := (HC.out i hlt).2.2.2
        have hi0 : (0 : Int) ≤ (i : Int) := by omega
        have hii : (i : Int) < (l.length : Int) := by omega
        have hrt := right_take l i hlt
        have hrb := right_bad l i hlt
        generalize (l[i]'hlt).out = o at c3 hrt hrb
        by_cases h32 : o.length = 32
        · have hq : ((o.length : Int) != 32) = false := by rw [h32]; rfl
          have hq2 : ((o.length : Int) == 32) = true := by rw [h32]; rfl
          rw [hr, h32] at hrt
          clear hrb h32
          go_wp2_with fail
          go_round
          case rel => exact ⟨i + 1, by omega, by go_num, by simpa using hrt⟩
          case measure => simp [intOf]; omega
        · have hq : ((o.length : Int) != 32) = true := by simp; omega
          have hq2 : ((o.length : Int) == 32) = false := by simp; omega
          have HRR := Lib.hid (hrb h32)
          clear hrb hrt h32
          go_wp2_with fail
          go_ret
          rw [HRR.out]
          exact ⟨rfl, rfl⟩
      · have hie : i = l.length := by omega
        have hii : ¬ (i : Int) < (l.length : Int) := by omega
        rw [hie, List.take_length] at hr
        have HR := Lib.hid hr; clear hr
        go_wp2_with fail
        go_ret
        rw [HR.out]
        exact ⟨rfl, rfl⟩

theorem ask_more (l : List Mill.En) (x : Mill.In) (k : Nat) (o : List UInt8) (h : Mill.ask (l.take k) x = some o) : Mill.ask l x = some o := by
  unfold Mill.ask at *
  have e : l = l.take k ++ l.drop k := (List.take_append_drop k l).symm
  rw [e, List.find?_append]
  cases hf : (l.take k).find? (fun e => e.inp = x) with
  | none => rw [hf] at h; simp at h
  | some y => rw [hf] at h; simpa using h
theorem ask_take (l : List Mill.En) (x : Mill.In) (i : Nat) (hi : i < l.length) (h : Mill.ask (l.take i) x = none) : Mill.ask (l.take (i + 1)) x = if (l[i]'hi).inp = x then some (l[i]'hi).out else none := by
  rw [List.take_succ_eq_append_getElem hi, Mill.ask_snoc, h]; simp

set_option maxHeartbeats 4000000 in
theorem lawSum_any (A : Option Addr) (l : List Mill.En) (cap : Nat) (s : List UInt8) (hlen : l.length ≤ 1000000) (hs : s.length ≤ 5000000000000000) (w : World) (hE : Ents w A l) (hT : Tabs w) :
    Calls Tryd.prog 16 #[.slice A l.length cap, .string (S s)] w (TextPost w (Mill.hash l s)) := by
  have hS := sum_any s w hs hT
  unfold Mill.hash
  generalize Sha.sum s = x at hS ⊢
  have HS := Lib.hid hS; clear hS
  by_cases hl : l = []
  · subst hl
    have hr : (Mill.ask [] (false, [], s)).getD x = x := rfl
    rw [hr]
    go_enter Tryd.func16, Tryd.ntmps16
    go_wp2_with fail
    refine wp_loop_rounds 1 ?_
    rw [rounds_succ]
    go_wp2_with fail
    refine HS.out.mono ?_
    rintro r1 w1 ⟨rfl, hb1⟩
    go_wp2_with fail
    go_ret
    exact ⟨rfl, hb1⟩
  · obtain ⟨b, off, rfl, hc⟩ := hE hl
    clear hl
    have HC := Lib.hid hc; clear hc
    go_enter Tryd.func16, Tryd.ntmps16
    go_wp2_with fail
    go_loop [5] (fun v5 => ∃ i : Nat, i ≤ l.length ∧ v5 = .int .i64 i ∧ Mill.ask (l.take i) (false, [], s) = none) (fun v5 => l.length - (intOf v5).toNat)
    case atStart => exact ⟨0, Nat.zero_le _, rfl, rfl⟩
    case round =>
      obtain ⟨i, hi, rfl, hr⟩ := hrel
      by_cases hlt : i < l.length
      · obtain ⟨c0, _, c2, c3⟩ := HC.out i hlt
        have hi0 : (0 : Int) ≤ (i : Int) := by omega
        have hii : (i : Int) < (l.length : Int) := by omega
        have hat := ask_take l (false, [], s) i hlt hr
        have ham := ask_more l (false, [], s) (i + 1)
        by_cases hhit : (l[i]'hlt).tag = false ∧ (l[i]'hlt).text = s
        · have hinp : (l[i]'hlt).inp = (false, [], s) := by unfold Mill.En.inp; rw [hhit.1, hhit.2]; rfl
          rw [if_pos hinp] at hat
          have hfin := ham _ hat
          rw [hhit.1] at c0
          have hq : ((l[i]'hlt).text == s) = true := by rw [hhit.2]; simp
          generalize (l[i]'hlt).out = o at c3 hfin
          generalize (l[i]'hlt).text = te at c2 hq
          clear hat ham hinp hhit
          have HF := Lib.hid hfin; clear hfin
          go_wp2_with fail
          go_ret
          rw [HF.out]
          exact ⟨rfl, Below.refl _ _⟩
        · have hinp : ¬ (l[i]'hlt).inp = (false, [], s) := by
            unfold Mill.En.inp
            intro e
            injection e with e1 e2
            injection e2 with _ e3
            exact hhit ⟨e1, e3⟩
          rw [if_neg hinp] at hat
          cases htag : (l[i]'hlt).tag with
          | true =>
            rw [htag] at c0
            clear ham hinp hhit c2 c3 htag
            go_wp2_with fail
            go_round
            case rel => exact ⟨i + 1, by omega, by go_num, hat⟩
            case measure => simp [intOf]; omega
          | false =>
            rw [htag] at c0
            have hq : ((l[i]'hlt).text == s) = false := by
              rw [beq_eq_false_iff_ne]; exact fun e => hhit ⟨htag, e⟩
            generalize (l[i]'hlt).text = te at c2 hq
            clear ham hinp hhit c3 htag
            go_wp2_with fail
            go_round
            case rel => exact ⟨i + 1, by omega, by go_num, hat⟩
            case measure => simp [intOf]; omega
      · have hie : i = l.length := by omega
        have hii : ¬ (i : Int) < (l.length : Int) := by omega
        rw [hie, List.take_length] at hr
        have HR := Lib.hid hr; clear hr
        go_wp2_with fail
        refine HS.out.mono ?_
        rintro r1 w1 ⟨rfl, hb1⟩
        go_wp2_with fail
        go_ret
        rw [HR.out]
        exact ⟨rfl, hb1⟩
end Go.Proofs.YtjajlofcpfgjhaaDoor
