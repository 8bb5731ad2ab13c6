/-
  The rounds of OctetWrites.
-/
import Derived.Test.YtclocjfnkaaenaaLaid
import Derived.Test.YtclocjfnkaaenaaLay
import Derived.Test.YtclocjfnkaaenaaWriteAll
namespace Go.Proofs.Ytclocjfnkaaenaa
open Go.RowKit
set_option linter.unusedVariables false

/-- An item's five cells. -/
def ItemAt (w : World) (B b o : Nat) (x : Item) : Prop := ∃ (A : Option Addr) (cap : Nat),
  w.cell? ⟨b, o, none⟩ = some (.int .i64 x.K) ∧ w.cell? ⟨b, o + 1, none⟩ = some (.int .i64 x.N) ∧ w.cell? ⟨b, o + 2, none⟩ = some (.string (S x.T)) ∧ w.cell? ⟨b, o + 3, none⟩ = some (.bool x.F) ∧
  w.cell? ⟨b, o + 4, none⟩ = some (.slice A x.L.length cap) ∧ SSl w B A x.L
/-- The items lie in their cells. -/
def ItemsIn (w : World) (B b off : Nat) (xs : List Item) : Prop := ∀ i (h : i < xs.length), ItemAt w B b (off + i * 5) (xs[i]'h)

/-- What is laid of the first k items. -/
def stk (xs : List Item) (k : Nat) : Wt.St := (xs.take k).foldl (fun st x => x.lay st) ([], false)
theorem stk_zero (xs : List Item) : stk xs 0 = ([], false) := by simp [stk]
theorem stk_succ (xs : List Item) (k : Nat) (h : k < xs.length) : stk xs (k + 1) = (xs[k]'h).lay (stk xs k) := by
  unfold stk
  rw [List.take_succ_eq_append_getElem h, List.foldl_append]; rfl
theorem stk_len (xs : List Item) (hx : ∀ x ∈ xs, x.bulk ≤ 1048576) : ∀ k, k ≤ xs.length → (Wt.flat (stk xs k)).length ≤ k * 16777216 := by
  intro k
  induction k with
  | zero => intro _; rw [stk_zero]; simp [Wt.flat]
  | succ k ih =>
    intro hk
    have h1 := ih (by omega)
    rw [stk_succ xs k (by omega), Item.lay_flat, List.length_append]
    have h2 := (xs[k]'(by omega)).bytes_len (hx _ (List.getElem_mem _))
    omega

def AllPost (w : World) (L : List UInt8) (b : Bool) (r : Ending) (w' : World) : Prop := r = .returned (.tuple #[.string (S L), .bool b]) ∧ Below w.heap.size w w'
theorem all_any (g : Nat) (st : Wt.St) (sb : Bool) (w : World) (h : Wr w g st) (hcap : (Wt.flat st).length ≤ 281474976710656) (hb : st.2 = sb) :
    Calls Try.prog 7 #[.pointer (some ⟨g, 0, none⟩)] w (AllPost w (if sb then [] else Wt.flat st) (!sb)) := by
  cases sb with
  | true => exact (all_bad g st w h hb).mono fun e w' ⟨he, hw⟩ => ⟨he, by rw [← hw]; exact Below.refl _ _⟩
  | false => exact (all_good g st w h hb hcap).mono fun e w' ⟨he, hw⟩ => ⟨he, hw⟩

set_option maxRecDepth 100000 in
set_option maxHeartbeats 4000000 in
theorem octetWrites_rounds (xs : List Item) (b off cap : Nat) (w : World) (hlen : xs.length ≤ 1048576) (hbulk : ∀ x ∈ xs, x.bulk ≤ 1048576) (hin : ItemsIn w w.heap.size b off xs) (hb : b < w.heap.size) :
    Calls Try.prog 3 #[.slice (some ⟨b, off, none⟩) xs.length cap] w fun r w' => r = .returned (.bool true) ∧ Below w.heap.size w w' := by
  have hst0 := stk_zero xs
  have HBULK := Lib.hid hbulk
  have HIN := Lib.hid hin
  have HLEN := Lib.hid (stk_len xs hbulk); clear hbulk hin
  go_enter Try.func3, Try.ntmps3
  go_wp2_with fail
  go_loopw [4, 5, 6] (fun v4 v5 v6 wr => ∃ (k : Nat) (st : Wt.St) (ok : Bool), k ≤ xs.length ∧ k ≤ 40 ∧ Hid (st = stk xs k) ∧ v6 = .int .i64 k ∧ v4 = .string (S (Wt.flat st)) ∧ v5 = .bool ok ∧ Hid (st.2 = !ok) ∧ Wr wr w.heap.size st ∧ Below w.heap.size w wr)
    (fun _ _ v6 _ => 40 - (intOf v6).toNat)
  case atStart =>
    exact ⟨0, ([], false), true, Nat.zero_le _, by omega, Lib.hid hst0.symm, rfl, rfl, rfl, Lib.hid rfl, ⟨none, Has.made _ _ _, rfl⟩, (Below.refl _ _).alloc (Nat.le_refl _) _⟩
  case round =>
    obtain ⟨k, st, ok, hk, hk40, HST, rfl, rfl, rfl, HSB, hwk, hbk⟩ := hrel
    by_cases hlt : k < xs.length
    · by_cases h40 : k < 40
      · have hflen : (Wt.flat st).length ≤ 671088640 := by
          have := HLEN.out k hk; rw [HST.out]; omega
        obtain ⟨A, cp, c0, c1, c2, c3, c4, hsl⟩ := HIN.out k hlt
        have hxb := HBULK.out (xs[k]'hlt) (List.getElem_mem hlt)
        have hnx := stk_succ xs k hlt
        rw [← HST.out] at hnx
        generalize (xs[k]'hlt) = x at c0 c1 c2 c3 c4 hsl hxb hnx
        replace c0 := (hbk.cell (p := ⟨b, off + k * 5, none⟩) hb).trans c0
        replace c1 := (hbk.cell (p := ⟨b, off + k * 5 + 1, none⟩) hb).trans c1
        replace c2 := (hbk.cell (p := ⟨b, off + k * 5 + 2, none⟩) hb).trans c2
        replace c3 := (hbk.cell (p := ⟨b, off + k * 5 + 3, none⟩) hb).trans c3
        replace c4 := (hbk.cell (p := ⟨b, off + k * 5 + 4, none⟩) hb).trans c4
        have hk0 : (0 : Int) ≤ (k : Int) := by omega
        have hki : (k : Int) < (xs.length : Int) := by omega
        have hIV : ItemV wr w.heap.size x (.agg #[.int .i64 x.K, .int .i64 x.N, .string (S x.T), .bool x.F, .slice A x.L.length cp]) := ⟨A, cp, rfl, hsl.below hbk⟩
        have hLd := laid_any x w.heap.size _ wr hIV hbk.size hxb
        have hLy := fun W (hW : Wr W w.heap.size st) (hB : Below w.heap.size wr W) => lay_any x w.heap.size w.heap.size _ st W (hIV.below hB) hW (Nat.le_refl _) (by omega) hxb
        have hfl := Item.lay_flat x st
        have hbd := Item.lay_bad x st hxb
        rw [HSB.out] at hbd
        have hbl := Item.bytes_len x hxb
        have hfl' : (Wt.flat (x.lay st)).length ≤ 281474976710656 := by rw [hfl, List.length_append]; omega
        generalize x.lay st = st' at hLy hnx hfl hbd hfl'
        generalize x.bytes = by' at hLd hfl hbl
        generalize x.ok = ok' at hLd hbd
        have HLd := Lib.hid hLd; clear hLd
        have HLy := Lib.hid hLy; clear hLy
        have HNX := Lib.hid hnx; clear hnx
        have HFL := Lib.hid hfl; clear hfl
        have HFL2 := Lib.hid hfl'; clear hfl'
        have hlim : ¬ 9223372036854775807 < (Wt.flat st).length + by'.length := by omega
        have hblt : b < wr.heap.size := Nat.lt_of_lt_of_le hb hbk.size
        clear hIV hxb
        go_wp2_with fail
        refine (HLd.out).mono ?_
        rintro r1 w1 ⟨rfl, hb1⟩
        replace c0 := (hb1.cell (p := ⟨b, off + k * 5, none⟩) hblt).trans c0
        replace c1 := (hb1.cell (p := ⟨b, off + k * 5 + 1, none⟩) hblt).trans c1
        replace c2 := (hb1.cell (p := ⟨b, off + k * 5 + 2, none⟩) hblt).trans c2
        replace c3 := (hb1.cell (p := ⟨b, off + k * 5 + 3, none⟩) hblt).trans c3
        replace c4 := (hb1.cell (p := ⟨b, off + k * 5 + 4, none⟩) hblt).trans c4
        go_wp2_with fail
        refine (HLy.out _ (hwk.below hb1 (Nat.le_refl _)) (hb1.mono hbk.size)).mono ?_
        rintro r2 w2 ⟨rfl, hw2, ho2⟩
        have hb2 : Below w.heap.size w w2 := ho2.below (hbk.trans (hb1.mono hbk.size)) (Nat.le_trans hbk.size hb1.size) (Nat.le_refl _)
        clear c0 c1 c2 c3 c4 hsl
        have hk1 : k + 1 ≤ 40 := by omega
        cases ok <;> cases ok' <;> (
          have HBD := Lib.hid (show st'.2 = _ from hbd)
          have hAll := all_any _ _ _ _ hw2 HFL2.out HBD.out
          have hFL := HFL.out
          simp only [Bool.not_true, Bool.not_false, Bool.or_false, Bool.or_true, Bool.false_or, Bool.true_or, if_true, if_false, Bool.false_eq_true, hFL] at hAll
          clear hFL
          have HAll := Lib.hid hAll
          clear hAll hbd
          go_wp2_with fail
          refine (HAll.out).mono ?_
          rintro r3 w3 ⟨rfl, hb3⟩
          have hb4 := hb2.trans (hb3.mono hb2.size)
          have hw4 := hw2.below hb3 (Nat.le_refl _)
          go_wp2_with fail
          go_roundw
          case rel => exact ⟨k + 1, st', _, by omega, hk1, Lib.hid HNX.out.symm, by go_num, by rw [HFL.out], rfl, Lib.hid HBD.out, hw4, hb4⟩
          case measure => simp [intOf]; omega)
      · have hke : k = 40 := by omega
        subst hke
        have hki : ((40 : Nat) : Int) < (xs.length : Int) := by omega
        go_wp2_with fail
        refine (awake_any _).mono ?_
        rintro r5 w5 ⟨rfl, hb5⟩
        go_wp2_with fail
        go_ret
        exact ⟨rfl, hbk.trans (hb5.mono hbk.size)⟩
    · have hke : k = xs.length := by omega
      subst hke
      go_wp2_with fail
      refine (awake_any _).mono ?_
      rintro r5 w5 ⟨rfl, hb5⟩
      go_wp2_with fail
      go_ret
      exact ⟨rfl, hbk.trans (hb5.mono hbk.size)⟩

set_option maxHeartbeats 1000000 in
theorem octetWrites_empty (A : Option Addr) (cap : Nat) (w : World) :
    Calls Try.prog 3 #[.slice A 0 cap] w fun r w' => r = .returned (.bool true) ∧ Below w.heap.size w w' := by
  have hbk : Below w.heap.size w (w.alloc (.cells #[.pointer none, .int .i64 0, .bool false] 26)) := (Below.refl _ _).alloc (Nat.le_refl _) _
  go_enter Try.func3, Try.ntmps3
  go_wp2_with fail
  refine wp_loop_rounds 1 ?_
  rw [rounds_succ]
  go_wp2_with fail
  refine (awake_any _).mono ?_
  rintro r5 w5 ⟨rfl, hb5⟩
  go_wp2_with fail
  go_ret
  exact ⟨rfl, hbk.trans (hb5.mono hbk.size)⟩
end Go.Proofs.Ytclocjfnkaaenaa
