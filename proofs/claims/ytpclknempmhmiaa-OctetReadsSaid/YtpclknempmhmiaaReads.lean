/-
  The contract of one step of both readers, whatever its kind; and the rounds of OctetReads.
-/
import Derived.Test.YtpclknempmhmiaaStepB
import Derived.Test.YtpclknempmhmiaaStepC
namespace Go.Proofs.Ytpclknempmhmiaa
open Go.RowKit

def R.step (K N M : Int) (st : R.St) : R.St :=
  if K = 0 then (R.num N st).2 else if K = 1 then (R.text N st).2 else if K = 2 then (R.flag st).2 else if K = 3 then (R.next N st).2 else if K = 4 then (R.texts N M st).2 else if K = 5 then R.fail N st else R.fin st

theorem R.flag_rest (st : R.St) : (R.flag st).2.1.length ≤ st.1.length := by
  have h := R.next_rest 1 st
  have hD : R.flag st = match R.next 1 st with
    | ([], st1) => (false, st1)
    | (c :: _, st1) => (c.toNat == 1, if 1 < c.toNat then R.fail 4 st1 else st1) := rfl
  rw [hD]
  generalize R.next 1 st = x at h ⊢
  obtain ⟨l, st1⟩ := x
  cases l with
  | nil => exact h
  | cons c l =>
    show ((if 1 < c.toNat then R.fail 4 st1 else st1 : R.St)).1.length ≤ _
    split <;> exact h
theorem R.textsK_rest : ∀ (k : Nat) (m : Int) (st : R.St) (acc : List (List UInt8)), (R.textsK k m st acc).2.1.length ≤ st.1.length := by
  intro k
  induction k with
  | zero => intro m st acc; exact Nat.le_refl _
  | succ k ih =>
    intro m st acc
    have h2 : (R.text m st).2.1.length ≤ st.1.length := Nat.le_trans (R.next_rest _ _) (R.num_rest m st)
    unfold R.textsK
    split
    · exact Nat.le_trans (ih m _ _) h2
    · exact h2
theorem R.step_rest (K N M : Int) (st : R.St) : (R.step K N M st).1.length ≤ st.1.length := by
  unfold R.step
  split
  · exact R.num_rest N st
  · split
    · exact Nat.le_trans (R.next_rest _ _) (R.num_rest N st)
    · split
      · exact R.flag_rest st
      · split
        · exact R.next_rest N st
        · split
          · exact Nat.le_trans (R.textsK_rest _ _ _ _) (R.num_rest N st)
          · split
            · exact Nat.le_refl _
            · unfold R.fin; split <;> exact Nat.le_refl _

theorem step_any (K N M : Int) (g b p : Nat) (st : R.St) (w : World) (hr : Rd w g b st) (hp : Pl w p st) (hgp : g ≠ p) (hbp : b ≠ p) (hblt : b < w.heap.size) (hcap : st.1.length ≤ 4000000000) :
    Calls Try.prog 24 #[.pointer (some ⟨g, 0, none⟩), .pointer (some ⟨p, 0, none⟩), .agg #[.int .i64 K, .int .i64 N, .int .i64 M]] w (StepPost w g b p (R.step K N M st)) := by
  unfold R.step
  by_cases h0 : K = 0
  · subst h0; exact step_num N M g b p st w hr hp hgp hbp hblt hcap
  · rw [if_neg h0]
    by_cases h1 : K = 1
    · subst h1; exact step_text N M g b p st w hr hp hgp hbp hblt hcap
    · rw [if_neg h1]
      by_cases h2 : K = 2
      · subst h2; exact step_flag N M g b p st w hr hp hgp hbp hblt hcap
      · rw [if_neg h2]
        by_cases h3 : K = 3
        · subst h3; exact step_raw N M g b p st w hr hp hgp hbp hblt hcap
        · rw [if_neg h3]
          by_cases h4 : K = 4
          · subst h4; exact step_texts N M g b p st w hr hp hgp hbp hblt hcap
          · rw [if_neg h4]
            by_cases h5 : K = 5
            · subst h5; exact step_fail N M g b p st w hr hp hgp hbp hblt hcap
            · rw [if_neg h5]
              exact step_end N M K g b p st w hr hp hgp hbp hblt hcap (by simpa using h0) (by simpa using h1) (by simpa using h2) (by simpa using h3) (by simpa using h4) (by simpa using h5)

/-- A script's operations lie in their cells. -/
def OpsIn (w : World) (b off len : Nat) : Prop := ∀ i, i < len → ∃ K N M : Int, w.cell? ⟨b, off + i * 3, none⟩ = some (.int .i64 K) ∧ w.cell? ⟨b, off + i * 3 + 1, none⟩ = some (.int .i64 N) ∧ w.cell? ⟨b, off + i * 3 + 2, none⟩ = some (.int .i64 M)
theorem OpsIn.below {w w' : World} {b off len B : Nat} (h : OpsIn w b off len) (hb : Below B w w') (hB : b < B) : OpsIn w' b off len := fun i hi => by
  obtain ⟨K, N, M, h1, h2, h3⟩ := h i hi
  exact ⟨K, N, M, (hb.cell (p := ⟨b, _, none⟩) hB).trans h1, (hb.cell (p := ⟨b, _, none⟩) hB).trans h2, (hb.cell (p := ⟨b, _, none⟩) hB).trans h3⟩

set_option maxRecDepth 100000 in
set_option maxHeartbeats 4000000 in
theorem octetReads_rounds (l : List UInt8) (sb off len cap : Nat) (w : World) (hl : l.length ≤ 140737488351232) (hlen : len ≤ 140737488351232) (hops : OpsIn w sb off len) (hsb : sb < w.heap.size) :
    Calls Try.prog 6 #[.string (S l), .slice (some ⟨sb, off, none⟩) len cap] w fun r w' => r = .returned (.bool true) ∧ Below w.heap.size w w' := by
  by_cases hbig : 1000 < l.length
  · have hsmall : (l.take 1000).length ≤ 1000 := by rw [List.length_take]; omega
    have hbig' : (1000 : Int) < (l.length : Int) := by omega
    go_enter Try.func6, Try.ntmps6
    go_wp2_with fail
    generalize l.take 1000 = l' at hsmall ⊢
    refine (read_any l' _).mono ?_
    rintro r w1 ⟨rfl, hr1, hb1, hs1⟩
    have HS1 := Lib.hid hs1; clear hs1
    go_wp2_with fail
    have hp2 : Pl (w1.alloc (.cells #[.string (S l'), .int .i64 0] 49)) w1.heap.size (l', 0) := Has.made _ _ _
    have hr2 := hr1.alloc (.cells #[.string (S l'), .int .i64 0] 49)
    have hb2 : Below w.heap.size w (w1.alloc (.cells #[.string (S l'), .int .i64 0] 49)) := hb1.alloc (by have := HS1.out; omega) _
    go_loopw [7] (fun v7 wr => ∃ (k : Nat) (st : R.St), k ≤ len ∧ k ≤ 40 ∧ v7 = .int .i64 k ∧ Rd wr (w.heap.size + 1) w.heap.size st ∧ Pl wr w1.heap.size st ∧ Below w.heap.size w wr ∧ st.1.length ≤ 1000 ∧ w1.heap.size < wr.heap.size) (fun v7 _ => 40 - (intOf v7).toNat)
    case atStart => exact ⟨0, (l', 0), Nat.zero_le _, by omega, rfl, hr2, hp2, hb2, hsmall, by simp⟩
    case round =>
      obtain ⟨k, st, hk, hk40, rfl, hrk, hpk, hbk, hstk, hszk⟩ := hrel
      have hgp : w.heap.size + 1 ≠ w1.heap.size := by have := HS1.out; omega
      have hbp : w.heap.size ≠ w1.heap.size := by have := HS1.out; omega
      by_cases hlt : k < len
      · by_cases h40 : k < 40
        · obtain ⟨K, N, M, h1, h2, h3⟩ := hops.below hbk hsb k hlt
          have hk0 : (0 : Int) ≤ (k : Int) := by omega
          have hki : (k : Int) < (len : Int) := by omega
          have hS := fun W (hr : Rd W (w.heap.size + 1) w.heap.size st) (hp : Pl W w1.heap.size st) (hb : w.heap.size < W.heap.size) => step_any K N M (w.heap.size + 1) w.heap.size w1.heap.size st W hr hp hgp hbp hb (by omega)
          have hst' := R.step_rest K N M st
          generalize R.step K N M st = st' at hS hst'
          have HS := Lib.hid hS; clear hS
          have hblt : w.heap.size < wr.heap.size := by have := HS1.out; omega
          have hst1000 : st'.1.length ≤ 1000 := by omega
          have hk1 : k + 1 ≤ 40 := by omega
          go_wp2_with fail
          go_region_with (first
            | (go_at_call 24; refine (HS.out _ hrk.drew hpk.drew hblt).mono ?_; rintro e w2 ⟨rfl, hr3, hp3, h23⟩; have hq1 : w2.cell? ⟨w1.heap.size, 1, none⟩ = some (.int .i64 st'.2) := hp3.cell 1)
            | (go_at_call 25; refine (rerr_rd _ _ _ hr3).mono ?_; rintro e w3 ⟨rfl, rfl⟩))
          all_goals
            have hb4 : Below w.heap.size w w2 := h23.below hbk.drew hbk.size (by omega) (by have := HS1.out; omega)
            have hsz4 : w1.heap.size < w2.heap.size := Nat.lt_of_lt_of_le hszk h23.size
            have hq0 : w2.cell? ⟨w1.heap.size, 0, none⟩ = some (.string (S st'.1)) := hp3.cell 0
            have hLd := left_rd _ _ _ _ hr3
            clear h23 hrk hpk hbk HS h1 h2 h3
            by_cases he : st'.2 = 0
            · have heb : (st'.2 != 0) = false := by simpa using he
              have hLv : R.left st' = (st'.1.length : Int) := by unfold R.left; rw [if_neg (by simpa using he)]
              rw [hLv] at hLd
              have HLd := Lib.hid hLd; clear hLd hLv he
              go_wp2_with (go_at_call 26; refine (HLd.out).mono ?_; rintro e w3 ⟨rfl, rfl⟩)
              go_roundw
              case rel => exact ⟨k + 1, st', by omega, hk1, by go_num, hr3, hp3, hb4, hst1000, hsz4⟩
              case measure => simp [intOf]; omega
            · have heb : (st'.2 != 0) = true := by simpa using he
              have hLv : R.left st' = 0 := by unfold R.left; rw [if_pos he]
              rw [hLv] at hLd
              have HLd := Lib.hid hLd; clear hLd hLv he
              go_wp2_with (go_at_call 26; refine (HLd.out).mono ?_; rintro e w3 ⟨rfl, rfl⟩)
              go_roundw
              case rel => exact ⟨k + 1, st', by omega, hk1, by go_num, hr3, hp3, hb4, hst1000, hsz4⟩
              case measure => simp [intOf]; omega
        · go_wp2_with fail
          refine (awake_any _).mono ?_
          rintro r w5 ⟨rfl, hb5⟩
          go_wp2_with fail
          go_ret
          exact ⟨rfl, hbk.trans (hb5.mono hbk.size)⟩
      · go_wp2_with fail
        refine (awake_any _).mono ?_
        rintro r w5 ⟨rfl, hb5⟩
        go_wp2_with fail
        go_ret
        exact ⟨rfl, hbk.trans (hb5.mono hbk.size)⟩
  · have hsmall : l.length ≤ 1000 := by omega
    have hbig' : ¬ (1000 : Int) < (l.length : Int) := by omega
    go_enter Try.func6, Try.ntmps6
    go_wp2_with fail
    refine (read_any l _).mono ?_
    rintro r w1 ⟨rfl, hr1, hb1, hs1⟩
    have HS1 := Lib.hid hs1; clear hs1
    go_wp2_with fail
    have hp2 : Pl (w1.alloc (.cells #[.string (S l), .int .i64 0] 49)) w1.heap.size (l, 0) := Has.made _ _ _
    have hr2 := hr1.alloc (.cells #[.string (S l), .int .i64 0] 49)
    have hb2 : Below w.heap.size w (w1.alloc (.cells #[.string (S l), .int .i64 0] 49)) := hb1.alloc (by have := HS1.out; omega) _
    go_loopw [7] (fun v7 wr => ∃ (k : Nat) (st : R.St), k ≤ len ∧ k ≤ 40 ∧ v7 = .int .i64 k ∧ Rd wr (w.heap.size + 1) w.heap.size st ∧ Pl wr w1.heap.size st ∧ Below w.heap.size w wr ∧ st.1.length ≤ 1000 ∧ w1.heap.size < wr.heap.size) (fun v7 _ => 40 - (intOf v7).toNat)
    case atStart => exact ⟨0, (l, 0), Nat.zero_le _, by omega, rfl, hr2, hp2, hb2, hsmall, by simp⟩
    case round =>
      obtain ⟨k, st, hk, hk40, rfl, hrk, hpk, hbk, hstk, hszk⟩ := hrel
      have hgp : w.heap.size + 1 ≠ w1.heap.size := by have := HS1.out; omega
      have hbp : w.heap.size ≠ w1.heap.size := by have := HS1.out; omega
      by_cases hlt : k < len
      · by_cases h40 : k < 40
        · obtain ⟨K, N, M, h1, h2, h3⟩ := hops.below hbk hsb k hlt
          have hk0 : (0 : Int) ≤ (k : Int) := by omega
          have hki : (k : Int) < (len : Int) := by omega
          have hS := fun W (hr : Rd W (w.heap.size + 1) w.heap.size st) (hp : Pl W w1.heap.size st) (hb : w.heap.size < W.heap.size) => step_any K N M (w.heap.size + 1) w.heap.size w1.heap.size st W hr hp hgp hbp hb (by omega)
          have hst' := R.step_rest K N M st
          generalize R.step K N M st = st' at hS hst'
          have HS := Lib.hid hS; clear hS
          have hblt : w.heap.size < wr.heap.size := by have := HS1.out; omega
          have hst1000 : st'.1.length ≤ 1000 := by omega
          have hk1 : k + 1 ≤ 40 := by omega
          go_wp2_with fail
          go_region_with (first
            | (go_at_call 24; refine (HS.out _ hrk.drew hpk.drew hblt).mono ?_; rintro e w2 ⟨rfl, hr3, hp3, h23⟩; have hq1 : w2.cell? ⟨w1.heap.size, 1, none⟩ = some (.int .i64 st'.2) := hp3.cell 1)
            | (go_at_call 25; refine (rerr_rd _ _ _ hr3).mono ?_; rintro e w3 ⟨rfl, rfl⟩))
          all_goals
            have hb4 : Below w.heap.size w w2 := h23.below hbk.drew hbk.size (by omega) (by have := HS1.out; omega)
            have hsz4 : w1.heap.size < w2.heap.size := Nat.lt_of_lt_of_le hszk h23.size
            have hq0 : w2.cell? ⟨w1.heap.size, 0, none⟩ = some (.string (S st'.1)) := hp3.cell 0
            have hLd := left_rd _ _ _ _ hr3
            clear h23 hrk hpk hbk HS h1 h2 h3
            by_cases he : st'.2 = 0
            · have heb : (st'.2 != 0) = false := by simpa using he
              have hLv : R.left st' = (st'.1.length : Int) := by unfold R.left; rw [if_neg (by simpa using he)]
              rw [hLv] at hLd
              have HLd := Lib.hid hLd; clear hLd hLv he
              go_wp2_with (go_at_call 26; refine (HLd.out).mono ?_; rintro e w3 ⟨rfl, rfl⟩)
              go_roundw
              case rel => exact ⟨k + 1, st', by omega, hk1, by go_num, hr3, hp3, hb4, hst1000, hsz4⟩
              case measure => simp [intOf]; omega
            · have heb : (st'.2 != 0) = true := by simpa using he
              have hLv : R.left st' = 0 := by unfold R.left; rw [if_pos he]
              rw [hLv] at hLd
              have HLd := Lib.hid hLd; clear hLd hLv he
              go_wp2_with (go_at_call 26; refine (HLd.out).mono ?_; rintro e w3 ⟨rfl, rfl⟩)
              go_roundw
              case rel => exact ⟨k + 1, st', by omega, hk1, by go_num, hr3, hp3, hb4, hst1000, hsz4⟩
              case measure => simp [intOf]; omega
        · go_wp2_with fail
          refine (awake_any _).mono ?_
          rintro r w5 ⟨rfl, hb5⟩
          go_wp2_with fail
          go_ret
          exact ⟨rfl, hbk.trans (hb5.mono hbk.size)⟩
      · go_wp2_with fail
        refine (awake_any _).mono ?_
        rintro r w5 ⟨rfl, hb5⟩
        go_wp2_with fail
        go_ret
        exact ⟨rfl, hbk.trans (hb5.mono hbk.size)⟩

set_option maxRecDepth 100000 in
set_option maxHeartbeats 4000000 in
theorem octetReads_empty (l : List UInt8) (A : Option Addr) (cap : Nat) (w : World) (hl : l.length ≤ 140737488351232) :
    Calls Try.prog 6 #[.string (S l), .slice A 0 cap] w fun r w' => r = .returned (.bool true) ∧ Below w.heap.size w w' := by
  by_cases hbig : 1000 < l.length
  · have hsmall : (l.take 1000).length ≤ 1000 := by rw [List.length_take]; omega
    have hbig' : (1000 : Int) < (l.length : Int) := by omega
    go_enter Try.func6, Try.ntmps6
    go_wp2_with fail
    generalize l.take 1000 = l' at hsmall ⊢
    refine (read_any l' _).mono ?_
    rintro r w1 ⟨rfl, hr1, hb1, hs1⟩
    have HS1 := Lib.hid hs1; clear hs1
    go_wp2_with fail
    have hb2 : Below w.heap.size w (w1.alloc (.cells #[.string (S l'), .int .i64 0] 49)) := hb1.alloc (by have := HS1.out; omega) _
    refine wp_loop_rounds 1 ?_
    rw [rounds_succ]
    go_wp2_with fail
    refine (awake_any _).mono ?_
    rintro r w5 ⟨rfl, hb5⟩
    go_wp2_with fail
    go_ret
    exact ⟨rfl, hb2.trans (hb5.mono hb2.size)⟩
  · have hsmall : l.length ≤ 1000 := by omega
    have hbig' : ¬ (1000 : Int) < (l.length : Int) := by omega
    go_enter Try.func6, Try.ntmps6
    go_wp2_with fail
    refine (read_any l _).mono ?_
    rintro r w1 ⟨rfl, hr1, hb1, hs1⟩
    have HS1 := Lib.hid hs1; clear hs1
    go_wp2_with fail
    have hb2 : Below w.heap.size w (w1.alloc (.cells #[.string (S l), .int .i64 0] 49)) := hb1.alloc (by have := HS1.out; omega) _
    refine wp_loop_rounds 1 ?_
    rw [rounds_succ]
    go_wp2_with fail
    refine (awake_any _).mono ?_
    rintro r w5 ⟨rfl, hb5⟩
    go_wp2_with fail
    go_ret
    exact ⟨rfl, hb2.trans (hb5.mono hb2.size)⟩
end Go.Proofs.Ytpclknempmhmiaa
