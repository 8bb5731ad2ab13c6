/-
  The contracts of octet's reader, more: Raw, Text, Flag, Left, End, Read.
-/
import Derived.Test.YtihhgingdgepcaaReadNum
namespace Go.Proofs.Ytihhgingdgepcaa
open Go.RowKit

theorem conv_b {w : World} {b : Nat} {A : Option Addr} {l : List UInt8} (h : Bytes w b A l) (c : Nat) : (convert 66 9 (.slice A l.length c)).run Try.prog w = .ok (.string (S l)) w :=
  conv_bytes_text Try.underlying66 Try.underlying5 Try.underlying9 h c

set_option maxHeartbeats 400000 in
theorem raw_rd (n : Int) (g b : Nat) (st : R.St) (w : World) (h : Rd w g b st) (hcap : st.1.length ≤ 4611686018427387904) :
    Calls Try.prog 50 #[.pointer (some ⟨g, 0, none⟩), .int .i64 n] w fun r w' => r = .returned (.string (S (R.next n st).1)) ∧ Rd w' g b (R.next n st).2 ∧ Only w w' g := by
  have hN := next_rd n g b st w h hcap
  unfold Next at hN
  generalize R.next n st = x at hN
  have HN := Lib.hid hN; clear hN
  go_enter Try.func50, Try.ntmps50
  go_wp2_with fail
  refine (HN.out).mono ?_
  rintro r w1 ⟨A, c, rfl, hy, hr, ho⟩
  have hcv := conv_b hy c
  go_wp2_with fail
  go_ret
  exact ⟨rfl, hr, ho⟩

theorem R.lead_rest (l : List UInt8) (st : R.St) : (R.lead l st).1 = st.1 := by unfold R.lead; split <;> rfl
theorem R.num_rest (m : Int) (st : R.St) : (R.num m st).2.1.length ≤ st.1.length := by
  have h1 := R.digits_rest st
  have h2 := R.next_rest (R.digits st).1 (R.digits st).2
  have h3 : (R.num m st).2.1 = (R.next (R.digits st).1 (R.digits st).2).2.1 := by
    show (if m < (R.fold _ : Int) then R.fail 3 _ else _ : R.St).1 = _
    split
    · rw [R.fail_rest, R.lead_rest]
    · rw [R.lead_rest]
  rw [h3]; omega

set_option maxHeartbeats 400000 in
theorem text_rd (m : Int) (g b : Nat) (st : R.St) (w : World) (h : Rd w g b st) (hcap : st.1.length ≤ 4611686018427387904) :
    Calls Try.prog 28 #[.pointer (some ⟨g, 0, none⟩), .int .i64 m] w fun r w' => r = .returned (.string (S (R.text m st).1)) ∧ Rd w' g b (R.text m st).2 ∧ Only w w' g := by
  have hN := num_rd m g b st w h hcap
  have hrest := R.num_rest m st
  unfold R.text
  generalize R.num m st = x at hN hrest
  have HN := Lib.hid hN; clear hN
  go_enter Try.func28, Try.ntmps28
  go_wp2_with fail
  refine (HN.out).mono ?_
  rintro r w1 ⟨rfl, hr, ho⟩
  go_wp2_with fail
  refine (raw_rd _ g b _ _ hr (by omega)).mono ?_
  rintro r w2 ⟨rfl, hr2, ho2⟩
  go_wp2_with fail
  go_ret
  exact ⟨rfl, hr2, ho.trans ho2⟩

set_option maxHeartbeats 400000 in
theorem flag_rd (g b : Nat) (st : R.St) (w : World) (h : Rd w g b st) (hcap : st.1.length ≤ 4611686018427387904) :
    Calls Try.prog 47 #[.pointer (some ⟨g, 0, none⟩)] w fun r w' => r = .returned (.bool (R.flag st).1) ∧ Rd w' g b (R.flag st).2 ∧ Only w w' g := by
  have hD : R.flag st = match R.next 1 st with
    | ([], st1) => (false, st1)
    | (c :: _, st1) => (c.toNat == 1, if 1 < c.toNat then R.fail 4 st1 else st1) := rfl
  have hN := next_rd 1 g b st w h hcap
  unfold Next at hN
  generalize R.next 1 st = x at hD hN
  obtain ⟨l, st1⟩ := x
  have HN := Lib.hid hN; clear hN
  cases l with
  | nil =>
    have HD := Lib.hid hD; clear hD
    go_enter Try.func47, Try.ntmps47
    go_wp2_with fail
    refine (HN.out).mono ?_
    rintro r w1 ⟨A, c, rfl, hy, hr, ho⟩
    go_wp2_with fail
    go_ret
    rw [HD.out]
    exact ⟨rfl, hr, ho⟩
  | cons c l =>
    have hcc : c.toNat < 256 := c.toNat_lt
    by_cases h7 : 1 < c.toNat
    · simp only [if_pos h7] at hD
      rw [show (c.toNat == 1) = false by simp; omega] at hD
      have HD := Lib.hid hD; clear hD
      have h7' : (1 : Int) < (c.toNat : Int) := by omega
      have hb : ((c.toNat : Int) == 1) = false := by simp; omega
      go_enter Try.func47, Try.ntmps47
      go_wp2_with fail
      refine (HN.out).mono ?_
      rintro r w1 ⟨A, k, rfl, hy, hr, ho⟩
      obtain ⟨off, rfl, hcell⟩ := hy.at0
      have hbb : b ≠ g := hr.1.symm
      go_wp2_with fail
      refine (rfail_rd 4 g b _ hr).mono ?_
      rintro r w2 ⟨rfl, hr2, ho2⟩
      obtain ⟨off', he, hcell2⟩ := (ho2.bytes hy hbb).at0
      injection he with he; injection he with _ he; subst he
      go_wp2_with fail
      go_ret
      rw [HD.out]
      exact ⟨rfl, hr2, ho.trans ho2⟩
    · simp only [if_neg h7] at hD
      have HD := Lib.hid hD; clear hD
      have h7' : ¬ (1 : Int) < (c.toNat : Int) := by omega
      go_enter Try.func47, Try.ntmps47
      go_wp2_with fail
      refine (HN.out).mono ?_
      rintro r w1 ⟨A, k, rfl, hy, hr, ho⟩
      obtain ⟨off, rfl, hcell⟩ := hy.at0
      go_wp2_with fail
      go_ret
      rw [HD.out]
      exact ⟨ret_bool (show ((c.toNat : Int) == 1) = (c.toNat == 1) by rw [Bool.eq_iff_iff]; simp; omega), hr, ho⟩

set_option maxHeartbeats 400000 in
theorem left_rd (g b : Nat) (st : R.St) (w : World) (h : Rd w g b st) :
    Calls Try.prog 51 #[.pointer (some ⟨g, 0, none⟩)] w fun r w' => r = .returned (.int .i64 (R.left st)) ∧ w = w' := by
  obtain ⟨l, e⟩ := st
  have hL : R.left (l, e) = if e ≠ 0 then 0 else (l.length : Int) := rfl
  obtain ⟨hne, A, cap, hh, hc, hy⟩ := id h
  have h0 : w.cell? ⟨g, 0, none⟩ = some (.slice A l.length cap) := hh.cell 0
  clear hh hy
  by_cases he : e = 0
  · have hb : (e != 0) = false := by simpa using he
    rw [if_neg (by simpa using he)] at hL
    have HL := Lib.hid hL; clear hL he
    go_enter Try.func51, Try.ntmps51
    go_wp2_with fail
    refine (rerr_rd g b _ h).mono ?_
    rintro r w5 ⟨rfl, rfl⟩
    go_wp2_with fail
    go_ret
    rw [HL.out]
    exact ⟨rfl, rfl⟩
  · have hb : (e != 0) = true := by simpa using he
    rw [if_pos (by simpa using he)] at hL
    have HL := Lib.hid hL; clear hL he
    go_enter Try.func51, Try.ntmps51
    go_wp2_with fail
    refine (rerr_rd g b _ h).mono ?_
    rintro r w5 ⟨rfl, rfl⟩
    go_wp2_with fail
    go_ret
    rw [HL.out]
    exact ⟨rfl, rfl⟩

set_option maxHeartbeats 400000 in
theorem end_rd (g b : Nat) (st : R.St) (w : World) (h : Rd w g b st) :
    Calls Try.prog 29 #[.pointer (some ⟨g, 0, none⟩)] w fun r w' => r = .returned (.int .i64 (R.fin st).2) ∧ Rd w' g b (R.fin st) ∧ Only w w' g := by
  have hF : R.fin st = if 0 < R.left st then R.fail 4 st else st := rfl
  have hLd := left_rd g b st w h
  generalize R.left st = n at hF hLd
  have HLd := Lib.hid hLd; clear hLd
  by_cases hn : 0 < n
  · rw [if_pos hn] at hF
    have HF := Lib.hid hF; clear hF
    go_enter Try.func29, Try.ntmps29
    go_wp2_with fail
    refine (HLd.out).mono ?_
    rintro r w5 ⟨rfl, rfl⟩
    go_wp2_with fail
    refine (rfail_rd 4 g b _ h).mono ?_
    rintro r w2 ⟨rfl, hr2, ho2⟩
    go_wp2_with fail
    refine (rerr_rd g b _ hr2).mono ?_
    rintro r w5 ⟨rfl, rfl⟩
    go_wp2_with fail
    go_ret
    rw [HF.out]
    exact ⟨rfl, hr2, ho2⟩
  · rw [if_neg hn] at hF
    have HF := Lib.hid hF; clear hF
    go_enter Try.func29, Try.ntmps29
    go_wp2_with fail
    refine (HLd.out).mono ?_
    rintro r w5 ⟨rfl, rfl⟩
    go_wp2_with fail
    refine (rerr_rd g b _ h).mono ?_
    rintro r w5 ⟨rfl, rfl⟩
    go_wp2_with fail
    go_ret
    rw [HF.out]
    exact ⟨rfl, h, Only.refl _ _⟩

set_option maxHeartbeats 400000 in
theorem octRead_any (l : List UInt8) (w : World) :
    Calls Try.prog 25 #[.string (S l)] w fun r w' => r = .returned (.pointer (some ⟨w.heap.size + 1, 0, none⟩)) ∧ Rd w' (w.heap.size + 1) w.heap.size (l, 0) ∧ Below w.heap.size w w' ∧ w'.heap.size = w.heap.size + 2 := by
  have hcv := fun W => conv_bytes (P := Try.prog) Try.underlying9 Try.underlying66 Try.underlying5 W l
  go_enter Try.func25, Try.ntmps25
  go_wp2_with fail
  go_ret
  have hsz := bworld_size w 5 l
  have hm := Has.made (bworld w 5 l) 70 #[.slice (some ⟨w.heap.size, 0, none⟩) l.length (bcap w 5 l), .int .i64 0]
  rw [hsz] at hm
  refine ⟨rfl, ⟨by omega, some ⟨w.heap.size, 0, none⟩, bcap w 5 l, hm, bcap_le _ _ _, ?_⟩, (bworld_below w _ l).alloc (by rw [hsz]; omega) _, by simp [hsz]⟩
  intro hl
  refine ⟨0, rfl, fun i hi => ?_⟩
  rw [Nat.zero_add, World.cell?_alloc_past _ _ _ (by rw [hsz]; omega), bworld_cell w _ l i hi]
end Go.Proofs.Ytihhgingdgepcaa
