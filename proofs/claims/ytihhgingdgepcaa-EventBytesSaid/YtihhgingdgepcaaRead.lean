/-
  The contracts of octet's reader.
-/
import Derived.Test.YtihhgingdgepcaaBytes
import Derived.Test.YtihhgingdgepcaaNum
import Derived.Test.YtihhgingdgepcaaReadSpec
namespace Go.Proofs.Ytihhgingdgepcaa
open Go.RowKit

/-- A reader: block g is the struct, block b has its bytes; what is left, and its error. -/
def Rd (w : World) (g b : Nat) (st : R.St) : Prop :=
  g ≠ b ∧ ∃ (A : Option Addr) (cap : Nat), Has w g 70 #[.slice A st.1.length cap, .int .i64 st.2] ∧ st.1.length ≤ cap ∧ Bytes w b A st.1

theorem Rd.only {w w' : World} {g b k : Nat} {st : R.St} (h : Rd w g b st) (ho : Only w w' k) (hg : g ≠ k) (hb : b ≠ k) : Rd w' g b st := by
  obtain ⟨hn, A, cap, hh, hc, hy⟩ := h
  exact ⟨hn, A, cap, ho.has hh hg, hc, ho.bytes hy hb⟩
theorem Rd.lt {w : World} {g b : Nat} {st : R.St} (h : Rd w g b st) : g < w.heap.size := by
  obtain ⟨hn, A, cap, hh, hc, hy⟩ := h
  exact hh.lt
theorem Rd.below {w w' : World} {g b B : Nat} {st : R.St} (h : Rd w g b st) (hb : Below B w w') (hB : w.heap.size ≤ B) : Rd w' g b st :=
  h.only (k := w.heap.size + g + b + 1) ⟨hb.os, hb.tape, hb.output, hb.size, fun i hi _ => hb.block i (by omega)⟩ (by omega) (by omega)

set_option maxHeartbeats 400000 in
theorem err_rd {v : Value} {e : Int} (g : Nat) (w : World) (h : Has w g 70 #[v, .int .i64 e]) :
    Calls Try.prog 46 #[.pointer (some ⟨g, 0, none⟩)] w fun r w' => r = .returned (.int .i64 e) ∧ w = w' := by
  have h1 : w.cell? ⟨g, 1, none⟩ = some (.int .i64 e) := h.cell 1
  clear h
  go_enter Try.func46, Try.ntmps46
  go_wp2
  go_ret
  exact ⟨rfl, rfl⟩

set_option maxHeartbeats 400000 in
theorem fail_rd {v : Value} {e : Int} (k : Int) (g : Nat) (w : World) (h : Has w g 70 #[v, .int .i64 e]) :
    Calls Try.prog 45 #[.pointer (some ⟨g, 0, none⟩), .int .i64 k] w fun r w' => r = .returned (.tuple #[]) ∧ Has w' g 70 #[v, .int .i64 (R.failE k e)] ∧ Only w w' g := by
  have h1 : w.cell? ⟨g, 1, none⟩ = some (.int .i64 e) := h.cell 1
  have hf := h.free 1
  have HH := Lib.hid h
  by_cases he : e = 0
  · have hs := h.set 1 (.int .i64 k)
    have HS := Lib.hid hs; clear hs h
    subst he
    go_enter Try.func45, Try.ntmps45
    go_wp2_with fail
    refine (err_rd g _ HH.out).mono ?_
    rintro r w1 ⟨rfl, rfl⟩
    go_wp2_with fail
    go_returns
    exact ⟨rfl, by rw [R.failE, if_pos rfl]; simpa using HS.out, Only.set _ _ _ _⟩
  · have hb : (e == 0) = false := by simpa using he
    clear h
    go_enter Try.func45, Try.ntmps45
    go_wp2_with fail
    refine (err_rd g _ HH.out).mono ?_
    rintro r w1 ⟨rfl, rfl⟩
    go_wp2_with fail
    go_returns
    exact ⟨rfl, by rw [R.failE, if_neg he]; exact HH.out, Only.refl _ _⟩

theorem rerr_rd {st : R.St} (g b : Nat) (w : World) (h : Rd w g b st) :
    Calls Try.prog 46 #[.pointer (some ⟨g, 0, none⟩)] w fun r w' => r = .returned (.int .i64 st.2) ∧ w = w' := by
  obtain ⟨hne, A, cap, hh, hc, hy⟩ := h
  exact err_rd g w hh
theorem rfail_rd {st : R.St} (k : Int) (g b : Nat) (w : World) (h : Rd w g b st) :
    Calls Try.prog 45 #[.pointer (some ⟨g, 0, none⟩), .int .i64 k] w fun r w' => r = .returned (.tuple #[]) ∧ Rd w' g b (R.fail k st) ∧ Only w w' g := by
  obtain ⟨hne, A, cap, hh, hc, hy⟩ := h
  exact (fail_rd k g w hh).mono fun r w' ⟨hr, h1, h2⟩ => ⟨hr, ⟨hne, A, cap, h1, hc, h2.bytes hy hne.symm⟩, h2⟩

/-- What next leaves behind: what it answers, its reader, and that no other old block has turned. -/
def Next (w : World) (g b : Nat) (n : Int) (st : R.St) (r : Ending) (w' : World) : Prop :=
  ∃ (A : Option Addr) (c : Nat), r = .returned (.slice A (R.next n st).1.length c) ∧ Bytes w' b A (R.next n st).1 ∧ Rd w' g b (R.next n st).2 ∧ Only w w' g

set_option maxHeartbeats 400000 in
theorem next_rd (n : Int) (g b : Nat) (st : R.St) (w : World) (h : Rd w g b st) (hcap : st.1.length ≤ 4611686018427387904) :
    Calls Try.prog 43 #[.pointer (some ⟨g, 0, none⟩), .int .i64 n] w (Next w g b n st) := by
  obtain ⟨l, e⟩ := st
  obtain ⟨hne, A, cap, hh, hc, hy⟩ := h
  have h0 : w.cell? ⟨g, 0, none⟩ = some (.slice A l.length cap) := hh.cell 0
  have hf0 := hh.free 0
  have HH := Lib.hid hh
  by_cases he : e = 0
  · subst he
    by_cases hn : n < 0
    · have hR : R.next n (l, 0) = ([], (l, 1)) := by simp [R.next, hn]
      have HR := Lib.hid hR; clear hR hh
      go_enter Try.func43, Try.ntmps43
      go_wp2_with fail
      refine (err_rd g _ HH.out).mono ?_
      rintro r w1 ⟨rfl, rfl⟩
      go_wp2_with fail
      refine (fail_rd 1 g _ HH.out).mono ?_
      rintro r w1 ⟨rfl, hh1, ho1⟩
      go_wp2_with fail
      go_ret
      rw [Next, HR.out]
      exact ⟨none, 0, rfl, Bytes.nil _ _ _, ⟨hne, A, cap, hh1, hc, ho1.bytes hy hne.symm⟩, ho1⟩
    · by_cases hlt : (l.length : Int) < n
      · have hR : R.next n (l, 0) = ([], (l, 2)) := by simp [R.next, hn, hlt]
        have HR := Lib.hid hR; clear hR hh
        go_enter Try.func43, Try.ntmps43
        go_wp2_with fail
        refine (err_rd g _ HH.out).mono ?_
        rintro r w1 ⟨rfl, rfl⟩
        go_wp2_with fail
        refine (fail_rd 2 g _ HH.out).mono ?_
        rintro r w1 ⟨rfl, hh1, ho1⟩
        go_wp2_with fail
        go_ret
        rw [Next, HR.out]
        exact ⟨none, 0, rfl, Bytes.nil _ _ _, ⟨hne, A, cap, hh1, hc, ho1.bytes hy hne.symm⟩, ho1⟩
      · obtain ⟨k, rfl⟩ := Int.eq_ofNat_of_zero_le (by omega : 0 ≤ n)
        have hk : k ≤ l.length := by omega
        have hR : R.next k (l, 0) = (l.take k, (l.drop k, 0)) := by simp [R.next, hlt]
        have HR := Lib.hid hR; clear hR hh
        go_enter Try.func43, Try.ntmps43
        go_wp2_with fail
        refine (err_rd g _ HH.out).mono ?_
        rintro r w1 ⟨rfl, rfl⟩
        go_wp2_with fail
        · go_ret
          rw [Next, HR.out]
          have hl : (l.drop k).length = l.length - k := List.length_drop
          have hl2 : (l.take k).length = k := by rw [List.length_take]; omega
          refine ⟨A, k, by rw [hl2]; rfl, (Only.set w g 0 _).bytes (hy.take k) hne.symm, ⟨hne, A, 0, ?_, by rw [hl]; omega, ?_⟩, Only.set _ _ _ _⟩
          · have := HH.out.set 0 (.slice A (l.length - k) 0)
            simpa [hl] using this
          · rw [show l.drop k = [] from List.drop_eq_nil_of_le (by omega)]
            exact Bytes.nil _ _ _
        · go_ret
          rw [Next, HR.out]
          have hl : (l.drop k).length = l.length - k := List.length_drop
          have hl2 : (l.take k).length = k := by rw [List.length_take]; omega
          refine ⟨A, cap, by rw [hl2]; rfl, (Only.set w g 0 _).bytes (hy.take k) hne.symm, ⟨hne, A.map (·.add k), cap - k, ?_, by rw [hl]; omega, ?_⟩, Only.set _ _ _ _⟩
          · have := HH.out.set 0 (.slice (A.map (·.add k)) (l.length - k) (cap - k))
            simpa [hl] using this
          · exact (Only.set w g 0 _).bytes (hy.drop k) hne.symm
  · have hb : (e == 0) = false := by simpa using he
    have hb' : (e != 0) = true := by simpa using he
    have hR : R.next n (l, e) = ([], (l, e)) := by simp [R.next, he]
    have HR := Lib.hid hR; clear hR hh
    go_enter Try.func43, Try.ntmps43
    go_wp2_with fail
    refine (err_rd g _ HH.out).mono ?_
    rintro r w1 ⟨rfl, rfl⟩
    go_wp2_with fail
    go_ret
    rw [Next, HR.out]
    exact ⟨none, 0, rfl, Bytes.nil _ _ _, ⟨hne, A, cap, HH.out, hc, hy⟩, Only.refl _ _⟩

set_option maxHeartbeats 400000 in
theorem digits_rd (g b : Nat) (st : R.St) (w : World) (h : Rd w g b st) (hcap : st.1.length ≤ 4611686018427387904) :
    Calls Try.prog 44 #[.pointer (some ⟨g, 0, none⟩)] w fun r w' => r = .returned (.int .i64 (R.digits st).1) ∧ Rd w' g b (R.digits st).2 ∧ Only w w' g := by
  have hD : R.digits st = match R.next 1 st with
    | ([], st1) => (0, st1)
    | (c :: _, st1) => if 7 < c.toNat then (0, R.fail 4 st1) else (c.toNat, st1) := rfl
  have hN := next_rd 1 g b st w h hcap
  unfold Next at hN
  generalize R.next 1 st = x at hD hN
  obtain ⟨l, st1⟩ := x
  have HN := Lib.hid hN; clear hN
  cases l with
  | nil =>
    have HD := Lib.hid hD; clear hD
    go_enter Try.func44, Try.ntmps44
    go_wp2_with fail
    refine (HN.out).mono ?_
    rintro r w1 ⟨A, c, rfl, hy, hr, ho⟩
    go_wp2_with fail
    go_ret
    rw [HD.out]
    exact ⟨rfl, hr, ho⟩
  | cons c l =>
    have hcc : c.toNat < 256 := c.toNat_lt
    by_cases h7 : 7 < c.toNat
    · simp only [if_pos h7] at hD
      have HD := Lib.hid hD; clear hD
      have h7' : (7 : Int) < (c.toNat : Int) := by omega
      go_enter Try.func44, Try.ntmps44
      go_wp2_with fail
      refine (HN.out).mono ?_
      rintro r w1 ⟨A, k, rfl, hy, ⟨hne, A2, cap2, hh, hc2, hy2⟩, ho⟩
      obtain ⟨off, rfl, hcell⟩ := hy.at0
      have HH := Lib.hid hh; clear hh
      go_wp2_with fail
      refine (fail_rd 4 g _ HH.out).mono ?_
      rintro r w2 ⟨rfl, hh2, ho2⟩
      go_wp2_with fail
      go_ret
      rw [HD.out]
      exact ⟨rfl, ⟨hne, A2, cap2, hh2, hc2, ho2.bytes hy2 hne.symm⟩, ho.trans ho2⟩
    · simp only [if_neg h7] at hD
      have HD := Lib.hid hD; clear hD
      have h7' : ¬ (7 : Int) < (c.toNat : Int) := by omega
      go_enter Try.func44, Try.ntmps44
      go_wp2_with fail
      refine (HN.out).mono ?_
      rintro r w1 ⟨A, k, rfl, hy, hr, ho⟩
      obtain ⟨off, rfl, hcell⟩ := hy.at0
      go_wp2_with fail
      go_ret
      rw [HD.out]
      exact ⟨rfl, hr, ho⟩
end Go.Proofs.Ytihhgingdgepcaa
