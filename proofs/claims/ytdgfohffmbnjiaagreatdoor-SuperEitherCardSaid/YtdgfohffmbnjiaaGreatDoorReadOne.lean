/-
  ReadOne: the texts Read, ReadNum, ReadMore in one.
-/
import Derived.Test.YtdgfohffmbnjiaaGreatDoorMemOne
import Derived.Test.YtdgfohffmbnjiaaGreatDoorNum
import Derived.Test.YtdgfohffmbnjiaaGreatDoorRdPures
namespace Go.Proofs.YtdgfohffmbnjiaaGreatDoor
open Go.RowKit

/-- A reader: block g is the struct, block b has its bytes; what is left, and its error. -/
def Rd (w : World) (g b : Nat) (st : R.St) : Prop :=
  g ≠ b ∧ ∃ (A : Option Addr) (cap : Nat), Has w g 93 #[.slice A st.1.length cap, .int .i64 st.2] ∧ st.1.length ≤ cap ∧ Bytes w b A st.1

theorem Rd.only {w w' : World} {g b k : Nat} {st : R.St} (h : Rd w g b st) (ho : Only w w' k) (hg : g ≠ k) (hb : b ≠ k) : Rd w' g b st := by
  obtain ⟨hn, A, cap, hh, hc, hy⟩ := h
  exact ⟨hn, A, cap, ho.has hh hg, hc, ho.bytes hy hb⟩
theorem Rd.lt {w : World} {g b : Nat} {st : R.St} (h : Rd w g b st) : g < w.heap.size := by
  obtain ⟨hn, A, cap, hh, hc, hy⟩ := h
  exact hh.lt
theorem Rd.below {w w' : World} {g b B : Nat} {st : R.St} (h : Rd w g b st) (hb : Below B w w') (hB : w.heap.size ≤ B) : Rd w' g b st :=
  h.only (k := w.heap.size + g + b + 1) ⟨hb.os, hb.tape, hb.output, hb.size, fun i hi _ => hb.block i (by omega)⟩ (by omega) (by omega)

set_option maxHeartbeats 400000 in
theorem err_rd {v : Value} {e : Int} (g : Nat) (w : World) (h : Has w g 93 #[v, .int .i64 e]) :
    Calls Tryz.prog 45 #[.pointer (some ⟨g, 0, none⟩)] w fun r w' => r = .returned (.int .i64 e) ∧ w = w' := by
  have h1 : w.cell? ⟨g, 1, none⟩ = some (.int .i64 e) := h.cell 1
  clear h
  go_enter Tryz.func45, Tryz.ntmps45
  go_wp2
  go_ret
  exact ⟨rfl, rfl⟩

set_option maxHeartbeats 400000 in
theorem fail_rd {v : Value} {e : Int} (k : Int) (g : Nat) (w : World) (h : Has w g 93 #[v, .int .i64 e]) :
    Calls Tryz.prog 44 #[.pointer (some ⟨g, 0, none⟩), .int .i64 k] w fun r w' => r = .returned (.tuple #[]) ∧ Has w' g 93 #[v, .int .i64 (R.failE k e)] ∧ Only w w' g := by
  have h1 : w.cell? ⟨g, 1, none⟩ = some (.int .i64 e) := h.cell 1
  have hf := h.free 1
  have HH := Lib.hid h
  by_cases he : e = 0
  · have hs := h.set 1 (.int .i64 k)
    have HS := Lib.hid hs; clear hs h
    subst he
    go_enter Tryz.func44, Tryz.ntmps44
    go_wp2_with fail
    refine (err_rd g _ HH.out).mono ?_
    rintro r w1 ⟨rfl, rfl⟩
    go_wp2_with fail
    go_returns
    exact ⟨rfl, by rw [R.failE, if_pos rfl]; simpa using HS.out, Only.set _ _ _ _⟩
  · have hb : (e == 0) = false := by simpa using he
    clear h
    go_enter Tryz.func44, Tryz.ntmps44
    go_wp2_with fail
    refine (err_rd g _ HH.out).mono ?_
    rintro r w1 ⟨rfl, rfl⟩
    go_wp2_with fail
    go_returns
    exact ⟨rfl, by rw [R.failE, if_neg he]; exact HH.out, Only.refl _ _⟩

theorem rerr_rd {st : R.St} (g b : Nat) (w : World) (h : Rd w g b st) :
    Calls Tryz.prog 45 #[.pointer (some ⟨g, 0, none⟩)] w fun r w' => r = .returned (.int .i64 st.2) ∧ w = w' := by
  obtain ⟨hne, A, cap, hh, hc, hy⟩ := h
  exact err_rd g w hh
theorem rfail_rd {st : R.St} (k : Int) (g b : Nat) (w : World) (h : Rd w g b st) :
    Calls Tryz.prog 44 #[.pointer (some ⟨g, 0, none⟩), .int .i64 k] w fun r w' => r = .returned (.tuple #[]) ∧ Rd w' g b (R.fail k st) ∧ Only w w' g := by
  obtain ⟨hne, A, cap, hh, hc, hy⟩ := h
  exact (fail_rd k g w hh).mono fun r w' ⟨hr, h1, h2⟩ => ⟨hr, ⟨hne, A, cap, h1, hc, h2.bytes hy hne.symm⟩, h2⟩

/-- What next leaves behind: what it answers, its reader, and that no other old block has turned. -/
def Next (w : World) (g b : Nat) (n : Int) (st : R.St) (r : Ending) (w' : World) : Prop :=
  ∃ (A : Option Addr) (c : Nat), r = .returned (.slice A (R.next n st).1.length c) ∧ Bytes w' b A (R.next n st).1 ∧ Rd w' g b (R.next n st).2 ∧ Only w w' g

set_option maxHeartbeats 400000 in
theorem next_rd (n : Int) (g b : Nat) (st : R.St) (w : World) (h : Rd w g b st) (hcap : st.1.length ≤ 4611686018427387904) :
    Calls Tryz.prog 42 #[.pointer (some ⟨g, 0, none⟩), .int .i64 n] w (Next w g b n st) := by
  obtain ⟨l, e⟩ := st
  obtain ⟨hne, A, cap, hh, hc, hy⟩ := h
  have h0 : w.cell? ⟨g, 0, none⟩ = some (.slice A l.length cap) := hh.cell 0
  have hf0 := hh.free 0
  have HH := Lib.hid hh
  by_cases he : e = 0
  · subst he
    by_cases hn : n < 0
    · have hR : R.next n (l, 0) = ([], (l, 1)) := by simp [R.next, hn]
      have HR := Lib.hid hR; clear hR hh
      go_enter Tryz.func42, Tryz.ntmps42
      go_wp2_with fail
      refine (err_rd g _ HH.out).mono ?_
      rintro r w1 ⟨rfl, rfl⟩
      go_wp2_with fail
      refine (fail_rd 1 g _ HH.out).mono ?_
      rintro r w1 ⟨rfl, hh1, ho1⟩
      go_wp2_with fail
      go_ret
      rw [Next, HR.out]
      exact ⟨none, 0, rfl, Bytes.nil _ _ _, ⟨hne, A, cap, hh1, hc, ho1.bytes hy hne.symm⟩, ho1⟩
    · by_cases hlt : (l.length : Int) < n
      · have hR : R.next n (l, 0) = ([], (l, 2)) := by simp [R.next, hn, hlt]
        have HR := Lib.hid hR; clear hR hh
        go_enter Tryz.func42, Tryz.ntmps42
        go_wp2_with fail
        refine (err_rd g _ HH.out).mono ?_
        rintro r w1 ⟨rfl, rfl⟩
        go_wp2_with fail
        refine (fail_rd 2 g _ HH.out).mono ?_
        rintro r w1 ⟨rfl, hh1, ho1⟩
        go_wp2_with fail
        go_ret
        rw [Next, HR.out]
        exact ⟨none, 0, rfl, Bytes.nil _ _ _, ⟨hne, A, cap, hh1, hc, ho1.bytes hy hne.symm⟩, ho1⟩
      · obtain ⟨k, rfl⟩ := Int.eq_ofNat_of_zero_le (by omega : 0 ≤ n)
        have hk : k ≤ l.length := by omega
        have hR : R.next k (l, 0) = (l.take k, (l.drop k, 0)) := by simp [R.next, hlt]
        have HR := Lib.hid hR; clear hR hh
        go_enter Tryz.func42, Tryz.ntmps42
        go_wp2_with fail
        refine (err_rd g _ HH.out).mono ?_
        rintro r w1 ⟨rfl, rfl⟩
        go_wp2_with fail
        · go_ret
          rw [Next, HR.out]
          have hl : (l.drop k).length = l.length - k := List.length_drop
          have hl2 : (l.take k).length = k := by rw [List.length_take]; omega
          refine ⟨A, k, by rw [hl2]; rfl, (Only.set w g 0 _).bytes (hy.take k) hne.symm, ⟨hne, A, 0, ?_, by rw [hl]; omega, ?_⟩, Only.set _ _ _ _⟩
          · have := HH.out.set 0 (.slice A (l.length - k) 0)
            simpa [hl] using this
          · rw [show l.drop k = [] from List.drop_eq_nil_of_le (by omega)]
            exact Bytes.nil _ _ _
        · go_ret
          rw [Next, HR.out]
          have hl : (l.drop k).length = l.length - k := List.length_drop
          have hl2 : (l.take k).length = k := by rw [List.length_take]; omega
          refine ⟨A, cap, by rw [hl2]; rfl, (Only.set w g 0 _).bytes (hy.take k) hne.symm, ⟨hne, A.map (·.add k), cap - k, ?_, by rw [hl]; omega, ?_⟩, Only.set _ _ _ _⟩
          · have := HH.out.set 0 (.slice (A.map (·.add k)) (l.length - k) (cap - k))
            simpa [hl] using this
          · exact (Only.set w g 0 _).bytes (hy.drop k) hne.symm
  · have hb : (e == 0) = false := by simpa using he
    have hb' : (e != 0) = true := by simpa using he
    have hR : R.next n (l, e) = ([], (l, e)) := by simp [R.next, he]
    have HR := Lib.hid hR; clear hR hh
    go_enter Tryz.func42, Tryz.ntmps42
    go_wp2_with fail
    refine (err_rd g _ HH.out).mono ?_
    rintro r w1 ⟨rfl, rfl⟩
    go_wp2_with fail
    go_ret
    rw [Next, HR.out]
    exact ⟨none, 0, rfl, Bytes.nil _ _ _, ⟨hne, A, cap, HH.out, hc, hy⟩, Only.refl _ _⟩

set_option maxHeartbeats 400000 in
theorem digits_rd (g b : Nat) (st : R.St) (w : World) (h : Rd w g b st) (hcap : st.1.length ≤ 4611686018427387904) :
    Calls Tryz.prog 43 #[.pointer (some ⟨g, 0, none⟩)] w fun r w' => r = .returned (.int .i64 (R.digits st).1) ∧ Rd w' g b (R.digits st).2 ∧ Only w w' g := by
  have hD : R.digits st = match R.next 1 st with
    | ([], st1) => (0, st1)
    | (c :: _, st1) => if 7 < c.toNat then (0, R.fail 4 st1) else (c.toNat, st1) := rfl
  have hN := next_rd 1 g b st w h hcap
  unfold Next at hN
  generalize R.next 1 st = x at hD hN
  obtain ⟨l, st1⟩ := x
  have HN := Lib.hid hN; clear hN
  cases l with
  | nil =>
    have HD := Lib.hid hD; clear hD
    go_enter Tryz.func43, Tryz.ntmps43
    go_wp2_with fail
    refine (HN.out).mono ?_
    rintro r w1 ⟨A, c, rfl, hy, hr, ho⟩
    go_wp2_with fail
    go_ret
    rw [HD.out]
    exact ⟨rfl, hr, ho⟩
  | cons c l =>
    have hcc : c.toNat < 256 := c.toNat_lt
    by_cases h7 : 7 < c.toNat
    · simp only [if_pos h7] at hD
      have HD := Lib.hid hD; clear hD
      have h7' : (7 : Int) < (c.toNat : Int) := by omega
      go_enter Tryz.func43, Tryz.ntmps43
      go_wp2_with fail
      refine (HN.out).mono ?_
      rintro r w1 ⟨A, k, rfl, hy, ⟨hne, A2, cap2, hh, hc2, hy2⟩, ho⟩
      obtain ⟨off, rfl, hcell⟩ := hy.at0
      have HH := Lib.hid hh; clear hh
      go_wp2_with fail
      refine (fail_rd 4 g _ HH.out).mono ?_
      rintro r w2 ⟨rfl, hh2, ho2⟩
      go_wp2_with fail
      go_ret
      rw [HD.out]
      exact ⟨rfl, ⟨hne, A2, cap2, hh2, hc2, ho2.bytes hy2 hne.symm⟩, ho.trans ho2⟩
    · simp only [if_neg h7] at hD
      have HD := Lib.hid hD; clear hD
      have h7' : ¬ (7 : Int) < (c.toNat : Int) := by omega
      go_enter Tryz.func43, Tryz.ntmps43
      go_wp2_with fail
      refine (HN.out).mono ?_
      rintro r w1 ⟨A, k, rfl, hy, hr, ho⟩
      obtain ⟨off, rfl, hcell⟩ := hy.at0
      go_wp2_with fail
      go_ret
      rw [HD.out]
      exact ⟨rfl, hr, ho⟩
end Go.Proofs.YtdgfohffmbnjiaaGreatDoor

namespace Go.Proofs.YtdgfohffmbnjiaaGreatDoor
open Go.RowKit

theorem or_byte (n c : Nat) (hn : n < 281474976710656) (hc : c < 256) : bits .or .i64 ((n : Int) * 256) (c : Int) = ((n * 256 + c : Nat) : Int) := by
  have e1 : (BitVec.ofInt 64 ((n : Int) * 256)).toNat = n * 256 := by
    rw [show (n : Int) * 256 = ((n * 256 : Nat) : Int) by omega, BitVec.ofInt_natCast, BitVec.toNat_ofNat]; exact Nat.mod_eq_of_lt (by omega)
  have e2 : (BitVec.ofInt 64 (c : Int)).toNat = c := by
    rw [BitVec.ofInt_natCast, BitVec.toNat_ofNat]; exact Nat.mod_eq_of_lt (by omega)
  show IntKind.i64.wrap ((BitVec.ofInt 64 ((n : Int) * 256) ||| BitVec.ofInt 64 (c : Int)).toNat : Int) = _
  rw [BitVec.toNat_or, e1, e2, IntKind.wrap_i64]
  have e3 : n * 256 ||| c = n * 256 + c := by
    have := Nat.two_pow_add_eq_or_of_lt (i := 8) (b := c) (by omega) n
    rw [show n * 256 = 2 ^ 8 * n by omega]; exact this.symm
  rw [e3]
  omega

set_option maxHeartbeats 1000000 in
theorem num_rd (m : Int) (g b : Nat) (st : R.St) (w : World) (h : Rd w g b st) (hcap : st.1.length ≤ 4611686018427387904) :
    Calls Tryz.prog 18 #[.pointer (some ⟨g, 0, none⟩), .int .i64 m] w fun r w' => r = .returned (.int .i64 (R.num m st).1) ∧ Rd w' g b (R.num m st).2 ∧ Only w w' g := by
  have hDR := digits_rd g b st w h hcap
  have hD7 := R.digits_le st
  have hDr := R.digits_rest st
  have hN : R.num m st = (fun d : Int × R.St => (fun x : List UInt8 × R.St => (fun st3 : R.St => (fun st4 : R.St => ((if st4.2 = 0 then (R.fold x.1 : Int) else 0), st4)) (if m < (R.fold x.1 : Int) then R.fail 3 st3 else st3)) (R.lead x.1 x.2)) (R.next d.1 d.2)) (R.digits st) := rfl
  generalize R.digits st = d at hDR hD7 hDr hN
  obtain ⟨d, st1⟩ := d
  simp only at hN hDR hD7 hDr
  have hNR := fun w' (hr : Rd w' g b st1) => next_rd d g b st1 w' hr (by omega)
  have hl7 := R.next_len d st1
  unfold Next at hNR
  generalize R.next d st1 = x at hNR hN hl7
  obtain ⟨ds, st2⟩ := x
  simp only at hN hl7
  have h7 : ds.length ≤ 7 := by omega
  have HNR := Lib.hid hNR; clear hNR
  have HDR := Lib.hid hDR; clear hDR
  clear hl7
  have HN := Lib.hid hN; clear hN
  cases ds with
  | nil =>
    obtain ⟨st3, hst3⟩ : ∃ st3, st3 = R.lead [] st2 := ⟨_, rfl⟩
    rw [← hst3] at HN
    have e3 : st3 = st2 := by rw [hst3, R.lead]; simp
    obtain rfl : st2 = st3 := e3.symm
    clear hst3 e3
    have hfold : ((R.fold [] : Nat) : Int) = 0 := rfl
    obtain ⟨ds, hds⟩ : ∃ ds : List UInt8, ds = [] := ⟨_, rfl⟩
    rw [← hds] at HN hfold
    have HFZ := Lib.hid hfold; clear hfold hds
    go_enter Tryz.func18, Tryz.ntmps18
    go_wp2_with fail
    refine (HDR.out).mono ?_
    rintro r w1 ⟨rfl, hr1, ho1⟩
    go_wp2_with fail
    refine (HNR.out _ hr1).mono ?_
    rintro r w2 ⟨A, k, rfl, hy, hr2, ho2⟩
    have HO := ho1.trans ho2
    go_wp2_with fail
    refine wp_loop_rounds 1 ?_
    rw [rounds_succ]
    rw [show (Value.int IntKind.i64 0) = .int .i64 (R.fold ds) by rw [HFZ.out]]
    by_cases hm : m < (R.fold ds : Int)
    · have HN2 : Hid (R.num m st = (if (R.fail 3 st2).2 = 0 then (R.fold ds : Int) else 0, R.fail 3 st2)) := by have := HN.out; rw [if_pos hm] at this; exact this
      go_wp2_with fail
      refine (rfail_rd 3 g b _ hr2).mono ?_
      rintro r w4 ⟨rfl, hr4, ho4⟩
      have he0 : ¬ (R.fail 3 st2).2 = 0 := by unfold R.fail R.failE; simp only; split <;> omega
      have heb : ((R.fail 3 st2).2 != 0) = true := by simpa using he0
      have HN3 : Hid (R.num m st = (0, R.fail 3 st2)) := by have := HN2.out; rw [if_neg he0] at this; exact this
      clear he0 HN2
      generalize R.fail 3 st2 = st4 at hr4 heb HN3
      go_wp2_with fail
      refine (rerr_rd g b _ hr4).mono ?_
      rintro r w5 ⟨rfl, rfl⟩
      go_wp2_with fail
      go_ret
      rw [HN3.out]
      exact ⟨rfl, hr4, HO.trans ho4⟩
    · have HN2 : Hid (R.num m st = (if (st2).2 = 0 then (R.fold ds : Int) else 0, st2)) := by have := HN.out; rw [if_neg hm] at this; exact this
      by_cases he0 : (st2).2 = 0
      · have HN3 : Hid (R.num m st = ((R.fold ds : Int), st2)) := by have := HN2.out; rw [if_pos he0] at this; exact this
        have heb : ((st2).2 != 0) = false := by simpa using he0
        clear he0 HN2
        go_wp2_with fail
        refine (rerr_rd g b _ hr2).mono ?_
        rintro r w5 ⟨rfl, rfl⟩
        go_wp2_with fail
        go_ret
        rw [HN3.out]
        exact ⟨rfl, hr2, HO⟩
      · have HN3 : Hid (R.num m st = (0, st2)) := by have := HN2.out; rw [if_neg he0] at this; exact this
        have heb : ((st2).2 != 0) = true := by simpa using he0
        clear he0 HN2
        go_wp2_with fail
        refine (rerr_rd g b _ hr2).mono ?_
        rintro r w5 ⟨rfl, rfl⟩
        go_wp2_with fail
        go_ret
        rw [HN3.out]
        exact ⟨rfl, hr2, HO⟩
  | cons c tl =>
    obtain ⟨ds, hds⟩ : ∃ ds, ds = c :: tl := ⟨_, rfl⟩
    rw [← hds] at HNR h7 HN
    have hpos : 0 < ds.length := by rw [hds]; simp
    have HDS := Lib.hid hds; clear hds
    have hcb0 : c.toNat < 256 := c.toNat_lt
    by_cases hc0 : c.toNat = 0
    · have hb0 : ((c.toNat : Int) == 0) = true := by simpa using hc0
      have hl3 : R.lead ds st2 = R.fail 4 st2 := by
        have : c = 0 := by apply UInt8.toNat_inj.1; simpa using hc0
        rw [R.lead, HDS.out, this]; simp
      rw [hl3] at HN
      clear hl3 hc0
      go_enter Tryz.func18, Tryz.ntmps18
      go_wp2_with fail
      refine (HDR.out).mono ?_
      rintro r w1 ⟨rfl, hr1, ho1⟩
      go_wp2_with fail
      refine (HNR.out _ hr1).mono ?_
      rintro r w2 ⟨A, k, rfl, hy, hr2, ho2⟩
      obtain ⟨off, rfl, hcl⟩ := hy (by intro e; rw [e] at hpos; simp at hpos)
      have hcells : ∀ k (hk : k < ds.length), w2.cell? ⟨b, off + k, none⟩ = some (.int .u8 ds[k].toNat) := fun k hk => by
        rw [hcl k hk]; simp [bcells, List.getElem?_eq_getElem hk]
      have hc00 : w2.cell? ⟨b, off, none⟩ = some (.int .u8 c.toNat) := by
        have := hcells 0 hpos
        have e : ds[0] = c := by simp [HDS.out]
        rw [e] at this; exact this
      go_wp2_with fail
      refine (rfail_rd 4 g b _ hr2).mono ?_
      rintro r w3 ⟨rfl, hr3, ho3⟩
      have HO := (ho1.trans ho2).trans ho3
      have hbg := hr2.1
      have HCL := Lib.hid (fun k hk => (World.cell?_of_block (a := ⟨b, off + k, none⟩) (ho3.block b (hy.lt (by intro e; rw [e] at hpos; simp at hpos)) (fun e => hbg (by injection e with e; exact e.symm)))).trans (hcells k hk)); clear hcells hcl
      go_wp2_with fail
      go_loop [6, 25] (fun v6 v25 => ∃ k : Nat, k ≤ ds.length ∧ v25 = .int .i64 k ∧ v6 = .int .i64 (R.fold (ds.take k))) (fun _ v25 => ds.length - (intOf v25).toNat)
      case atStart => exact ⟨0, Nat.zero_le _, rfl, by simp [R.fold]⟩
      case round =>
        obtain ⟨k, hk, rfl, rfl⟩ := hrel
        by_cases hlt : k < ds.length
        · have hcell := HCL.out k hlt
          have hft := R.fold_take_lt ds k h7 hlt
          have hcb : ds[k].toNat < 256 := ds[k].toNat_lt
          have hor := or_byte (R.fold (ds.take k)) ds[k].toNat hft hcb
          have HF := Lib.hid (R.fold_take ds k hlt)
          go_wp2_with fail
          go_round
          case rel => exact ⟨k + 1, by omega, by go_num, by rw [HF.out]; go_num⟩
          case measure => simp [intOf]; omega
        · have hke : k = ds.length := by omega
          subst hke
          rw [List.take_length]
          by_cases hm : m < (R.fold ds : Int)
          · have HN2 : Hid (R.num m st = (if (R.fail 3 (R.fail 4 st2)).2 = 0 then (R.fold ds : Int) else 0, R.fail 3 (R.fail 4 st2))) := by have := HN.out; rw [if_pos hm] at this; exact this
            go_wp2_with fail
            refine (rfail_rd 3 g b _ hr3).mono ?_
            rintro r w4 ⟨rfl, hr4, ho4⟩
            have he0 : ¬ (R.fail 3 (R.fail 4 st2)).2 = 0 := by unfold R.fail R.failE; simp only; split <;> omega
            have heb : ((R.fail 3 (R.fail 4 st2)).2 != 0) = true := by simpa using he0
            have HN3 : Hid (R.num m st = (0, R.fail 3 (R.fail 4 st2))) := by have := HN2.out; rw [if_neg he0] at this; exact this
            clear he0 HN2
            generalize R.fail 3 (R.fail 4 st2) = st4 at hr4 heb HN3
            go_wp2_with fail
            refine (rerr_rd g b _ hr4).mono ?_
            rintro r w5 ⟨rfl, rfl⟩
            go_wp2_with fail
            go_ret
            rw [HN3.out]
            exact ⟨rfl, hr4, HO.trans ho4⟩
          · have HN2 : Hid (R.num m st = (if ((R.fail 4 st2)).2 = 0 then (R.fold ds : Int) else 0, (R.fail 4 st2))) := by have := HN.out; rw [if_neg hm] at this; exact this
            by_cases he0 : ((R.fail 4 st2)).2 = 0
            · have HN3 : Hid (R.num m st = ((R.fold ds : Int), (R.fail 4 st2))) := by have := HN2.out; rw [if_pos he0] at this; exact this
              have heb : (((R.fail 4 st2)).2 != 0) = false := by simpa using he0
              clear he0 HN2
              go_wp2_with fail
              refine (rerr_rd g b _ hr3).mono ?_
              rintro r w5 ⟨rfl, rfl⟩
              go_wp2_with fail
              go_ret
              rw [HN3.out]
              exact ⟨rfl, hr3, HO⟩
            · have HN3 : Hid (R.num m st = (0, (R.fail 4 st2))) := by have := HN2.out; rw [if_neg he0] at this; exact this
              have heb : (((R.fail 4 st2)).2 != 0) = true := by simpa using he0
              clear he0 HN2
              go_wp2_with fail
              refine (rerr_rd g b _ hr3).mono ?_
              rintro r w5 ⟨rfl, rfl⟩
              go_wp2_with fail
              go_ret
              rw [HN3.out]
              exact ⟨rfl, hr3, HO⟩
    · have hb0 : ((c.toNat : Int) == 0) = false := by simpa using hc0
      have hl3 : R.lead ds st2 = st2 := by
        have : c ≠ 0 := by rintro rfl; simp at hc0
        rw [R.lead, HDS.out]; simp [this]
      rw [hl3] at HN
      clear hl3 hc0
      go_enter Tryz.func18, Tryz.ntmps18
      go_wp2_with fail
      refine (HDR.out).mono ?_
      rintro r w1 ⟨rfl, hr1, ho1⟩
      go_wp2_with fail
      refine (HNR.out _ hr1).mono ?_
      rintro r w2 ⟨A, k, rfl, hy, hr2, ho2⟩
      obtain ⟨off, rfl, hcl⟩ := hy (by intro e; rw [e] at hpos; simp at hpos)
      have hcells : ∀ k (hk : k < ds.length), w2.cell? ⟨b, off + k, none⟩ = some (.int .u8 ds[k].toNat) := fun k hk => by
        rw [hcl k hk]; simp [bcells, List.getElem?_eq_getElem hk]
      have hc00 : w2.cell? ⟨b, off, none⟩ = some (.int .u8 c.toNat) := by
        have := hcells 0 hpos
        have e : ds[0] = c := by simp [HDS.out]
        rw [e] at this; exact this
      have HCL := Lib.hid hcells; clear hcells hcl
      have HO := ho1.trans ho2
      go_wp2_with fail
      go_loop [6, 25] (fun v6 v25 => ∃ k : Nat, k ≤ ds.length ∧ v25 = .int .i64 k ∧ v6 = .int .i64 (R.fold (ds.take k))) (fun _ v25 => ds.length - (intOf v25).toNat)
      case atStart => exact ⟨0, Nat.zero_le _, rfl, by simp [R.fold]⟩
      case round =>
        obtain ⟨k, hk, rfl, rfl⟩ := hrel
        by_cases hlt : k < ds.length
        · have hcell := HCL.out k hlt
          have hft := R.fold_take_lt ds k h7 hlt
          have hcb : ds[k].toNat < 256 := ds[k].toNat_lt
          have hor := or_byte (R.fold (ds.take k)) ds[k].toNat hft hcb
          have HF := Lib.hid (R.fold_take ds k hlt)
          go_wp2_with fail
          go_round
          case rel => exact ⟨k + 1, by omega, by go_num, by rw [HF.out]; go_num⟩
          case measure => simp [intOf]; omega
        · have hke : k = ds.length := by omega
          subst hke
          rw [List.take_length]
          by_cases hm : m < (R.fold ds : Int)
          · have HN2 : Hid (R.num m st = (if (R.fail 3 st2).2 = 0 then (R.fold ds : Int) else 0, R.fail 3 st2)) := by have := HN.out; rw [if_pos hm] at this; exact this
            go_wp2_with fail
            refine (rfail_rd 3 g b _ hr2).mono ?_
            rintro r w4 ⟨rfl, hr4, ho4⟩
            have he0 : ¬ (R.fail 3 st2).2 = 0 := by unfold R.fail R.failE; simp only; split <;> omega
            have heb : ((R.fail 3 st2).2 != 0) = true := by simpa using he0
            have HN3 : Hid (R.num m st = (0, R.fail 3 st2)) := by have := HN2.out; rw [if_neg he0] at this; exact this
            clear he0 HN2
            generalize R.fail 3 st2 = st4 at hr4 heb HN3
            go_wp2_with fail
            refine (rerr_rd g b _ hr4).mono ?_
            rintro r w5 ⟨rfl, rfl⟩
            go_wp2_with fail
            go_ret
            rw [HN3.out]
            exact ⟨rfl, hr4, HO.trans ho4⟩
          · have HN2 : Hid (R.num m st = (if (st2).2 = 0 then (R.fold ds : Int) else 0, st2)) := by have := HN.out; rw [if_neg hm] at this; exact this
            by_cases he0 : (st2).2 = 0
            · have HN3 : Hid (R.num m st = ((R.fold ds : Int), st2)) := by have := HN2.out; rw [if_pos he0] at this; exact this
              have heb : ((st2).2 != 0) = false := by simpa using he0
              clear he0 HN2
              go_wp2_with fail
              refine (rerr_rd g b _ hr2).mono ?_
              rintro r w5 ⟨rfl, rfl⟩
              go_wp2_with fail
              go_ret
              rw [HN3.out]
              exact ⟨rfl, hr2, HO⟩
            · have HN3 : Hid (R.num m st = (0, st2)) := by have := HN2.out; rw [if_neg he0] at this; exact this
              have heb : ((st2).2 != 0) = true := by simpa using he0
              clear he0 HN2
              go_wp2_with fail
              refine (rerr_rd g b _ hr2).mono ?_
              rintro r w5 ⟨rfl, rfl⟩
              go_wp2_with fail
              go_ret
              rw [HN3.out]
              exact ⟨rfl, hr2, HO⟩
end Go.Proofs.YtdgfohffmbnjiaaGreatDoor

namespace Go.Proofs.YtdgfohffmbnjiaaGreatDoor
open Go.RowKit

theorem conv_b {w : World} {b : Nat} {A : Option Addr} {l : List UInt8} (h : Bytes w b A l) (c : Nat) : (convert 91 9 (.slice A l.length c)).run Tryz.prog w = .ok (.string (S l)) w :=
  conv_bytes_text Tryz.underlying91 Tryz.underlying5 Tryz.underlying9 h c

set_option maxHeartbeats 400000 in
theorem raw_rd (n : Int) (g b : Nat) (st : R.St) (w : World) (h : Rd w g b st) (hcap : st.1.length ≤ 4611686018427387904) :
    Calls Tryz.prog 41 #[.pointer (some ⟨g, 0, none⟩), .int .i64 n] w fun r w' => r = .returned (.string (S (R.next n st).1)) ∧ Rd w' g b (R.next n st).2 ∧ Only w w' g := by
  have hN := next_rd n g b st w h hcap
  unfold Next at hN
  generalize R.next n st = x at hN
  have HN := Lib.hid hN; clear hN
  go_enter Tryz.func41, Tryz.ntmps41
  go_wp2_with fail
  refine (HN.out).mono ?_
  rintro r w1 ⟨A, c, rfl, hy, hr, ho⟩
  have hcv := conv_b hy c
  go_wp2_with fail
  go_ret
  exact ⟨rfl, hr, ho⟩

theorem R.lead_rest (l : List UInt8) (st : R.St) : (R.lead l st).1 = st.1 := by unfold R.lead; split <;> rfl
theorem R.num_rest (m : Int) (st : R.St) : (R.num m st).2.1.length ≤ st.1.length := by
  have h1 := R.digits_rest st
  have h2 := R.next_rest (R.digits st).1 (R.digits st).2
  have h3 : (R.num m st).2.1 = (R.next (R.digits st).1 (R.digits st).2).2.1 := by
    show (if m < (R.fold _ : Int) then R.fail 3 _ else _ : R.St).1 = _
    split
    · rw [R.fail_rest, R.lead_rest]
    · rw [R.lead_rest]
  rw [h3]; omega

set_option maxHeartbeats 400000 in
theorem text_rd (m : Int) (g b : Nat) (st : R.St) (w : World) (h : Rd w g b st) (hcap : st.1.length ≤ 4611686018427387904) :
    Calls Tryz.prog 17 #[.pointer (some ⟨g, 0, none⟩), .int .i64 m] w fun r w' => r = .returned (.string (S (R.text m st).1)) ∧ Rd w' g b (R.text m st).2 ∧ Only w w' g := by
  have hN := num_rd m g b st w h hcap
  have hrest := R.num_rest m st
  unfold R.text
  generalize R.num m st = x at hN hrest
  have HN := Lib.hid hN; clear hN
  go_enter Tryz.func17, Tryz.ntmps17
  go_wp2_with fail
  refine (HN.out).mono ?_
  rintro r w1 ⟨rfl, hr, ho⟩
  go_wp2_with fail
  refine (raw_rd _ g b _ _ hr (by omega)).mono ?_
  rintro r w2 ⟨rfl, hr2, ho2⟩
  go_wp2_with fail
  go_ret
  exact ⟨rfl, hr2, ho.trans ho2⟩

set_option maxHeartbeats 400000 in
theorem left_rd (g b : Nat) (st : R.St) (w : World) (h : Rd w g b st) :
    Calls Tryz.prog 65 #[.pointer (some ⟨g, 0, none⟩)] w fun r w' => r = .returned (.int .i64 (R.left st)) ∧ w = w' := by
  obtain ⟨l, e⟩ := st
  have hL : R.left (l, e) = if e ≠ 0 then 0 else (l.length : Int) := rfl
  obtain ⟨hne, A, cap, hh, hc, hy⟩ := id h
  have h0 : w.cell? ⟨g, 0, none⟩ = some (.slice A l.length cap) := hh.cell 0
  clear hh hy
  by_cases he : e = 0
  · have hb : (e != 0) = false := by simpa using he
    rw [if_neg (by simpa using he)] at hL
    have HL := Lib.hid hL; clear hL he
    go_enter Tryz.func65, Tryz.ntmps65
    go_wp2_with fail
    refine (rerr_rd g b _ h).mono ?_
    rintro r w5 ⟨rfl, rfl⟩
    go_wp2_with fail
    go_ret
    rw [HL.out]
    exact ⟨rfl, rfl⟩
  · have hb : (e != 0) = true := by simpa using he
    rw [if_pos (by simpa using he)] at hL
    have HL := Lib.hid hL; clear hL he
    go_enter Tryz.func65, Tryz.ntmps65
    go_wp2_with fail
    refine (rerr_rd g b _ h).mono ?_
    rintro r w5 ⟨rfl, rfl⟩
    go_wp2_with fail
    go_ret
    rw [HL.out]
    exact ⟨rfl, rfl⟩

set_option maxHeartbeats 400000 in
theorem end_rd (g b : Nat) (st : R.St) (w : World) (h : Rd w g b st) :
    Calls Tryz.prog 46 #[.pointer (some ⟨g, 0, none⟩)] w fun r w' => r = .returned (.int .i64 (R.fin st).2) ∧ Rd w' g b (R.fin st) ∧ Only w w' g := by
  have hF : R.fin st = if 0 < R.left st then R.fail 4 st else st := rfl
  have hLd := left_rd g b st w h
  generalize R.left st = n at hF hLd
  have HLd := Lib.hid hLd; clear hLd
  by_cases hn : 0 < n
  · rw [if_pos hn] at hF
    have HF := Lib.hid hF; clear hF
    go_enter Tryz.func46, Tryz.ntmps46
    go_wp2_with fail
    refine (HLd.out).mono ?_
    rintro r w5 ⟨rfl, rfl⟩
    go_wp2_with fail
    refine (rfail_rd 4 g b _ h).mono ?_
    rintro r w2 ⟨rfl, hr2, ho2⟩
    go_wp2_with fail
    refine (rerr_rd g b _ hr2).mono ?_
    rintro r w5 ⟨rfl, rfl⟩
    go_wp2_with fail
    go_ret
    rw [HF.out]
    exact ⟨rfl, hr2, ho2⟩
  · rw [if_neg hn] at hF
    have HF := Lib.hid hF; clear hF
    go_enter Tryz.func46, Tryz.ntmps46
    go_wp2_with fail
    refine (HLd.out).mono ?_
    rintro r w5 ⟨rfl, rfl⟩
    go_wp2_with fail
    refine (rerr_rd g b _ h).mono ?_
    rintro r w5 ⟨rfl, rfl⟩
    go_wp2_with fail
    go_ret
    rw [HF.out]
    exact ⟨rfl, h, Only.refl _ _⟩

set_option maxHeartbeats 400000 in
theorem octRead_any (l : List UInt8) (w : World) :
    Calls Tryz.prog 16 #[.string (S l)] w fun r w' => r = .returned (.pointer (some ⟨w.heap.size + 1, 0, none⟩)) ∧ Rd w' (w.heap.size + 1) w.heap.size (l, 0) ∧ Below w.heap.size w w' ∧ w'.heap.size = w.heap.size + 2 := by
  have hcv := fun W => conv_bytes (P := Tryz.prog) Tryz.underlying9 Tryz.underlying91 Tryz.underlying5 W l
  go_enter Tryz.func16, Tryz.ntmps16
  go_wp2_with fail
  go_ret
  have hsz := bworld_size w 5 l
  have hm := Has.made (bworld w 5 l) 93 #[.slice (some ⟨w.heap.size, 0, none⟩) l.length (bcap w 5 l), .int .i64 0]
  rw [hsz] at hm
  refine ⟨rfl, ⟨by omega, some ⟨w.heap.size, 0, none⟩, bcap w 5 l, hm, bcap_le _ _ _, ?_⟩, (bworld_below w _ l).alloc (by rw [hsz]; omega) _, by simp [hsz]⟩
  intro hl
  refine ⟨0, rfl, fun i hi => ?_⟩
  rw [Nat.zero_add, World.cell?_alloc_past _ _ _ (by rw [hsz]; omega), bworld_cell w _ l i hi]
end Go.Proofs.YtdgfohffmbnjiaaGreatDoor
