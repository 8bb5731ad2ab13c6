/-
  The contracts of octet's reader, more: Num.
-/
import Derived.Test.YtihhgingdgepcaaRead
namespace Go.Proofs.Ytihhgingdgepcaa
open Go.RowKit

theorem or_byte (n c : Nat) (hn : n < 281474976710656) (hc : c < 256) : bits .or .i64 ((n : Int) * 256) (c : Int) = ((n * 256 + c : Nat) : Int) := by
  have e1 : (BitVec.ofInt 64 ((n : Int) * 256)).toNat = n * 256 := by
    rw [show (n : Int) * 256 = ((n * 256 : Nat) : Int) by omega, BitVec.ofInt_natCast, BitVec.toNat_ofNat]; exact Nat.mod_eq_of_lt (by omega)
  have e2 : (BitVec.ofInt 64 (c : Int)).toNat = c := by
    rw [BitVec.ofInt_natCast, BitVec.toNat_ofNat]; exact Nat.mod_eq_of_lt (by omega)
  show IntKind.i64.wrap ((BitVec.ofInt 64 ((n : Int) * 256) ||| BitVec.ofInt 64 (c : Int)).toNat : Int) = _
  rw [BitVec.toNat_or, e1, e2, IntKind.wrap_i64]
  have e3 : n * 256 ||| c = n * 256 + c := by
    have := Nat.two_pow_add_eq_or_of_lt (i := 8) (b := c) (by omega) n
    rw [show n * 256 = 2 ^ 8 * n by omega]; exact this.symm
  rw [e3]
  omega

set_option maxHeartbeats 1000000 in
theorem num_rd (m : Int) (g b : Nat) (st : R.St) (w : World) (h : Rd w g b st) (hcap : st.1.length ≤ 4611686018427387904) :
    Calls Try.prog 26 #[.pointer (some ⟨g, 0, none⟩), .int .i64 m] w fun r w' => r = .returned (.int .i64 (R.num m st).1) ∧ Rd w' g b (R.num m st).2 ∧ Only w w' g := by
  have hDR := digits_rd g b st w h hcap
  have hD7 := R.digits_le st
  have hDr := R.digits_rest st
  have hN : R.num m st = (fun d : Int × R.St => (fun x : List UInt8 × R.St => (fun st3 : R.St => (fun st4 : R.St => ((if st4.2 = 0 then (R.fold x.1 : Int) else 0), st4)) (if m < (R.fold x.1 : Int) then R.fail 3 st3 else st3)) (R.lead x.1 x.2)) (R.next d.1 d.2)) (R.digits st) := rfl
  generalize R.digits st = d at hDR hD7 hDr hN
  obtain ⟨d, st1⟩ := d
  simp only at hN hDR hD7 hDr
  have hNR := fun w' (hr : Rd w' g b st1) => next_rd d g b st1 w' hr (by omega)
  have hl7 := R.next_len d st1
  unfold Next at hNR
  generalize R.next d st1 = x at hNR hN hl7
  obtain ⟨ds, st2⟩ := x
  simp only at hN hl7
  have h7 : ds.length ≤ 7 := by omega
  have HNR := Lib.hid hNR; clear hNR
  have HDR := Lib.hid hDR; clear hDR
  clear hl7
  have HN := Lib.hid hN; clear hN
  cases ds with
  | nil =>
    obtain ⟨st3, hst3⟩ : ∃ st3, st3 = R.lead [] st2 := ⟨_, rfl⟩
    rw [← hst3] at HN
    have e3 : st3 = st2 := by rw [hst3, R.lead]; simp
    obtain rfl : st2 = st3 := e3.symm
    clear hst3 e3
    have hfold : ((R.fold [] : Nat) : Int) = 0 := rfl
    obtain ⟨ds, hds⟩ : ∃ ds : List UInt8, ds = [] := ⟨_, rfl⟩
    rw [← hds] at HN hfold
    have HFZ := Lib.hid hfold; clear hfold hds
    go_enter Try.func26, Try.ntmps26
    go_wp2_with fail
    refine (HDR.out).mono ?_
    rintro r w1 ⟨rfl, hr1, ho1⟩
    go_wp2_with fail
    refine (HNR.out _ hr1).mono ?_
    rintro r w2 ⟨A, k, rfl, hy, hr2, ho2⟩
    have HO := ho1.trans ho2
    go_wp2_with fail
    refine wp_loop_rounds 1 ?_
    rw [rounds_succ]
    rw [show (Value.int IntKind.i64 0) = .int .i64 (R.fold ds) by rw [HFZ.out]]
    by_cases hm : m < (R.fold ds : Int)
    · have HN2 : Hid (R.num m st = (if (R.fail 3 st2).2 = 0 then (R.fold ds : Int) else 0, R.fail 3 st2)) := by have := HN.out; rw [if_pos hm] at this; exact this
      go_wp2_with fail
      refine (rfail_rd 3 g b _ hr2).mono ?_
      rintro r w4 ⟨rfl, hr4, ho4⟩
      have he0 : ¬ (R.fail 3 st2).2 = 0 := by unfold R.fail R.failE; simp only; split <;> omega
      have heb : ((R.fail 3 st2).2 != 0) = true := by simpa using he0
      have HN3 : Hid (R.num m st = (0, R.fail 3 st2)) := by have := HN2.out; rw [if_neg he0] at this; exact this
      clear he0 HN2
      generalize R.fail 3 st2 = st4 at hr4 heb HN3
      go_wp2_with fail
      refine (rerr_rd g b _ hr4).mono ?_
      rintro r w5 ⟨rfl, rfl⟩
      go_wp2_with fail
      go_ret
      rw [HN3.out]
      exact ⟨rfl, hr4, HO.trans ho4⟩
    · have HN2 : Hid (R.num m st = (if (st2).2 = 0 then (R.fold ds : Int) else 0, st2)) := by have := HN.out; rw [if_neg hm] at this; exact this
      by_cases he0 : (st2).2 = 0
      · have HN3 : Hid (R.num m st = ((R.fold ds : Int), st2)) := by have := HN2.out; rw [if_pos he0] at this; exact this
        have heb : ((st2).2 != 0) = false := by simpa using he0
        clear he0 HN2
        go_wp2_with fail
        refine (rerr_rd g b _ hr2).mono ?_
        rintro r w5 ⟨rfl, rfl⟩
        go_wp2_with fail
        go_ret
        rw [HN3.out]
        exact ⟨rfl, hr2, HO⟩
      · have HN3 : Hid (R.num m st = (0, st2)) := by have := HN2.out; rw [if_neg he0] at this; exact this
        have heb : ((st2).2 != 0) = true := by simpa using he0
        clear he0 HN2
        go_wp2_with fail
        refine (rerr_rd g b _ hr2).mono ?_
        rintro r w5 ⟨rfl, rfl⟩
        go_wp2_with fail
        go_ret
        rw [HN3.out]
        exact ⟨rfl, hr2, HO⟩
  | cons c tl =>
    obtain ⟨ds, hds⟩ : ∃ ds, ds = c :: tl := ⟨_, rfl⟩
    rw [← hds] at HNR h7 HN
    have hpos : 0 < ds.length := by rw [hds]; simp
    have HDS := Lib.hid hds; clear hds
    have hcb0 : c.toNat < 256 := c.toNat_lt
    by_cases hc0 : c.toNat = 0
    · have hb0 : ((c.toNat : Int) == 0) = true := by simpa using hc0
      have hl3 : R.lead ds st2 = R.fail 4 st2 := by
        have : c = 0 := by apply UInt8.toNat_inj.1; simpa using hc0
        rw [R.lead, HDS.out, this]; simp
      rw [hl3] at HN
      clear hl3 hc0
      go_enter Try.func26, Try.ntmps26
      go_wp2_with fail
      refine (HDR.out).mono ?_
      rintro r w1 ⟨rfl, hr1, ho1⟩
      go_wp2_with fail
      refine (HNR.out _ hr1).mono ?_
      rintro r w2 ⟨A, k, rfl, hy, hr2, ho2⟩
      obtain ⟨off, rfl, hcl⟩ := hy (by intro e; rw [e] at hpos; simp at hpos)
      have hcells : ∀ k (hk : k < ds.length), w2.cell? ⟨b, off + k, none⟩ = some (.int .u8 ds[k].toNat) := fun k hk => by
        rw [hcl k hk]; simp [bcells, List.getElem?_eq_getElem hk]
      have hc00 : w2.cell? ⟨b, off, none⟩ = some (.int .u8 c.toNat) := by
        have := hcells 0 hpos
        have e : ds[0] = c := by simp [HDS.out]
        rw [e] at this; exact this
      go_wp2_with fail
      refine (rfail_rd 4 g b _ hr2).mono ?_
      rintro r w3 ⟨rfl, hr3, ho3⟩
      have HO := (ho1.trans ho2).trans ho3
      have hbg := hr2.1
      have HCL := Lib.hid (fun k hk => (World.cell?_of_block (a := ⟨b, off + k, none⟩) (ho3.block b (hy.lt (by intro e; rw [e] at hpos; simp at hpos)) (fun e => hbg (by injection e with e; exact e.symm)))).trans (hcells k hk)); clear hcells hcl
      go_wp2_with fail
      go_loop [6, 25] (fun v6 v25 => ∃ k : Nat, k ≤ ds.length ∧ v25 = .int .i64 k ∧ v6 = .int .i64 (R.fold (ds.take k))) (fun _ v25 => ds.length - (intOf v25).toNat)
      case atStart => exact ⟨0, Nat.zero_le _, rfl, by simp [R.fold]⟩
      case round =>
        obtain ⟨k, hk, rfl, rfl⟩ := hrel
        by_cases hlt : k < ds.length
        · have hcell := HCL.out k hlt
          have hft := R.fold_take_lt ds k h7 hlt
          have hcb : ds[k].toNat < 256 := ds[k].toNat_lt
          have hor := or_byte (R.fold (ds.take k)) ds[k].toNat hft hcb
          have HF := Lib.hid (R.fold_take ds k hlt)
          go_wp2_with fail
          go_round
          case rel => exact ⟨k + 1, by omega, by go_num, by rw [HF.out]; go_num⟩
          case measure => simp [intOf]; omega
        · have hke : k = ds.length := by omega
          subst hke
          rw [List.take_length]
          by_cases hm : m < (R.fold ds : Int)
          · have HN2 : Hid (R.num m st = (if (R.fail 3 (R.fail 4 st2)).2 = 0 then (R.fold ds : Int) else 0, R.fail 3 (R.fail 4 st2))) := by have := HN.out; rw [if_pos hm] at this; exact this
            go_wp2_with fail
            refine (rfail_rd 3 g b _ hr3).mono ?_
            rintro r w4 ⟨rfl, hr4, ho4⟩
            have he0 : ¬ (R.fail 3 (R.fail 4 st2)).2 = 0 := by unfold R.fail R.failE; simp only; split <;> omega
            have heb : ((R.fail 3 (R.fail 4 st2)).2 != 0) = true := by simpa using he0
            have HN3 : Hid (R.num m st = (0, R.fail 3 (R.fail 4 st2))) := by have := HN2.out; rw [if_neg he0] at this; exact this
            clear he0 HN2
            generalize R.fail 3 (R.fail 4 st2) = st4 at hr4 heb HN3
            go_wp2_with fail
            refine (rerr_rd g b _ hr4).mono ?_
            rintro r w5 ⟨rfl, rfl⟩
            go_wp2_with fail
            go_ret
            rw [HN3.out]
            exact ⟨rfl, hr4, HO.trans ho4⟩
          · have HN2 : Hid (R.num m st = (if ((R.fail 4 st2)).2 = 0 then (R.fold ds : Int) else 0, (R.fail 4 st2))) := by have := HN.out; rw [if_neg hm] at this; exact this
            by_cases he0 : ((R.fail 4 st2)).2 = 0
            · have HN3 : Hid (R.num m st = ((R.fold ds : Int), (R.fail 4 st2))) := by have := HN2.out; rw [if_pos he0] at this; exact this
              have heb : (((R.fail 4 st2)).2 != 0) = false := by simpa using he0
              clear he0 HN2
              go_wp2_with fail
              refine (rerr_rd g b _ hr3).mono ?_
              rintro r w5 ⟨rfl, rfl⟩
              go_wp2_with fail
              go_ret
              rw [HN3.out]
              exact ⟨rfl, hr3, HO⟩
            · have HN3 : Hid (R.num m st = (0, (R.fail 4 st2))) := by have := HN2.out; rw [if_neg he0] at this; exact this
              have heb : (((R.fail 4 st2)).2 != 0) = true := by simpa using he0
              clear he0 HN2
              go_wp2_with fail
              refine (rerr_rd g b _ hr3).mono ?_
              rintro r w5 ⟨rfl, rfl⟩
              go_wp2_with fail
              go_ret
              rw [HN3.out]
              exact ⟨rfl, hr3, HO⟩
    · have hb0 : ((c.toNat : Int) == 0) = false := by simpa using hc0
      have hl3 : R.lead ds st2 = st2 := by
        have : c ≠ 0 := by rintro rfl; simp at hc0
        rw [R.lead, HDS.out]; simp [this]
      rw [hl3] at HN
      clear hl3 hc0
      go_enter Try.func26, Try.ntmps26
      go_wp2_with fail
      refine (HDR.out).mono ?_
      rintro r w1 ⟨rfl, hr1, ho1⟩
      go_wp2_with fail
      refine (HNR.out _ hr1).mono ?_
      rintro r w2 ⟨A, k, rfl, hy, hr2, ho2⟩
      obtain ⟨off, rfl, hcl⟩ := hy (by intro e; rw [e] at hpos; simp at hpos)
      have hcells : ∀ k (hk : k < ds.length), w2.cell? ⟨b, off + k, none⟩ = some (.int .u8 ds[k].toNat) := fun k hk => by
        rw [hcl k hk]; simp [bcells, List.getElem?_eq_getElem hk]
      have hc00 : w2.cell? ⟨b, off, none⟩ = some (.int .u8 c.toNat) := by
        have := hcells 0 hpos
        have e : ds[0] = c := by simp [HDS.out]
        rw [e] at this; exact this
      have HCL := Lib.hid hcells; clear hcells hcl
      have HO := ho1.trans ho2
      go_wp2_with fail
      go_loop [6, 25] (fun v6 v25 => ∃ k : Nat, k ≤ ds.length ∧ v25 = .int .i64 k ∧ v6 = .int .i64 (R.fold (ds.take k))) (fun _ v25 => ds.length - (intOf v25).toNat)
      case atStart => exact ⟨0, Nat.zero_le _, rfl, by simp [R.fold]⟩
      case round =>
        obtain ⟨k, hk, rfl, rfl⟩ := hrel
        by_cases hlt : k < ds.length
        · have hcell := HCL.out k hlt
          have hft := R.fold_take_lt ds k h7 hlt
          have hcb : ds[k].toNat < 256 := ds[k].toNat_lt
          have hor := or_byte (R.fold (ds.take k)) ds[k].toNat hft hcb
          have HF := Lib.hid (R.fold_take ds k hlt)
          go_wp2_with fail
          go_round
          case rel => exact ⟨k + 1, by omega, by go_num, by rw [HF.out]; go_num⟩
          case measure => simp [intOf]; omega
        · have hke : k = ds.length := by omega
          subst hke
          rw [List.take_length]
          by_cases hm : m < (R.fold ds : Int)
          · have HN2 : Hid (R.num m st = (if (R.fail 3 st2).2 = 0 then (R.fold ds : Int) else 0, R.fail 3 st2)) := by have := HN.out; rw [if_pos hm] at this; exact this
            go_wp2_with fail
            refine (rfail_rd 3 g b _ hr2).mono ?_
            rintro r w4 ⟨rfl, hr4, ho4⟩
            have he0 : ¬ (R.fail 3 st2).2 = 0 := by unfold R.fail R.failE; simp only; split <;> omega
            have heb : ((R.fail 3 st2).2 != 0) = true := by simpa using he0
            have HN3 : Hid (R.num m st = (0, R.fail 3 st2)) := by have := HN2.out; rw [if_neg he0] at this; exact this
            clear he0 HN2
            generalize R.fail 3 st2 = st4 at hr4 heb HN3
            go_wp2_with fail
            refine (rerr_rd g b _ hr4).mono ?_
            rintro r w5 ⟨rfl, rfl⟩
            go_wp2_with fail
            go_ret
            rw [HN3.out]
            exact ⟨rfl, hr4, HO.trans ho4⟩
          · have HN2 : Hid (R.num m st = (if (st2).2 = 0 then (R.fold ds : Int) else 0, st2)) := by have := HN.out; rw [if_neg hm] at this; exact this
            by_cases he0 : (st2).2 = 0
            · have HN3 : Hid (R.num m st = ((R.fold ds : Int), st2)) := by have := HN2.out; rw [if_pos he0] at this; exact this
              have heb : ((st2).2 != 0) = false := by simpa using he0
              clear he0 HN2
              go_wp2_with fail
              refine (rerr_rd g b _ hr2).mono ?_
              rintro r w5 ⟨rfl, rfl⟩
              go_wp2_with fail
              go_ret
              rw [HN3.out]
              exact ⟨rfl, hr2, HO⟩
            · have HN3 : Hid (R.num m st = (0, st2)) := by have := HN2.out; rw [if_neg he0] at this; exact this
              have heb : ((st2).2 != 0) = true := by simpa using he0
              clear he0 HN2
              go_wp2_with fail
              refine (rerr_rd g b _ hr2).mono ?_
              rintro r w5 ⟨rfl, rfl⟩
              go_wp2_with fail
              go_ret
              rw [HN3.out]
              exact ⟨rfl, hr2, HO⟩
end Go.Proofs.Ytihhgingdgepcaa
