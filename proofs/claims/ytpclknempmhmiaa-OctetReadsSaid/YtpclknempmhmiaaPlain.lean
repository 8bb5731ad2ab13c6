/-
  The contracts of the statements' own reader, plain.
-/
import Derived.Test.YtpclknempmhmiaaReadNum
import Derived.Test.YtpclknempmhmiaaReadPure
namespace Go.Proofs.Ytpclknempmhmiaa
open Go.RowKit

def Pl (w : World) (p : Nat) (st : R.St) : Prop := Has w p 49 #[.string (S st.1), .int .i64 st.2]

theorem Pl.only {w w' : World} {p g : Nat} {st : R.St} (h : Pl w p st) (ho : Only w w' g) (hne : p ≠ g) : Pl w' p st := Only.has ho h hne

set_option maxHeartbeats 1000000 in
theorem raw_pl (n : Int) (p : Nat) (st : R.St) (w : World) (h : Pl w p st) (hcap : st.1.length ≤ 4611686018427387904) :
    Calls Try.prog 36 #[.pointer (some ⟨p, 0, none⟩), .int .i64 n] w fun r w' => r = .returned (.string (S (R.next n st).1)) ∧ Pl w' p (R.next n st).2 ∧ Only w w' p := by
  obtain ⟨l, e⟩ := st
  have h0 : w.cell? ⟨p, 0, none⟩ = some (.string (S l)) := h.cell 0
  have h1 : w.cell? ⟨p, 1, none⟩ = some (.int .i64 e) := h.cell 1
  have hf0 : w.frozen? ⟨p, 0, none⟩ = false := h.free 0
  have hf1 : w.frozen? ⟨p, 1, none⟩ = false := h.free 1
  have HH := Lib.hid h; clear h
  by_cases he : e = 0
  · subst he
    by_cases hn : n < 0
    · have hR : R.next n (l, 0) = ([], (l, 1)) := by simp [R.next, hn]
      have HR := Lib.hid hR; clear hR
      go_enter Try.func36, Try.ntmps36
      go_wp2_with fail
      go_ret
      rw [HR.out]
      exact ⟨rfl, HH.out.set 1 (.int .i64 1), Only.set _ _ _ _⟩
    · by_cases hlt : (l.length : Int) < n
      · have hR : R.next n (l, 0) = ([], (l, 2)) := by simp [R.next, hn, hlt]
        have HR := Lib.hid hR; clear hR
        go_enter Try.func36, Try.ntmps36
        go_wp2_with fail
        go_ret
        rw [HR.out]
        exact ⟨rfl, HH.out.set 1 (.int .i64 2), Only.set _ _ _ _⟩
      · obtain ⟨k, rfl⟩ := Int.eq_ofNat_of_zero_le (by omega : 0 ≤ n)
        have hk : k ≤ l.length := by omega
        have hR := R.next_ok k l hk
        have HR := Lib.hid hR; clear hR
        have hmin : min k l.length = k := by omega
        go_enter Try.func36, Try.ntmps36
        go_wp2_with fail
        go_ret
        rw [HR.out]
        exact ⟨rfl, HH.out.set 0 (.string (S (l.drop k))), Only.set _ _ _ _⟩
  · have hb : (e == 0) = false := by simpa using he
    have hb' : (e != 0) = true := by simpa using he
    have hR := R.next_bad n l e he
    have HR := Lib.hid hR; clear hR he
    go_enter Try.func36, Try.ntmps36
    go_wp2_with fail
    go_ret
    rw [HR.out]
    exact ⟨rfl, HH.out, Only.refl _ _⟩

set_option maxHeartbeats 1000000 in
theorem num_pl (m : Int) (p : Nat) (st : R.St) (w : World) (h : Pl w p st) (hcap : st.1.length ≤ 4611686018427387904) :
    Calls Try.prog 35 #[.pointer (some ⟨p, 0, none⟩), .int .i64 m] w fun r w' => r = .returned (.int .i64 (R.num m st).1) ∧ Pl w' p (R.num m st).2 ∧ Only w w' p := by
  have hN := raw_pl 1 p st w h hcap
  have hc1 := R.next_rest 1 st
  have hnil := R.num_nil m st
  have hbig := R.num_big m st
  have hgo := R.num_go m st
  have hok := R.next_cons_ok 1 st
  generalize R.next 1 st = x at hN hc1 hnil hbig hgo hok
  obtain ⟨hd, st1⟩ := x
  simp only at hc1 hN
  have HN := Lib.hid hN; clear hN
  cases hd with
  | nil =>
    have HR := Lib.hid (hnil st1 rfl); clear hnil hbig hgo hok
    go_enter Try.func35, Try.ntmps35
    go_wp2_with fail
    refine (HN.out).mono ?_
    rintro r w1 ⟨rfl, hr1, ho1⟩
    go_wp2_with fail
    go_ret
    rw [HR.out]
    exact ⟨rfl, hr1, ho1⟩
  | cons c t =>
    have hc256 : c.toNat < 256 := c.toNat_lt
    have he1 := hok st1 c t rfl
    obtain ⟨L, hL⟩ : ∃ L, L = c :: t := ⟨_, rfl⟩
    have hLpos : 0 < L.length := by rw [hL]; simp
    have hidx : ∀ W : World, (Instr.index 9 (.string (S L)) (.int .i64 0)).run Try.prog W = .ok (.int .u8 c.toNat) W := fun W => by rw [hL]; exact run_index_S0 W c t _ Try.underlying9
    have hLne : L.isEmpty = false := by rw [hL]; rfl
    rw [← hL] at HN
    have HL := Lib.hid hL
    by_cases h7 : 7 < c.toNat
    · have HR := Lib.hid (hbig st1 c t rfl h7); clear hnil hbig hgo hok
      clear hL
      have h7' : (7 : Int) < (c.toNat : Int) := by omega
      go_enter Try.func35, Try.ntmps35
      go_wp2_with fail
      refine (HN.out).mono ?_
      rintro r w1 ⟨rfl, hr1, ho1⟩
      have hq1 : w1.cell? ⟨p, 1, none⟩ = some (.int .i64 st1.2) := hr1.cell 1
      have hf1 : w1.frozen? ⟨p, 1, none⟩ = false := hr1.free 1
      go_wp2_with fail
      go_ret
      rw [HR.out]
      refine ⟨rfl, ?_, ho1.trans (Only.set _ _ _ _)⟩
      have := hr1.set 1 (.int .i64 4)
      unfold Pl R.fail R.failE
      rw [if_pos he1]; exact this
    · have h7' : ¬ (7 : Int) < (c.toNat : Int) := by omega
      have hN2 := fun w1 (hr1 : Pl w1 p st1) => raw_pl c.toNat p st1 w1 hr1 (by omega)
      have hc2 := R.next_rest c.toNat st1
      have hl7 := R.next_len c.toNat st1
      have hg2 := fun st2 ds => hgo st1 st2 c t ds rfl h7
      have hok2 := R.next_cons_ok c.toNat st1
      generalize R.next c.toNat st1 = x at hN2 hc2 hg2 hok2 hl7
      obtain ⟨ds, st2⟩ := x
      have HR := Lib.hid (hg2 st2 ds rfl)
      simp only at hN2 hc2 hl7
      have HN2 := Lib.hid hN2; clear hN2 hg2 hnil hbig hgo hok hL
      have hl7' : ds.length ≤ 7 := by omega
      clear hl7
      have he2 := hok2 st2
      clear hok2
      cases ds with
      | nil =>
        obtain ⟨ds, hds⟩ : ∃ ds : List UInt8, ds = [] := ⟨_, rfl⟩
        have hfold : ((R.fold ds : Nat) : Int) = 0 := by rw [hds]; rfl
        have hlead : R.lead ds st2 = st2 := by rw [hds, R.lead]; simp
        rw [← hds] at HR
        have HFZ := Lib.hid hfold; clear hfold hds he2
        have HL3 := Lib.hid hlead; clear hlead
        by_cases he2' : st2.2 = 0
        · have hz0 : 0 = 0 := rfl
          go_enter Try.func35, Try.ntmps35
          go_wp2_with fail
          refine (HN.out).mono ?_
          rintro r w1 ⟨rfl, hr1, ho1⟩
          have hq1 : w1.cell? ⟨p, 1, none⟩ = some (.int .i64 st1.2) := hr1.cell 1
          go_wp2_with fail
          refine (HN2.out _ hr1).mono ?_
          rintro r w2 ⟨rfl, hr2, ho2⟩
          have hq2 : w2.cell? ⟨p, 1, none⟩ = some (.int .i64 0) := by rw [← he2']; exact hr2.cell 1
          have hf2 : w2.frozen? ⟨p, 1, none⟩ = false := hr2.free 1
          go_wp2_with fail
          refine wp_loop_rounds 1 ?_
          rw [rounds_succ]
          by_cases hm : m < 0
          · have HR3 : Hid (R.num m st = (0, (st2.1, 3))) := HR.out.trans (by rw [HL3.out]; exact R.numEnd_long m ds st2 he2' (by rw [HFZ.out]; exact hm))
            go_wp2_with fail
            go_ret
            rw [HR3.out]
            exact ⟨rfl, hr2.set 1 (.int .i64 3), (ho1.trans ho2).trans (Only.set _ _ _ _)⟩
          · have HR3 : Hid (R.num m st = ((0 : Int), st2)) := HR.out.trans (by rw [HL3.out, R.numEnd_ok m ds st2 he2' (by rw [HFZ.out]; exact hm), HFZ.out])
            go_wp2_with fail
            go_ret
            rw [HR3.out]
            exact ⟨rfl, hr2, ho1.trans ho2⟩
        · have heb : (st2.2 == 0) = false := by simpa using he2'
          have heb' : (st2.2 != 0) = true := by simpa using he2'
          have HR3 : Hid (R.num m st = (0, st2)) := HR.out.trans (by rw [HL3.out]; exact R.numEnd_err m ds st2 he2')
          go_enter Try.func35, Try.ntmps35
          go_wp2_with fail
          refine (HN.out).mono ?_
          rintro r w1 ⟨rfl, hr1, ho1⟩
          have hq1 : w1.cell? ⟨p, 1, none⟩ = some (.int .i64 st1.2) := hr1.cell 1
          go_wp2_with fail
          refine (HN2.out _ hr1).mono ?_
          rintro r w2 ⟨rfl, hr2, ho2⟩
          have hq2 : w2.cell? ⟨p, 1, none⟩ = some (.int .i64 st2.2) := hr2.cell 1
          have hf2 : w2.frozen? ⟨p, 1, none⟩ = false := hr2.free 1
          go_wp2_with fail
          refine wp_loop_rounds 1 ?_
          rw [rounds_succ]
          go_wp2_with fail
          go_ret
          rw [HR3.out]
          exact ⟨rfl, hr2, ho1.trans ho2⟩
      | cons d u =>
        have he2' := he2 d u rfl
        obtain ⟨ds, hds⟩ : ∃ ds, ds = d :: u := ⟨_, rfl⟩
        have hpos : 0 < ds.length := by rw [hds]; simp
        have hidx2 : ∀ W : World, (Instr.index 9 (.string (S ds)) (.int .i64 0)).run Try.prog W = .ok (.int .u8 d.toNat) W := fun W => by rw [hds]; exact run_index_S0 W d u _ Try.underlying9
        have hdd : d.toNat < 256 := d.toNat_lt
        have hne : ds.isEmpty = false := by rw [hds]; rfl
        have hhead : ds.head? = some d := by rw [hds]; rfl
        rw [← hds] at HR HN2 hl7'
        clear hds he2
        have HHD := Lib.hid hhead; clear hhead
        by_cases hz : d.toNat = 0
        · have hzb : ((d.toNat : Int) == 0) = true := by simpa using hz
          have hlead : R.lead ds st2 = R.fail 4 st2 := by
            have : d = 0 := by apply UInt8.toNat_inj.1; simpa using hz
            rw [R.lead, HHD.out, this]; simp
          have hf4 : R.fail 4 st2 = (st2.1, 4) := by unfold R.fail R.failE; rw [if_pos he2']
          have HR3 : Hid (R.num m st = (0, (st2.1, 4))) := HR.out.trans (by rw [hlead, hf4]; exact R.numEnd_err m ds (st2.1, 4) (by simp))
          clear hlead hf4 hz
          go_enter Try.func35, Try.ntmps35
          go_wp2_with fail
          refine (HN.out).mono ?_
          rintro r w1 ⟨rfl, hr1, ho1⟩
          have hq1 : w1.cell? ⟨p, 1, none⟩ = some (.int .i64 st1.2) := hr1.cell 1
          go_wp2_with fail
          refine (HN2.out _ hr1).mono ?_
          rintro r w2 ⟨rfl, hr2, ho2⟩
          have hq2 : w2.cell? ⟨p, 1, none⟩ = some (.int .i64 0) := by rw [← he2']; exact hr2.cell 1
          have hf2 : w2.frozen? ⟨p, 1, none⟩ = false := hr2.free 1
          go_wp2_with fail
          go_loop [7, 8] (fun v7 v8 => ∃ k : Nat, k ≤ ds.length ∧ v8 = .int .i64 k ∧ v7 = .int .i64 (R.fold (ds.take k))) (fun _ v8 => ds.length - (intOf v8).toNat)
          case atStart => exact ⟨0, Nat.zero_le _, rfl, by simp [R.fold]⟩
          case round =>
            obtain ⟨k, hk, rfl, rfl⟩ := hrel
            by_cases hlt : k < ds.length
            · have hft := R.fold_take_lt ds k hl7' hlt
              have hcb : ds[k].toNat < 256 := ds[k].toNat_lt
              have hidxk : ∀ W : World, (Instr.index 9 (.string (S ds)) (.int .i64 (k : Int))).run Try.prog W = .ok (.int .u8 ds[k].toNat) W := fun W => run_index_S W ds _ k Try.underlying9 hlt
              have HF := Lib.hid (R.fold_take ds k hlt)
              go_wp2_with fail
              go_round
              case rel => exact ⟨k + 1, by omega, by go_num, by rw [HF.out]; go_num⟩
              case measure => simp [intOf]; omega
            · have hke : k = ds.length := by omega
              subst hke
              rw [List.take_length]
              go_wp2_with fail
              go_ret
              rw [HR3.out]
              exact ⟨rfl, hr2.set 1 (.int .i64 4), (ho1.trans ho2).trans (Only.set _ _ _ _)⟩
        · have hzb : ((d.toNat : Int) == 0) = false := by simpa using hz
          have hlead : R.lead ds st2 = st2 := by
            have : d ≠ 0 := by rintro rfl; simp at hz
            rw [R.lead, HHD.out]; simp [this]
          have HL3 := Lib.hid hlead; clear hlead hz
          go_enter Try.func35, Try.ntmps35
          go_wp2_with fail
          refine (HN.out).mono ?_
          rintro r w1 ⟨rfl, hr1, ho1⟩
          have hq1 : w1.cell? ⟨p, 1, none⟩ = some (.int .i64 st1.2) := hr1.cell 1
          go_wp2_with fail
          refine (HN2.out _ hr1).mono ?_
          rintro r w2 ⟨rfl, hr2, ho2⟩
          have hq2 : w2.cell? ⟨p, 1, none⟩ = some (.int .i64 0) := by rw [← he2']; exact hr2.cell 1
          have hf2 : w2.frozen? ⟨p, 1, none⟩ = false := hr2.free 1
          go_wp2_with fail
          go_loop [7, 8] (fun v7 v8 => ∃ k : Nat, k ≤ ds.length ∧ v8 = .int .i64 k ∧ v7 = .int .i64 (R.fold (ds.take k))) (fun _ v8 => ds.length - (intOf v8).toNat)
          case atStart => exact ⟨0, Nat.zero_le _, rfl, by simp [R.fold]⟩
          case round =>
            obtain ⟨k, hk, rfl, rfl⟩ := hrel
            by_cases hlt : k < ds.length
            · have hft := R.fold_take_lt ds k hl7' hlt
              have hcb : ds[k].toNat < 256 := ds[k].toNat_lt
              have hidxk : ∀ W : World, (Instr.index 9 (.string (S ds)) (.int .i64 (k : Int))).run Try.prog W = .ok (.int .u8 ds[k].toNat) W := fun W => run_index_S W ds _ k Try.underlying9 hlt
              have HF := Lib.hid (R.fold_take ds k hlt)
              go_wp2_with fail
              go_round
              case rel => exact ⟨k + 1, by omega, by go_num, by rw [HF.out]; go_num⟩
              case measure => simp [intOf]; omega
            · have hke : k = ds.length := by omega
              subst hke
              rw [List.take_length]
              by_cases hm : m < (R.fold ds : Int)
              · have HR3 : Hid (R.num m st = (0, (st2.1, 3))) := HR.out.trans (by rw [HL3.out]; exact R.numEnd_long m ds st2 he2' hm)
                go_wp2_with fail
                go_ret
                rw [HR3.out]
                exact ⟨rfl, hr2.set 1 (.int .i64 3), (ho1.trans ho2).trans (Only.set _ _ _ _)⟩
              · have HR3 : Hid (R.num m st = ((R.fold ds : Int), st2)) := HR.out.trans (by rw [HL3.out]; exact R.numEnd_ok m ds st2 he2' hm)
                go_wp2_with fail
                go_ret
                rw [HR3.out]
                exact ⟨rfl, hr2, ho1.trans ho2⟩
end Go.Proofs.Ytpclknempmhmiaa
