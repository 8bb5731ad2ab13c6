/-
  The contract of the statements' own texts.
-/
import Derived.Test.YtpclknempmhmiaaPlain
import Derived.Test.YtpclknempmhmiaaTexts
namespace Go.Proofs.Ytpclknempmhmiaa
open Go.RowKit

theorem Pl.grown {w w' : World} {p : Nat} {st : R.St} {row : Option Nat} (h : Pl w p st) (hw : w.grownBy w' row) (hp : some p ≠ row) : Pl w' p st :=
  (hw.block p (Has.lt h) hp).trans h

def PTextsPost (w : World) (p : Nat) (x : List (List UInt8) × R.St) (r : Ending) (w' : World) : Prop :=
  ∃ v, r = .returned v ∧ w'.ownsRow w.heap.size 9 1 v x.1.length (strs x.1) ∧ Pl w' p x.2 ∧ Only w w' p

/-- Where the rounds stand: all is well so far, or an error has come. -/
def Way (n : Nat) (m : Int) (st1 : R.St) (k : Nat) (stk : R.St) (acc : List (List UInt8)) : Prop :=
  (stk.2 = 0 → R.textsK n m st1 [] = R.textsK (n - k) m stk acc) ∧ (stk.2 ≠ 0 → R.textsK n m st1 [] = ([], stk))

set_option maxHeartbeats 1000000 in
theorem texts_pl (many m : Int) (p : Nat) (st : R.St) (w : World) (h : Pl w p st) (hcap : st.1.length ≤ 4000000000) :
    Calls Try.prog 37 #[.pointer (some ⟨p, 0, none⟩), .int .i64 many, .int .i64 m] w (PTextsPost w p (R.texts many m st)) := by
  have hN := num_pl many p st w h (by omega)
  have hT : R.texts many m st = R.textsK (R.num many st).1.toNat m (R.num many st).2 [] := rfl
  have hrest := R.num_rest many st
  have hnn := R.num_nat many st
  have hz : (R.num many st).2.2 ≠ 0 → (R.num many st).1 = 0 := R.num_zero many st
  generalize R.num many st = x at hN hT hrest hnn hz
  obtain ⟨n, st1⟩ := x
  simp only at hN hT hrest hnn hz
  obtain ⟨n, rfl⟩ := Int.eq_ofNat_of_zero_le hnn
  rw [Int.toNat_natCast] at hT
  have HN := Lib.hid hN; clear hN
  have HT := Lib.hid hT; clear hT
  have HZ := Lib.hid hz; clear hz
  have hplt := Has.lt h
  obtain ⟨i0, hi, hz0, hz1, hz2⟩ := info_parts sinfo
  have HI := Lib.hid (And.intro hi (And.intro hz0 (And.intro hz1 hz2))); clear hi hz0 hz1 hz2
  go_enter Try.func37, Try.ntmps37
  go_wp2_with fail
  refine (HN.out).mono ?_
  rintro r w1 ⟨rfl, hr1, ho1⟩
  go_wp2_with fail
  go_loopw [8, 9] (fun v8 v9 wr => ∃ (k : Nat) (stk : R.St) (acc : List (List UInt8)), k ≤ n ∧ v9 = .int .i64 k ∧ acc.length = k ∧ wr.ownsRow w.heap.size 9 1 v8 acc.length (strs acc) ∧
      Way n m st1 k stk acc ∧ (stk.2 = 0 → acc.length + stk.1.length ≤ st.1.length) ∧ stk.1.length ≤ st.1.length ∧ Pl wr p stk ∧ Only w wr p)
    (fun _ v9 _ => n - (intOf v9).toNat)
  case atStart =>
    refine ⟨0, st1, [], Nat.zero_le _, rfl, rfl, World.ownsRow_nil _ _ _ _, ⟨fun _ => rfl, fun he => ?_⟩, fun _ => by simpa using hrest, hrest, hr1, ho1⟩
    have h0 : n = 0 := by have := HZ.out he; omega
    rw [h0]; rfl
  case round =>
    obtain ⟨k, stk, acc, hk, rfl, hacc, hown, hway, hcons, hcap2, hrk, hok⟩ := hrel
    have HW := Lib.hid hway; clear hway
    have HA := Lib.hid hacc; clear hacc
    have HC := Lib.hid hcons; clear hcons
    have hq : wr.cell? ⟨p, 1, none⟩ = some (.int .i64 stk.2) := hrk.cell 1
    by_cases he : stk.2 = 0
    · have heb : (stk.2 == 0) = true := by simpa using he
      have heb' : (stk.2 != 0) = false := by simpa using he
      have htk := HW.out.1 he
      have hco := HC.out he
      clear he HW HC
      have HTK := Lib.hid htk; clear htk
      by_cases hlt : k < n
      · have hX := num_pl m p stk wr hrk (by omega)
        have hrest2 := R.num_rest m stk
        have hless := R.text_less m stk
        have htr : (R.text m stk).2.1.length ≤ stk.1.length := Nat.le_trans (R.next_rest _ _) hrest2
        obtain ⟨j, hj⟩ : ∃ j, n - k = j + 1 := ⟨n - k - 1, by omega⟩
        have hstep : R.textsK (n - k) m stk acc = if (R.text m stk).2.2 = 0 then R.textsK j m (R.text m stk).2 (acc ++ [(R.text m stk).1]) else ([], (R.text m stk).2) := by rw [hj]; rfl
        have hte : R.text m stk = R.next (R.num m stk).1 (R.num m stk).2 := rfl
        rw [hte] at hless hstep htr
        generalize R.num m stk = x at hX hrest2 hless hstep htr
        obtain ⟨d, st2⟩ := x
        simp only at hX hrest2 hless hstep htr
        have hY := fun w2 (hr2 : Pl w2 p st2) => raw_pl d p st2 w2 hr2 (by omega)
        generalize R.next d st2 = y at hY hless hstep htr
        obtain ⟨t, stn⟩ := y
        simp only at hY hless hstep htr
        have HX := Lib.hid hX; clear hX
        have HY := Lib.hid hY; clear hY
        have HJ := Lib.hid hj; clear hj hte
        have HS := Lib.hid hstep; clear hstep
        have HLS := Lib.hid hless; clear hless
        go_wp2_with fail
        refine (HX.out).mono ?_
        rintro r w2 ⟨rfl, hr2, ho2⟩
        go_wp2_with fail
        refine (HY.out _ hr2).mono ?_
        rintro r w3 ⟨rfl, hr3, ho3⟩
        have ho23 := ho2.trans ho3
        have hownA := (own_below hown ho23 hplt).alloc (.cells #[.string (S t)] 9)
        have HO2 := Lib.hid hownA; clear hownA
        have hmade : ∀ (j : Nat) (u : Value), [Value.string (S t)][j]? = some u → (w3.alloc (.cells #[.string (S t)] 9)).cell? ((⟨w3.heap.size, 0, none⟩ : Addr).add j) = some u := by
          intro j u hu
          cases j with
          | zero => rw [show (⟨w3.heap.size, 0, none⟩ : Addr).add 0 = ⟨w3.heap.size, 0, none⟩ from rfl, World.cell?_alloc_at _ _ _ _ rfl]; simpa using hu
          | succ j => simp at hu
        have HM := Lib.hid hmade; clear hmade
        have hsz2 : w.heap.size ≤ w3.heap.size := (hok.trans ho23).size
        have hlenA : acc.length + 1 ≤ 4000000001 := by omega
        have hkb : k ≤ 4000000000 := by have := HA.out; omega
        go_wp2_with (at_builtin; refine wpList_append_own _ rfl (.tmp 25) (.tmp 31) 33 rfl w.heap.size 9 i0 (.string ⟨#[]⟩) 1 16 Try.underlying33 HI.out.1 HI.out.2.1 HI.out.2.2.1 HI.out.2.2.2 rfl (by decide) u8 acc.length (strs acc) rfl HO2.out ⟨w3.heap.size, 0, none⟩ 1 1 [.string (S t)] rfl rfl HM.out (by simp [Value.oneCell']) (by simp only [maxLen]; omega) (by omega) (by simp; omega) ?_; intro v8 w4 hown3 hg3 hnil3)
        have hg3' := grown_alloc _ hg3
        have hrow : ∀ k, u8.ownBlock = some k → w.heap.size ≤ k := fun k hk => (hown.lt k hk).1
        have hr4 : Pl w4 p stn := hr3.grown hg3' (fun e => by have := hrow p e.symm; omega)
        have ho4 : Only w w4 p := (hok.trans ho23).own hg3' hrow
        have hown4 : w4.ownsRow w.heap.size 9 1 v8 (acc ++ [t]).length (strs (acc ++ [t])) := by rw [← strs_snoc, List.length_append]; exact hown3
        clear hown3 hg3 hnil3 hg3' hrow hown hok ho2 ho3 ho23
        go_wp2_with fail
        go_roundw
        case rel =>
          refine ⟨k + 1, stn, acc ++ [t], by omega, by go_num, by rw [List.length_append, HA.out]; rfl, hown4, ⟨fun h0 => ?_, fun h0 => ?_⟩, fun h0 => ?_, by omega, hr4, ho4⟩
          · have := HS.out
            rw [if_pos h0] at this
            rw [HTK.out, this]; congr 1; have := HJ.out; omega
          · have := HS.out
            rw [if_neg h0] at this
            rw [HTK.out, this]
          · have := HLS.out h0
            rw [List.length_append]; simp only [List.length_cons, List.length_nil]; omega
        case measure => simp [intOf]; omega
      · have hkn : n - k = 0 := by omega
        have htk := HTK.out
        rw [hkn] at htk
        have HTK2 := Lib.hid htk; clear htk HTK hkn
        go_wp2_with fail
        go_ret
        rw [HT.out, HTK2.out]
        exact ⟨_, rfl, hown, hrk, hok⟩
    · have heb : (stk.2 == 0) = false := by simpa using he
      have heb' : (stk.2 != 0) = true := by simpa using he
      have htk := HW.out.2 he
      clear he HW HC
      have HTK := Lib.hid htk; clear htk
      by_cases hlt : k < n
      all_goals
        go_wp2_with fail
        go_ret
        rw [HT.out, HTK.out]
        exact ⟨_, rfl, World.ownsRow_nil _ _ _ _, hrk, hok⟩
end Go.Proofs.Ytpclknempmhmiaa
