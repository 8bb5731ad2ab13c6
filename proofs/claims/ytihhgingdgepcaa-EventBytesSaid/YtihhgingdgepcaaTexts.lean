/-
  The contract of octet's Texts.
-/
import Derived.Test.YtihhgingdgepcaaReadMore
import Derived.Test.YtihhgingdgepcaaTextsSpec
namespace Go.Proofs.Ytihhgingdgepcaa
open Go.RowKit

theorem sinfo : (Try.prog.info? 9).map (fun i => (i.zero, i.size, i.bytes)) = some (some (.string ⟨#[]⟩), 1, 16) := by kernel_rfl

theorem Rd.grown {w w' : World} {g b : Nat} {st : R.St} {row : Option Nat} (h : Rd w g b st) (hw : w.grownBy w' row) (hg : some g ≠ row) (hb : some b ≠ row) : Rd w' g b st := by
  obtain ⟨hn, A, cap, hh, hc, hy⟩ := h
  refine ⟨hn, A, cap, (hw.block g hh.lt hg).trans hh, hc, ?_⟩
  by_cases hl : st.1 = []
  · rw [hl]; exact Bytes.nil _ _ _
  · exact hy.keep (hw.block b (hy.lt hl) hb)

/-- What Texts leaves behind. -/
def TextsPost (w : World) (g b : Nat) (x : List (List UInt8) × R.St) (r : Ending) (w' : World) : Prop :=
  ∃ v, r = .returned v ∧ w'.ownsRow w.heap.size 9 1 v x.1.length (strs x.1) ∧ Rd w' g b x.2 ∧ Only w w' g

set_option maxHeartbeats 1000000 in
theorem texts_rd (many m : Int) (g b : Nat) (st : R.St) (w : World) (h : Rd w g b st) (hcap : st.1.length ≤ 4000000000) (hbg : b < w.heap.size) :
    Calls Try.prog 48 #[.pointer (some ⟨g, 0, none⟩), .int .i64 many, .int .i64 m] w (TextsPost w g b (R.texts many m st)) := by
  have hN := num_rd many g b st w h (by omega)
  have hT : R.texts many m st = R.textsK (R.num many st).1.toNat m (R.num many st).2 [] := rfl
  have hrest := R.num_rest many st
  have hnn := R.num_nat many st
  generalize R.num many st = x at hN hT hrest hnn
  obtain ⟨n, st1⟩ := x
  simp only at hN hT hrest hnn
  obtain ⟨n, rfl⟩ := Int.eq_ofNat_of_zero_le hnn
  rw [Int.toNat_natCast] at hT
  have HN := Lib.hid hN; clear hN
  have HT := Lib.hid hT; clear hT
  have hglt := h.lt
  have hgb := h.1
  obtain ⟨i0, hi, hz0, hz1, hz2⟩ := info_parts sinfo
  have HI := Lib.hid (And.intro hi (And.intro hz0 (And.intro hz1 hz2))); clear hi hz0 hz1 hz2
  go_enter Try.func48, Try.ntmps48
  go_wp2_with fail
  refine (HN.out).mono ?_
  rintro r w1 ⟨rfl, hr1, ho1⟩
  go_wp2_with fail
  go_loopw [7, 12] (fun v7 v12 wr => ∃ (k : Nat) (stk : R.St) (acc : List (List UInt8)), k ≤ n ∧ v12 = .int .i64 k ∧ acc.length = k ∧ wr.ownsRow w.heap.size 9 1 v7 acc.length (strs acc) ∧
      R.textsK n m st1 [] = R.textsK (n - k) m stk acc ∧ acc.length + stk.1.length ≤ st.1.length ∧ Rd wr g b stk ∧ Only w wr g)
    (fun _ v12 _ => n - (intOf v12).toNat)
  case atStart => exact ⟨0, st1, [], Nat.zero_le _, rfl, rfl, World.ownsRow_nil _ _ _ _, rfl, by simpa using hrest, hr1, ho1⟩
  case round =>
    obtain ⟨k, stk, acc, hk, rfl, hacc, hown, htk, hcons, hrk, hok⟩ := hrel
    have HTK := Lib.hid htk; clear htk
    have HA := Lib.hid hacc; clear hacc
    by_cases hlt : k < n
    · have hX := text_rd m g b stk wr hrk (by omega)
      have hless := R.text_less m stk
      obtain ⟨j, hj⟩ : ∃ j, n - k = j + 1 := ⟨n - k - 1, by omega⟩
      have hstep : R.textsK (n - k) m stk acc = if (R.text m stk).2.2 = 0 then R.textsK j m (R.text m stk).2 (acc ++ [(R.text m stk).1]) else ([], (R.text m stk).2) := by rw [hj]; rfl
      generalize R.text m stk = x at hX hless hstep
      obtain ⟨t, stn⟩ := x
      simp only at hX hless hstep
      have HX := Lib.hid hX; clear hX
      have HJ := Lib.hid hj; clear hj
      by_cases he : stn.2 = 0
      · have heb : (stn.2 != 0) = false := by simpa using he
        have hl := hless he
        rw [if_pos he] at hstep
        have HS := Lib.hid hstep; clear hstep hless he
        go_wp2_with fail
        refine (HX.out).mono ?_
        rintro r w2 ⟨rfl, hr2, ho2⟩
        go_wp2_with fail
        refine (rerr_rd g b _ hr2).mono ?_
        rintro r w5 ⟨rfl, rfl⟩
        have hownA := (own_below hown ho2 hglt).alloc (.cells #[.string (S t)] 9)
        have HO2 := Lib.hid hownA; clear hownA
        have hmade : ∀ (j : Nat) (u : Value), [Value.string (S t)][j]? = some u → (w2.alloc (.cells #[.string (S t)] 9)).cell? ((⟨w2.heap.size, 0, none⟩ : Addr).add j) = some u := by
          intro j u hu
          cases j with
          | zero => rw [show (⟨w2.heap.size, 0, none⟩ : Addr).add 0 = ⟨w2.heap.size, 0, none⟩ from rfl, World.cell?_alloc_at _ _ _ _ rfl]; simpa using hu
          | succ j => simp at hu
        have HM := Lib.hid hmade; clear hmade
        have hsz2 : w.heap.size ≤ w2.heap.size := (hok.trans ho2).size
        have hlenA : acc.length + 1 ≤ 4000000000 := by omega
        have hkb : k ≤ 4000000000 := by have := HA.out; omega
        go_wp2_with (at_builtin; refine wpList_append_own _ rfl (.tmp 20) (.tmp 22) 23 rfl w.heap.size 9 i0 (.string ⟨#[]⟩) 1 16 Try.underlying23 HI.out.1 HI.out.2.1 HI.out.2.2.1 HI.out.2.2.2 rfl (by decide) u7 acc.length (strs acc) rfl HO2.out ⟨w2.heap.size, 0, none⟩ 1 1 [.string (S t)] rfl rfl HM.out (by simp [Value.oneCell']) (by simp only [maxLen]; omega) (by omega) (by simp; omega) ?_; intro v8 w3 hown3 hg3 hnil3)
        have hg3' := grown_alloc _ hg3
        have hrow : ∀ k, u7.ownBlock = some k → w.heap.size ≤ k := fun k hk => (hown.lt k hk).1
        have hr3 : Rd w3 g b stn := hr2.grown hg3' (fun e => by have := hrow g e.symm; omega) (fun e => by have := hrow b e.symm; omega)
        have ho3 : Only w w3 g := (hok.trans ho2).own hg3' hrow
        have hown4 : w3.ownsRow w.heap.size 9 1 v8 (acc ++ [t]).length (strs (acc ++ [t])) := by rw [← strs_snoc, List.length_append]; exact hown3
        clear hown3 hg3 hnil3 hg3' hrow hown hok ho2
        go_wp2_with fail
        go_roundw
        case rel => exact ⟨k + 1, stn, acc ++ [t], by omega, by go_num, by rw [List.length_append, HA.out]; rfl, hown4, by rw [HTK.out, HS.out]; congr 1; have := HJ.out; omega, by rw [List.length_append]; simp only [List.length_cons, List.length_nil]; omega, hr3, ho3⟩
        case measure => simp [intOf]; omega
      · have heb : (stn.2 != 0) = true := by simpa using he
        rw [if_neg he] at hstep
        have HS := Lib.hid hstep; clear hstep hless he
        go_wp2_with fail
        refine (HX.out).mono ?_
        rintro r w2 ⟨rfl, hr2, ho2⟩
        go_wp2_with fail
        refine (rerr_rd g b _ hr2).mono ?_
        rintro r w5 ⟨rfl, rfl⟩
        go_wp2_with fail
        go_ret
        rw [HT.out, HTK.out, HS.out]
        exact ⟨_, rfl, World.ownsRow_nil _ _ _ _, hr2, hok.trans ho2⟩
    · have hkn : n - k = 0 := by omega
      have htk := HTK.out
      rw [hkn] at htk
      have HTK2 := Lib.hid htk; clear htk HTK hkn
      go_wp2_with fail
      go_ret
      rw [HT.out, HTK2.out]
      exact ⟨_, rfl, hown, hrk, hok⟩
end Go.Proofs.Ytihhgingdgepcaa
