/-
  MeanM: the texts FndMs, FndMn, FndU, FindMeans in one.
-/
import Derived.Test.YtfcmkbeilpclmaaSumM
import Derived.Test.YtfcmkbeilpclmaaValSpec
import Derived.Test.YtfcmkbeilpclmaaFltM
import Derived.Test.YtfcmkbeilpclmaaFndK
import Derived.Test.YtfcmkbeilpclmaaValE
import Derived.Test.YtfcmkbeilpclmaaPapArg
import Derived.Test.YtfcmkbeilpclmaaRowC
import Derived.OpenShut
import Derived.Test.YtfcmkbeilpclmaaFndI
import Derived.Test.YtfcmkbeilpclmaaFndJ
import Derived.Test.YtfcmkbeilpclmaaValN
import Derived.Deep.Cut
import Derived.Deep.DeepCutAuto
import Derived.Deep.CutBlock
namespace Go.Proofs.Ytfcmkbeilpclmaa
set_option linter.unusedVariables false
set_option maxRecDepth 100000
namespace Fnd

theorem cbits_nan {b : Nat} (h : Val.nan b = true) : Val.cbits b = 9221120237041090561 := by simp [Val.cbits, h]
theorem cbits_num {b : Nat} (h : Val.nan b = false) : Val.cbits b = b := by simp [Val.cbits, h]
theorem nan_iff (b : Nat) : Val.nan b = true ↔ 9218868437227405312 < b % 9223372036854775808 := by unfold Val.nan; exact decide_eq_true_iff
theorem nan_no {b : Nat} (h : Val.nan b = false) : b % 9223372036854775808 ≤ 9218868437227405312 := by
  refine Nat.le_of_not_lt fun h2 => ?_
  rw [(nan_iff b).2 h2] at h
  cases h
theorem cbits_idem (b : Nat) : Val.cbits (Val.cbits b) = Val.cbits b := by
  cases h : Val.nan b with
  | true => rw [cbits_nan h]; exact cbits_nan (by decide)
  | false => rw [cbits_num h, cbits_num h]
def anyNan (l : List Nat) : Bool := l.any Val.nan
def anyIs (x : Nat) (l : List Nat) : Bool := l.any fun b => b == x
def allZero (l : List Nat) : Bool := l.all fun b => b % 9223372036854775808 == 0
def isSmall (b : Nat) : Bool := !(decide (2000 < Flt.ex b) && decide (Flt.ex b < 2047))
def allSmall (l : List Nat) : Bool := l.all isSmall
theorem good_of {b : Nat} (hb : b < 18446744073709551616) (h : Val.nan b = false) : Flo.Fine b ∨ Flo.Inf b := by
  have := nan_no h
  rcases Nat.lt_or_ge (b % 9223372036854775808) 9218868437227405312 with h1 | h1
  · exact Or.inl ⟨hb, h1⟩
  · exact Or.inr ⟨hb, by omega⟩
theorem no_nan {l : List Nat} (h : anyNan l = false) : ∀ b ∈ l, Val.nan b = false := fun b hb => by
  unfold anyNan at h
  rw [List.any_eq_false] at h
  have := h b hb
  simpa using this
theorem map_self {l : List Nat} (h : anyNan l = false) : l.map Val.cbits = l := by
  have h1 : ∀ b ∈ l, Val.cbits b = id b := fun b hb => cbits_num (no_nan h b hb)
  rw [List.map_congr_left h1, List.map_id]
theorem is_mem {x : Nat} {l : List Nat} (h : anyIs x l = true) : x ∈ l := by
  unfold anyIs at h
  rw [List.any_eq_true] at h
  obtain ⟨b, hb, e⟩ := h
  rw [← eq_of_beq e]
  exact hb
theorem is_not {x : Nat} {l : List Nat} (h : anyIs x l = false) : ∀ b ∈ l, b ≠ x := fun b hb e => by
  unfold anyIs at h
  rw [List.any_eq_false] at h
  exact h b hb (by rw [e]; simp)
section
variable {l : List Nat} {z : Nat} (hl : ∀ b ∈ l, b < 18446744073709551616) (hz : Flo.Bits (Flo.mean (l.map Val.cbits)) z)
include hl hz
theorem mean_none (h : anyNan l = true ∨ (anyIs 9218868437227405312 l = true ∧ anyIs 18442240474082181120 l = true)) : Val.cbits z = 9221120237041090561 := by
  have hm : Flo.mean (l.map Val.cbits) = none := by
    cases hn : anyNan l with
    | true =>
      unfold anyNan at hn
      rw [List.any_eq_true] at hn
      obtain ⟨b, hb, he⟩ := hn
      exact Flo.mean_nan (List.mem_map_of_mem hb) (by
        rw [cbits_nan he]
        unfold Flo.Nan
        decide)
    | false =>
      rcases h with h | ⟨h1, h2⟩
      · rw [hn] at h; cases h
      · rw [map_self hn]
        exact Flo.mean_both (x := 9218868437227405312) (y := 18442240474082181120) ⟨by decide, by decide⟩ ⟨by decide, by decide⟩ (by decide) (fun b hb => good_of (hl b hb) (no_nan hn b hb)) (is_mem h1) (is_mem h2)
  rw [hm] at hz
  rcases hz.2 with ⟨h1, -⟩ | ⟨-, h2⟩
  · cases h1
  · exact cbits_nan ((nan_iff z).2 h2)
theorem mean_zero (h0 : l ≠ []) (h30 : l.length ≤ 30) (h : allZero l = true) : Val.cbits z = 0 := by
  have hall : ∀ b ∈ l, b % 9223372036854775808 = 0 := fun b hb => by
    unfold allZero at h
    rw [List.all_eq_true] at h
    exact eq_of_beq (h b hb)
  have hn : anyNan l = false := by
    unfold anyNan
    rw [List.any_eq_false]
    intro b hb
    have := hall b hb
    rw [nan_iff]
    omega
  rw [map_self hn, Flo.mean_zeros (fun b hb => ⟨hl b hb, hall b hb⟩) h0 h30] at hz
  rcases hz.2 with ⟨h1, -⟩ | ⟨h1, -⟩
  · injection h1 with h1
    rw [← h1]
    decide
  · cases h1
theorem mean_inf (h30 : l.length ≤ 30) (hn : anyNan l = false) (hu : anyIs 9218868437227405312 l = true) (hd : anyIs 18442240474082181120 l = false) (hs : allSmall l = true) : Val.cbits z = 9218868437227405312 := by
  rw [map_self hn, Flo.mean_small (x := 9218868437227405312) ⟨by decide, by decide⟩ (fun b hb => ?_) (is_mem hu) h30] at hz
  · rcases hz.2 with ⟨h1, -⟩ | ⟨h1, -⟩
    · injection h1 with h1
      rw [← h1]
      decide
    · cases h1
  · have h1 := nan_no (no_nan hn b hb)
    have h2 := is_not hd b hb
    have h3 := hl b hb
    have h4 : isSmall b = true := by
      unfold allSmall at hs
      rw [List.all_eq_true] at hs
      exact hs b hb
    unfold isSmall Flt.ex at h4
    rw [Bool.not_eq_true', Bool.and_eq_false_iff, decide_eq_false_iff_not, decide_eq_false_iff_not] at h4
    rcases h4 with h4 | h4
    · exact Or.inl ⟨h3, by omega⟩
    · exact Or.inr (by omega)
end
theorem mean_same {b z : Nat} (hb : b < 18446744073709551616) (hz : Flo.Bits (Flo.mean ([b].map Val.cbits)) z) (hn : anyNan [b] = false) (h0 : allZero [b] = false) : Val.cbits z = Val.cbits b := by
  rw [map_self hn, Flo.mean_one (good_of hb (no_nan hn b (List.mem_singleton.2 rfl)))] at hz
  have h1 : ¬ b % 9223372036854775808 = 0 := fun e => by
    unfold allZero at h0
    simp [e] at h0
  rw [if_neg h1] at hz
  rcases hz.2 with ⟨h2, -⟩ | ⟨h2, -⟩
  · injection h2 with h2
    rw [h2]
  · cases h2
end Fnd
end Go.Proofs.Ytfcmkbeilpclmaa

namespace Go.Proofs.Ytfcmkbeilpclmaa
open Go.RowKit Go.Lib
set_option linter.unusedVariables false

/-- The floats among values. -/
def Fnd.flts (l : List Val) : List Nat := (l.filter fun v => v.right && decide (v.kind = 3)).map Val.bits
theorem Fnd.flts_yes {l : List Val} {v : Val} (h : v.right = true ∧ v.kind = 3) : Fnd.flts (l ++ [v]) = Fnd.flts l ++ [v.bits] := by
  unfold Fnd.flts
  rw [List.filter_append, List.map_append]
  simp [h.1, h.2]
theorem Fnd.flts_no {l : List Val} {v : Val} (h : ¬ (v.right = true ∧ v.kind = 3)) : Fnd.flts (l ++ [v]) = Fnd.flts l := by
  unfold Fnd.flts
  rw [List.filter_append, List.map_append]
  have : (v.right && decide (v.kind = 3)) = false := by
    rw [Bool.eq_false_iff]
    intro e
    rw [Bool.and_eq_true] at e
    exact h ⟨e.1, of_decide_eq_true e.2⟩
  simp [this]
theorem Fnd.flts_len (l : List Val) : (Fnd.flts l).length ≤ l.length := by
  unfold Fnd.flts
  rw [List.length_map]
  exact List.length_filter_le ..
def MeanPost (w : World) (l : List Nat) (r : Ending) (w' : World) : Prop :=
  Below w.heap.size w w' ∧ ((l = [] ∧ r = .returned (.tuple #[.agg #[.int .i64 0, .bool false, .int .i64 0, .int .u64 0, .string ⟨#[]⟩], .bool false])) ∨ (l ≠ [] ∧ ∃ z, Flo.Bits (Flo.mean l) z ∧ r = .returned (.tuple #[(Val.of z).v, .bool true])))
theorem belowDrewK {B : Nat} {w w1 : World} (h : Below B w w1) (k : Nat) : Below B w (w1.drewN k) := h.trans ⟨rfl, rfl, rfl, Nat.le_refl _, fun _ _ => rfl⟩
set_option maxHeartbeats 8000000 in
set_option maxRecDepth 100000 in
theorem mean_any {w : World} {B : Option Addr} {capB : Nat} {L : List Ppr} (n : List UInt8) (hL : RowPp w B L) (hLl : L.length ≤ 1000000) :
    Calls Try.prog 27 #[.string (S n), .slice B L.length capB] w (MeanPost w (Fnd.flts (Fnd.vals n (L.map Ppr.L)))) := by
  have hvok := Fnd.vals_ok (n := n) (L := L.map Ppr.L) (fun P hP f hf => by
    obtain ⟨p, hp, rfl⟩ := List.mem_map.1 hP
    exact (hL.each p hp).ok f hf)
  have hvl := Fnd.vals_len n (L.map Ppr.L)
  rw [List.length_map] at hvl
  have HVV := Lib.hid (fun W (h : Below w.heap.size w W) => values_any (w := W) (capB := capB) n (hL.below h) hLl)
  generalize Fnd.vals n (L.map Ppr.L) = V at hvok hvl HVV ⊢
  have HOK := Lib.hid hvok
  clear hvok hL
  have hZ := Has.made w 35 #[.int .i64 0, .bool false, .int .i64 0, .int .u64 0, .string ⟨#[]⟩]
  have hB := up1 (w := w) (.cells #[.int .i64 0, .bool false, .int .i64 0, .int .u64 0, .string ⟨#[]⟩] 35)
  go_enter Try.func27, Try.ntmps27
  go_upto_region 1 with fail
  have hsz := asize w (.cells #[.int .i64 0, .bool false, .int .i64 0, .int .u64 0, .string ⟨#[]⟩] 35)
  generalize w.alloc (.cells #[.int .i64 0, .bool false, .int .i64 0, .int .u64 0, .string ⟨#[]⟩] 35) = W0 at hZ hB hsz ⊢
  have HZ := Lib.hid hZ
  have HB := Lib.hid hB
  clear hZ hB
  go_wp2_with fail
  refine (HVV.out _ HB.out).mono ?_
  rintro r W1 ⟨v, rfl, hown, hb1⟩
  obtain ⟨A, cap, rfl, hlc, hcm, -, -, hrow⟩ := own_rowC hown (s := []) (by simp) (by decide)
  have HZ1 := Lib.hid (HZ.out.below hb1 (by omega))
  have HB1 := Lib.hid (HB.out.trans (hb1.mono HB.out.size))
  have hs1 := hb1.size
  have HROW := Lib.hid hrow
  clear hb1 hown hrow HZ HB HVV
  go_wp2_with fail
  go_loopg [6, 7, 16] V.length (fun g1 v6 v7 v16 wr => ∃ (k z : Nat), k ≤ V.length ∧ v16 = .int .i64 (k : Int) ∧ V.length - k ≤ g1 ∧ v6 = .float .f64 z ∧ v7 = .int .i64 ((Fnd.flts (V.take k)).length : Int) ∧ Hid (Flo.Bits (Flo.total (Fnd.flts (V.take k))) z) ∧ Below W1.heap.size W1 wr)
  case atStart => exact ⟨0, 0, Nat.zero_le _, rfl, by omega, rfl, rfl, ⟨by decide, Or.inl ⟨rfl, Or.inl ⟨by decide, by decide⟩⟩⟩, Below.refl _ _⟩
  case round =>
    obtain ⟨k, z, hk, rfl, hg, rfl, rfl, HBT, hbk⟩ := hrel
    by_cases hlt : k < V.length
    · have hki : (k : Int) < (V.length : Int) := by omega
      have hki0 : (0 : Int) ≤ (k : Int) := by omega
      have hkc : (k : Int) < (cap : Int) := by omega
      obtain ⟨bv, ov, rfl, hbv, -, c0, c1, c2, c3, c4⟩ := RowVal.get (HROW.out.below hbk) k hlt
      have hok := HOK.out _ (List.getElem_mem hlt)
      have hst : V.take (k + 1) = V.take k ++ [V[k]] := List.take_succ_eq_append_getElem hlt
      have hyes := fun (h : (V[k]).right = true ∧ (V[k]).kind = 3) => (show Fnd.flts (V.take (k + 1)) = Fnd.flts (V.take k) ++ [(V[k]).bits] by rw [hst]; exact Fnd.flts_yes h)
      have hno := fun (h : ¬ ((V[k]).right = true ∧ (V[k]).kind = 3)) => (show Fnd.flts (V.take (k + 1)) = Fnd.flts (V.take k) by rw [hst]; exact Fnd.flts_no h)
      have hfl := fun W => float_any V[k] hok W
      generalize V[k] = x at c0 c1 c2 c3 c4 hok hyes hno hfl
      have hcl := Fnd.flts_len (V.take k)
      rw [List.length_take] at hcl
      generalize Fnd.flts (V.take k) = F at HBT hyes hno hcl ⊢
      clear hst
      obtain ⟨vk, vf, vi, vb, vt⟩ := x
      rw [Val.v_eq] at hfl
      dsimp only at c0 c1 c2 c3 c4 hyes hno hfl
      have HBK := Lib.hid (hbk.trans ((up1 (w := wr) (.cells #[.int .i64 vk, .bool vf, .int .i64 vi, .int .u64 (vb : Int), .string (S vt)] 35)).mono hbk.size))
      generalize hrt : Val.right ⟨vk, vf, vi, vb, vt⟩ = rt at hyes hno hfl
      have HYES := Lib.hid hyes
      have HNO := Lib.hid hno
      have HFL := Lib.hid hfl
      clear hyes hno hfl hok hbk hrt
      by_cases hr : rt = true ∧ vk = 3
      · have HY := Lib.hid (HYES.out hr)
        rw [if_pos hr] at HFL
        clear HYES HNO hr
        go_wp2_with fail
        refine (HFL.out _).mono ?_
        rintro r W2 ⟨rfl, hb2⟩
        have HB2 := Lib.hid (HBK.out.trans (hb2.mono HBK.out.size))
        clear hb2 c0 c1 c2 c3 c4 HBK HFL
        obtain ⟨z2, nq, hadd, hbt⟩ := Flo.run_add (P := Try.prog) 85 (Flo.total F) (y := vb) HBT.out W2
        have HBT2 : Hid (Flo.Bits (Flo.total (F ++ [vb])) z2) := by
          unfold Flo.total
          rw [Flo.sums_snoc]
          exact hbt
        clear hbt
        go_wp2_with fail
        go_roundg (V.length - (k + 1))
        case measure => omega
        case rel => exact ⟨k + 1, z2, by omega, by go_num, Nat.le_refl _, rfl, by rw [HY.out, List.length_append, List.length_singleton]; go_num, by rw [HY.out]; exact HBT2, belowDrewK HB2.out _⟩
      · have HN := Lib.hid (HNO.out hr)
        rw [if_neg hr] at HFL
        clear HYES HNO hr
        go_wp2_with fail
        refine (HFL.out _).mono ?_
        rintro r W2 ⟨rfl, hb2⟩
        have HB2 := Lib.hid (HBK.out.trans (hb2.mono HBK.out.size))
        clear hb2 c0 c1 c2 c3 c4 HBK HFL
        go_wp2_with fail
        go_roundg (V.length - (k + 1))
        case measure => omega
        case rel => exact ⟨k + 1, z, by omega, by go_num, Nat.le_refl _, rfl, by rw [HN.out], by rw [HN.out]; exact HBT, HB2.out⟩
    · obtain rfl : k = V.length := by omega
      rw [List.take_length] at HBT ⊢
      have hcl := Fnd.flts_len V
      have hZ2 := HZ1.out.below hbk HZ1.out.lt
      have HBK := Lib.hid (HB1.out.trans (hbk.mono HB1.out.size))
      clear hbk
      obtain ⟨F, hF⟩ : ∃ F, F = Fnd.flts V := ⟨_, rfl⟩
      rw [← hF] at HBT hcl ⊢
      have HFE := Lib.hid hF
      clear hF
      have c0 := hZ2.cell 0
      have c1 := hZ2.cell 1
      have c2 := hZ2.cell 2
      have c3 := hZ2.cell 3
      have c4 := hZ2.cell 4
      have f0 := hZ2.free 0
      have f1 := hZ2.free 1
      have f2 := hZ2.free 2
      have f3 := hZ2.free 3
      have f4 := hZ2.free 4
      have HZ2 := Lib.hid hZ2
      clear hZ2
      by_cases hn : F = []
      · have hn0 : ((F.length : Int) == 0) = true := by rw [hn]; rfl
        have HNIL := Lib.hid hn
        clear hn
        go_wp2_with fail
        have h9 := Has.stored HZ2.out 0 false 0 0 []
        exact ret_valb (p := 4) (u := 5) rfl w.heap.size _ _ rfl rfl rfl h9 rfl ⟨(stored_only wr w.heap.size 0 false 0 0 []).below HBK.out HBK.out.size (Nat.le_refl _), Or.inl ⟨by rw [← HFE.out]; exact HNIL.out, rfl⟩⟩
      · have hn0 : ((F.length : Int) == 0) = false := by
          rw [beq_eq_false_iff_ne]
          intro e
          exact hn (List.eq_nil_of_length_eq_zero (by omega))
        obtain ⟨z2, nq, hquo, hbt⟩ := Flo.run_quo (P := Try.prog) 85 (Flo.total F) (y := floatOfInt .f64 (F.length : Int)) HBT.out wr
        have HMB : Hid (Flo.Bits (Flo.mean F) z2) := hbt
        have HOF := Lib.hid (fun W => of_any z2 hbt.1 W)
        have HNIL := Lib.hid hn
        clear hbt hn c0 c1 c2 c3 c4 f0 f1 f2 f3 f4
        go_wp2_with fail
        refine (HOF.out _).mono ?_
        rintro r W5 ⟨rfl, hb5⟩
        have hb6 : Below wr.heap.size wr W5 := (belowDrewK (Below.refl _ wr) nq).trans hb5
        have hZ5 := HZ2.out.below hb6 HZ2.out.lt
        have HB5 := Lib.hid (HBK.out.trans (hb6.mono HBK.out.size))
        clear hb5 hb6
        have c0 := hZ5.cell 0
        have c1 := hZ5.cell 1
        have c2 := hZ5.cell 2
        have c3 := hZ5.cell 3
        have c4 := hZ5.cell 4
        have f0 := hZ5.free 0
        have f1 := hZ5.free 1
        have f2 := hZ5.free 2
        have f3 := hZ5.free 3
        have f4 := hZ5.free 4
        have HZ5 := Lib.hid hZ5
        clear hZ5
        have hof : Val.of z2 = ⟨3, false, 0, Val.cbits z2, []⟩ := rfl
        rw [hof, Val.v_eq]
        go_wp2_with fail
        have h9 := Has.stored HZ5.out 3 false 0 (Val.cbits z2) []
        exact ret_valb (p := 4) (u := 5) rfl w.heap.size _ _ rfl rfl rfl h9 rfl ⟨(stored_only W5 w.heap.size 3 false 0 (Val.cbits z2) []).below HB5.out HB5.out.size (Nat.le_refl _), Or.inr ⟨by rw [← HFE.out]; exact HNIL.out, z2, by rw [← HFE.out]; exact HMB.out, rfl⟩⟩
end Go.Proofs.Ytfcmkbeilpclmaa

namespace Go.Proofs.Ytfcmkbeilpclmaa
open Go.ChangeShapes Go.WideShapes Go.ChangeAt Go.RowKit
set_option linter.unusedVariables false
def uvs (L : List Nat) : List Value := L.map fun (b : Nat) => .int .u64 (b : Int)
theorem uvs_len (L : List Nat) : (uvs L).length = L.length := by unfold uvs; rw [List.length_map]
theorem RowU.get {w : World} {s : List Nat} {A : Option Addr} {L : List Nat} (h : RowC w s A (uvs L)) (k : Nat) (hk : k < L.length) : ∃ b off, A = some ⟨b, off, none⟩ ∧ b < w.heap.size ∧ w.cell? ⟨b, off + k, none⟩ = some (.int .u64 (L[k] : Int)) := by
  obtain ⟨b, off, hA, hb, -, hr⟩ := h (fun e => by
    have := uvs_len L
    rw [e, List.length_nil] at this
    omega)
  exact ⟨b, off, hA, hb, hr k _ (by unfold uvs; rw [List.getElem?_map, List.getElem?_eq_getElem hk]; rfl)⟩
section
variable {H : Type} {enc : TypeId × Value → H} {W : World}
set_option maxRecDepth 100000 in
theorem u64s_open {A : Option Addr} {len cap fuel : Nat} {x : DataW H × List MemPlace} (h : DataW.trod enc Try.prog W 0 (fun _ => true) true fuel 66 [.slice A len cap] = some x) :
    ∃ L : List Nat, len = L.length ∧ L.length ≤ cap ∧ cap ≤ 9223372036854775807 ∧ RowC W [] A (uvs L) ∧ ∀ b ∈ L, b < 18446744073709551616 := by
  have hC : Try.prog.cellsOf 33 = 1 := by kernel_rfl
  rcases Deep.open_slice1 Try.underlying66 hC h with ⟨h0, _⟩ | ⟨a, len', cap', m, n, V, D, Pl, hcs, _, hlc, hcm, hm, hx, hi⟩
  · injection h0 with h0 _
    injection h0 with _ h1 h2
    subst h1; subst h2
    exact ⟨[], rfl, Nat.le_refl _, Nat.zero_le _, RowC.nil _ _ _, fun b hb => by cases hb⟩
  · injection hcs with hcs _; injection hcs with hA hlen hcap
    subst hA; subst hlen; subst hcap
    have hm' : len ≤ m := by rw [hm]; simp; omega
    have hone : ∀ i : Fin len, ∃ k : Nat, W.cell? (a.add i.1) = some (.int .u64 (k : Int)) ∧ k < 18446744073709551616 := by
      intro i
      obtain ⟨hc, ht⟩ := hi i.1 (by have := i.2; omega)
      obtain ⟨K, e0, _, wK⟩ := DataW.trod_int Try.underlying33 ht
      have hB : 0 ≤ K ∧ K ≤ 18446744073709551615 := wf_bounds .u64 K wK
      obtain ⟨k, rfl⟩ := Int.eq_ofNat_of_zero_le hB.1
      injection e0 with e0
      exact ⟨k, by rw [hc, e0], by omega⟩
    obtain ⟨f, hf⟩ : ∃ f : Fin len → Nat, ∀ i : Fin len, W.cell? (a.add i.1) = some (.int .u64 (f i : Int)) ∧ f i < 18446744073709551616 := ⟨fun i => Classical.choose (hone i), fun i => Classical.choose_spec (hone i)⟩
    clear hone hi hx
    refine ⟨List.ofFn f, by simp, by simpa using hlc, by simpa only [maxLen] using hcm, fun hne => ?_, fun b hb => by
      obtain ⟨i, rfl⟩ := List.mem_ofFn.1 hb
      exact (hf i).2⟩
    have hpos : 0 < len := by
      rcases Nat.eq_zero_or_pos len with h0 | h0
      · subst h0; exact absurd (by simp [uvs]) hne
      · exact h0
    have h00 := (hf ⟨0, hpos⟩).1
    have ha : a = ⟨a.block, a.off, none⟩ := addr_flat (by simpa [Addr.add] using h00)
    have hblt : a.block < W.heap.size := World.block_lt_of_cell? W a (by simpa [Addr.add] using h00)
    refine ⟨a.block, a.off, by rw [← ha], hblt, by simp, fun j u hu => ?_⟩
    unfold uvs at hu
    rw [List.getElem?_map] at hu
    cases hj : (List.ofFn f)[j]? with
    | none => rw [hj] at hu; cases hu
    | some y =>
      rw [hj, Option.map_some] at hu
      injection hu with hu
      obtain ⟨hlt, hy⟩ := List.getElem?_eq_some_iff.1 hj
      have hj' : j < len := by simpa using hlt
      rw [List.getElem_ofFn] at hy
      have k0 := (hf ⟨j, hj'⟩).1
      rw [← hu, ← hy]
      have hadd : a.add j = ⟨a.block, a.off + j, none⟩ := by
        have := add_flat' a.block a.off j
        rwa [← ha] at this
      rw [← hadd]
      exact k0
end
end Go.Proofs.Ytfcmkbeilpclmaa

namespace Go.Proofs.Ytfcmkbeilpclmaa
open Go.ChangeShapes Go.WideShapes Go.ChangeAt Go.RowKit
open Go.ChangeMaps (open_string shut_string)
set_option linter.unusedVariables false

theorem shift_nan {b : Nat} (hb : b < 18446744073709551616) : decide ((18437736874454810624 : Int) < (b : Int) * 2 % 18446744073709551616) = Val.nan b := by
  rw [Bool.eq_iff_iff, decide_eq_true_iff, Fnd.nan_iff]
  omega
theorem shift_zero {b : Nat} (hb : b < 18446744073709551616) : ((b : Int) * 2 % 18446744073709551616 == 0) = (b % 9223372036854775808 == 0) := by
  rw [Bool.eq_iff_iff, beq_iff_eq, beq_iff_eq]
  omega
theorem cast_is (b x : Nat) : ((b : Int) == (x : Int)) = (b == x) := by
  rw [Bool.eq_iff_iff, beq_iff_eq, beq_iff_eq]
  omega
theorem expo {b : Nat} (hb : b < 18446744073709551616) : bits .and .u64 ((b : Int) / 4503599627370496) 2047 = (Flt.ex b : Int) := by
  have h := and_2047 (b / 4503599627370496) (by omega)
  have e1 : ((b / 4503599627370496 : Nat) : Int) = (b : Int) / 4503599627370496 := by omega
  have e2 : b / 4503599627370496 % 2048 = Flt.ex b := by unfold Flt.ex; omega
  rw [e1, e2] at h
  exact h
namespace Fnd
theorem anyNan_snoc (l : List Nat) (b : Nat) : anyNan (l ++ [b]) = (anyNan l || Val.nan b) := by simp [anyNan]
theorem anyIs_snoc (x : Nat) (l : List Nat) (b : Nat) : anyIs x (l ++ [b]) = (anyIs x l || b == x) := by simp [anyIs]
theorem allZero_snoc (l : List Nat) (b : Nat) : allZero (l ++ [b]) = (allZero l && b % 9223372036854775808 == 0) := by simp [allZero]
theorem allSmall_snoc (l : List Nat) (b : Nat) : allSmall (l ++ [b]) = (allSmall l && isSmall b) := by simp [allSmall]
/-- A paper of one float. -/
def fltL (b : Nat) : List Fld := [⟨[120], Val.of b⟩]
theorem of_right (b : Nat) : (Val.of b).right = true := by
  unfold Val.right Val.of
  rw [decide_eq_true_iff]
  refine ⟨(show (0 : Int) ≤ 3 by decide), (show (3 : Int) ≤ 4 by decide), by simp, ?_⟩
  simp [Val.clean, cbits_idem]
theorem vals_flt (B : List Nat) : vals [120] (B.map fltL) = B.map Val.of := by
  unfold vals
  rw [List.filterMap_map]
  have : (fun b => field (fltL b) [120]) = fun b => some (Val.of b) := by
    funext b
    rfl
  show List.filterMap (fun b => field (fltL b) [120]) B = _
  rw [this, List.filterMap_eq_map']
theorem flts_of (B : List Nat) : flts (B.map Val.of) = B.map Val.cbits := by
  unfold flts
  have h : (B.map Val.of).filter (fun v => v.right && decide (v.kind = 3)) = B.map Val.of := List.filter_eq_self.2 fun v hv => by
    obtain ⟨b, -, rfl⟩ := List.mem_map.1 hv
    rw [of_right]
    rfl
  rw [h, List.map_map]
  rfl
end Fnd
set_option maxHeartbeats 2000000 in
set_option maxRecDepth 100000 in
theorem lsmall_any {w : World} {A : Option Addr} {cap : Nat} {B : List Nat} (hrow : RowC w [] A (uvs B)) (hB : ∀ b ∈ B, b < 18446744073709551616) (hlc : B.length ≤ cap) (hcm : cap ≤ 9223372036854775807) :
    Calls Try.prog 29 #[.slice A B.length cap] w fun r w' => r = .returned (.bool (Fnd.allSmall (B.take 30))) ∧ w' = w := by
  have HROW := Lib.hid hrow
  have HB := Lib.hid hB
  clear hrow hB
  go_enter Try.func29, Try.ntmps29
  go_wp2_with fail
  go_loopg [3] B.length (fun g1 v3 wr => ∃ k : Nat, k ≤ B.length ∧ k ≤ 30 ∧ v3 = .int .i64 (k : Int) ∧ B.length - k ≤ g1 ∧ Hid (Fnd.allSmall (B.take k) = true) ∧ wr = w)
  case atStart => exact ⟨0, Nat.zero_le _, by omega, rfl, by omega, rfl, rfl⟩
  case round =>
    obtain ⟨k, hk, hk30, rfl, hg, HS, rfl⟩ := hrel
    by_cases hlt : k < B.length ∧ k < 30
    · have hki : (k : Int) < (B.length : Int) := by omega
      have hki3 : (k : Int) < 30 := by omega
      have hki0 : (0 : Int) ≤ (k : Int) := by omega
      obtain ⟨bb, ob, rfl, -, cb⟩ := RowU.get HROW.out k hlt.1
      have he := expo (HB.out _ (List.getElem_mem hlt.1))
      have hst : B.take (k + 1) = B.take k ++ [B[k]'hlt.1] := List.take_succ_eq_append_getElem hlt.1
      have hsn := Fnd.allSmall_snoc (B.take k) (B[k]'hlt.1)
      rw [← hst, HS.out, Bool.true_and] at hsn
      have hno : Fnd.isSmall (B[k]'hlt.1) = false → Fnd.allSmall (B.take 30) = false := fun h => by
        unfold Fnd.allSmall
        rw [List.all_eq_false]
        exact ⟨B[k]'hlt.1, List.mem_iff_getElem.2 ⟨k, by rw [List.length_take]; omega, by rw [List.getElem_take]⟩, by rw [h]; decide⟩
      unfold Fnd.isSmall at hsn hno
      generalize Flt.ex (B[k]'hlt.1) = e at he hsn hno
      generalize B[k]'hlt.1 = b at cb he hst
      have HSN := Lib.hid (And.intro hsn hno)
      clear hsn hno hst
      by_cases h1 : (2000 : Int) < (e : Int)
      · by_cases h2 : (e : Int) < 2047
        · have hf : Hid (Fnd.allSmall (B.take 30) = false) := HSN.out.2 (by
            have a1 : 2000 < e := by omega
            have a2 : e < 2047 := by omega
            simp [a1, a2])
          go_wp2_with fail
          go_ret
          exact ⟨by rw [hf.out]; rfl, rfl⟩
        · have hf : Hid (Fnd.allSmall (B.take (k + 1)) = true) := by
            show _ = _
            rw [HSN.out.1]
            have a2 : ¬ e < 2047 := by omega
            simp [a2]
          go_wp2_with fail
          go_roundg (B.length - (k + 1))
          case measure => omega
          case rel => exact ⟨k + 1, by omega, by omega, by go_num, Nat.le_refl _, hf, rfl⟩
      · have hf : Hid (Fnd.allSmall (B.take (k + 1)) = true) := by
          show _ = _
          rw [HSN.out.1]
          have a2 : ¬ 2000 < e := by omega
          simp [a2]
        go_wp2_with fail
        go_roundg (B.length - (k + 1))
        case measure => omega
        case rel => exact ⟨k + 1, by omega, by omega, by go_num, Nat.le_refl _, hf, rfl⟩
    · have hf : Hid (Fnd.allSmall (B.take 30) = true) := by
        show _ = _
        rw [← HS.out]
        congr 1
        rcases Nat.lt_or_ge k B.length with h | h
        · have : k = 30 := by omega
          rw [this]
        · rw [List.take_of_length_le (by omega), List.take_of_length_le (by omega)]
      have hstop : (k : Int) < (B.length : Int) → ¬ (k : Int) < 30 := by intro h; omega
      by_cases hkL : (k : Int) < (B.length : Int)
      · have hk3 := hstop hkL
        clear hstop
        go_wp2_with fail
        go_ret
        exact ⟨by rw [hf.out]; rfl, rfl⟩
      · clear hstop
        go_wp2_with fail
        go_ret
        exact ⟨by rw [hf.out]; rfl, rfl⟩

theorem Fnd.of_ok {b : Nat} (hb : b < 18446744073709551616) : (Val.of b).ok := ⟨by
        show Val.cbits b < 18446744073709551616
        cases h : Val.nan b with
        | true => rw [Fnd.cbits_nan h]; decide
        | false => rw [Fnd.cbits_num h]; exact hb, (show (-9223372036854775808 : Int) ≤ 0 ∧ (0 : Int) < 9223372036854775808 by decide), (show (-9223372036854775808 : Int) ≤ 3 ∧ (3 : Int) < 9223372036854775808 by decide)⟩
abbrev MeanS (g y bp op pb off pcap : Nat) (W : World) : Prop :=
  VLies g 3 false 0 y [] W ∧ W.cell? ⟨bp, op + 2, none⟩ = some (.slice (some ⟨pb, off, none⟩) 1 pcap) ∧ W.cell? ⟨pb, off + 1, none⟩ = some (.int .i64 3) ∧ W.cell? ⟨pb, off + 2, none⟩ = some (.bool false) ∧ W.cell? ⟨pb, off + 3, none⟩ = some (.int .i64 0) ∧ W.cell? ⟨pb, off + 4, none⟩ = some (.int .u64 (y : Int)) ∧ W.cell? ⟨pb, off + 5, none⟩ = some (.string (S []))

set_option maxHeartbeats 16000000 in
set_option maxRecDepth 100000 in
theorem findMeans_any {w : World} {A : Option Addr} {cap : Nat} {B : List Nat} (hrow : RowC w [] A (uvs B)) (hB : ∀ b ∈ B, b < 18446744073709551616) (hlc : B.length ≤ cap) (hcm : cap ≤ 9223372036854775807) :
    Calls Try.prog 7 #[.slice A B.length cap] w fun r w' => r = .returned (.bool true) ∧ Below w.heap.size w w' := by
  obtain ⟨i0, hi0, hz0, hz1, hz2⟩ := info_parts pInfo
  have HI := Lib.hid (And.intro hi0 (And.intro hz0 (And.intro hz1 hz2)))
  clear hi0 hz0 hz1 hz2
  have HROW := Lib.hid hrow
  have HB := Lib.hid hB
  have HA := Lib.hid (fun W => fawake_any W)
  have HSM : Hid (_ : Prop) := Lib.hid (fun W (h : Below w.heap.size w W) => lsmall_any (w := W) (hrow.below h) hB hlc hcm)
  clear hrow hB
  generalize hb0 : w.heap.size = b0 at HSM
  have HB0 := Lib.hid hb0
  go_enter Try.func7, Try.ntmps7
  go_wp2_with fail
  go_loopg [3, 4, 5, 6, 7, 8] B.length (fun g1 v3 v4 v5 v6 v7 v8 wr => ∃ (k : Nat) (M : List Ppr), k ≤ B.length ∧ k ≤ 30 ∧ v8 = .int .i64 (k : Int) ∧ B.length - k ≤ g1 ∧ M.length = k ∧ Hid (M.map Ppr.L = (B.take k).map Fnd.fltL) ∧ wr.ownsRow w.heap.size 27 3 v3 k (pprs M) ∧ Hid (∀ p ∈ M, p.New w.heap.size wr) ∧
    v4 = .bool (Fnd.anyNan (B.take k)) ∧ v5 = .bool (Fnd.anyIs 9218868437227405312 (B.take k)) ∧ v6 = .bool (Fnd.anyIs 18442240474082181120 (B.take k)) ∧ v7 = .bool (Fnd.allZero (B.take k)) ∧ Below w.heap.size w wr)
  case atStart => exact ⟨0, [], Nat.zero_le _, by omega, rfl, by omega, rfl, rfl, World.ownsRow_nil _ _ _ _, (fun p hp => by cases hp), rfl, rfl, rfl, rfl, Below.refl _ _⟩
  case round =>
    obtain ⟨k, M, hk, hk30, rfl, hg, hMl, HM, hown, HNEW, rfl, rfl, rfl, rfl, hbk⟩ := hrel
    by_cases hlt : k < B.length ∧ k < 30
    · have hki : (k : Int) < (B.length : Int) := by omega
      have hki3 : (k : Int) < 30 := by omega
      have hki0 : (0 : Int) ≤ (k : Int) := by omega
      obtain ⟨bb, ob, rfl, hbb, cb0⟩ := RowU.get HROW.out k hlt.1
      have cb := (World.cell?_of_block (hbk.block bb hbb)).trans cb0
      have hbl := HB.out _ (List.getElem_mem hlt.1)
      have hst : B.take (k + 1) = B.take k ++ [B[k]'hlt.1] := List.take_succ_eq_append_getElem hlt.1
      generalize B[k]'hlt.1 = b at cb cb0 hbl hst
      have s1 := Fnd.anyNan_snoc (B.take k) b
      have s2 := Fnd.anyIs_snoc 9218868437227405312 (B.take k) b
      have s3 := Fnd.anyIs_snoc 18442240474082181120 (B.take k) b
      have s4 := Fnd.allZero_snoc (B.take k) b
      rw [← hst] at s1 s2 s3 s4
      generalize Fnd.anyNan (B.take k) = f4 at s1 ⊢
      generalize Fnd.anyIs 9218868437227405312 (B.take k) = f5 at s2 ⊢
      generalize Fnd.anyIs 18442240474082181120 (B.take k) = f6 at s3 ⊢
      generalize Fnd.allZero (B.take k) = f7 at s4 ⊢
      have e1 := shift_nan hbl
      have e4 := shift_zero hbl
      have e2 := cast_is b 9218868437227405312
      have e3 := cast_is b 18442240474082181120
      have HCL := Lib.hid (fun W => clean_any ⟨3, false, 0, b, []⟩ (okw hbl) W)
      have HVO : Hid ((Val.of b).ok) := ⟨by
        show Val.cbits b < 18446744073709551616
        cases h : Val.nan b with
        | true => rw [Fnd.cbits_nan h]; decide
        | false => rw [Fnd.cbits_num h]; exact hbl, (show (-9223372036854775808 : Int) ≤ 0 ∧ (0 : Int) < 9223372036854775808 by decide), (show (-9223372036854775808 : Int) ≤ 3 ∧ (3 : Int) < 9223372036854775808 by decide)⟩
      have hM2 : ((B.take (k + 1)).map Fnd.fltL) = (B.take k).map Fnd.fltL ++ [Fnd.fltL b] := by rw [hst, List.map_append]; rfl
      have HMT := Lib.hid hM2
      have HS := Lib.hid (And.intro (And.intro s1 e1) (And.intro (And.intro s2 e2) (And.intro (And.intro s3 e3) (And.intro s4 e4))))
      have HBLK := Lib.hid (And.intro hbb cb0)
      clear cb0 hst s1 s2 s3 s4 e1 e2 e3 e4 hbl hM2
      have hcl : Val.clean ⟨3, false, 0, b, []⟩ = ⟨3, false, 0, Val.cbits b, []⟩ := by simp [Val.clean]
      rw [Val.v_eq, hcl, Val.v_eq] at HCL
      clear hcl
      have HFL : Hid (Fnd.fltL b = [⟨[120], ⟨3, false, 0, Val.cbits b, []⟩⟩]) := rfl
      have HVK : Hid ((⟨3, false, 0, Val.cbits b, []⟩ : Val).ok) := HVO.out
      clear HVO
      generalize Val.cbits b = x at HCL HFL HVK
      have HOWN := Lib.hid hown
      have HBK := Lib.hid hbk
      clear hown hbk
      go_wp2_with fail
      refine (HCL.out _).mono ?_
      rintro r W1 ⟨rfl, hb1⟩
      clear HCL
      have hV := Has.made W1 35 (vcs5 3 false 0 x [])
      obtain ⟨v0, v1, v2, v3, v4⟩ := vlies hV
      clear hV
      have hup2 := up1 (w := W1) (.cells (vcs5 3 false 0 x []) 35)
      have hz2 := asize W1 (.cells (vcs5 3 false 0 x []) 35)
      go_upto_region 7 with fail
      generalize W1.alloc (.cells (vcs5 3 false 0 x []) 35) = W2 at v0 v1 v2 v3 v4 hup2 hz2 ⊢
      have hF := Has.made W2 58 #[.string ⟨#[120]⟩, .int .i64 3, .bool false, .int .i64 0, .int .u64 (x : Int), .string (S [])]
      have hup3 := up1 (w := W2) (.cells #[.string ⟨#[120]⟩, .int .i64 3, .bool false, .int .i64 0, .int .u64 (x : Int), .string (S [])] 58)
      have hz3 := asize W2 (.cells #[.string ⟨#[120]⟩, .int .i64 3, .bool false, .int .i64 0, .int .u64 (x : Int), .string (S [])] 58)
      have hsB := HBK.out.size
      have hs1 := hb1.size
      have hb3 : Below wr.heap.size wr (W2.alloc (.cells #[.string ⟨#[120]⟩, .int .i64 3, .bool false, .int .i64 0, .int .u64 (x : Int), .string (S [])] 58)) := (hb1.trans (hup2.mono hs1)).trans (hup3.mono (by omega))
      have hNew : ∀ W3, W3 = W2.alloc (.cells #[.string ⟨#[120]⟩, .int .i64 3, .bool false, .int .i64 0, .int .u64 (x : Int), .string (S [])] 58) → Ppr.New ⟨[112], 0, some ⟨W2.heap.size, 0, none⟩, [⟨[120], ⟨3, false, 0, x, []⟩⟩], 1, W2.heap.size⟩ w.heap.size W3 := fun W3 e => by
        rw [← e] at hF hz3
        refine ⟨⟨fun _ => ⟨0, rfl, by show W2.heap.size < W3.heap.size; omega, fun i hi => ?_⟩, (show 1 ≤ 1000000 by decide), fun f hf => ?_⟩, fun _ => (show w.heap.size ≤ W2.heap.size by omega), fun _ => ⟨_, hF⟩⟩
        · have h0 : i = 0 := by simp only [List.length_singleton] at hi; omega
          subst h0
          exact ⟨hF.cell 0, hF.cell 1, hF.cell 2, hF.cell 3, hF.cell 4, hF.cell 5⟩
        · rw [List.mem_singleton.1 hf]
          exact HVK.out
      replace hNew := hNew _ rfl
      have HB3 := Lib.hid hb3
      clear hF hup2 hup3 hb3
      have hgo : ∀ W3, W3 = W2.alloc (.cells #[.string ⟨#[120]⟩, .int .i64 3, .bool false, .int .i64 0, .int .u64 (x : Int), .string (S [])] 58) → Hid ((W3.alloc (.cells #[.string ⟨#[112]⟩, .int .i64 0, .slice (some ⟨W2.heap.size, 0, none⟩) 1 1] 27)).ownsRow w.heap.size 27 3 u3 k (pprs M) ∧ Below w.heap.size w (W3.alloc (.cells #[.string ⟨#[112]⟩, .int .i64 0, .slice (some ⟨W2.heap.size, 0, none⟩) 1 1] 27)) ∧ (∀ p ∈ M ++ [(⟨[112], 0, some ⟨W2.heap.size, 0, none⟩, [⟨[120], ⟨3, false, 0, x, []⟩⟩], 1, W2.heap.size⟩ : Ppr)], p.New w.heap.size (W3.alloc (.cells #[.string ⟨#[112]⟩, .int .i64 0, .slice (some ⟨W2.heap.size, 0, none⟩) 1 1] 27))) ∧ (∀ (j : Nat) (u : Value), (Ppr.cs ⟨[112], 0, some ⟨W2.heap.size, 0, none⟩, [⟨[120], ⟨3, false, 0, x, []⟩⟩], 1, W2.heap.size⟩)[j]? = some u → (W3.alloc (.cells #[.string ⟨#[112]⟩, .int .i64 0, .slice (some ⟨W2.heap.size, 0, none⟩) 1 1] 27)).cell? ((⟨W2.heap.size + 1, 0, none⟩ : Addr).add j) = some u) ∧ w.heap.size ≤ (W3.alloc (.cells #[.string ⟨#[112]⟩, .int .i64 0, .slice (some ⟨W2.heap.size, 0, none⟩) 1 1] 27)).heap.size) := fun W3 e => by
        rw [← e] at hNew hz3
        have HB3 := Lib.hid (e ▸ HB3.out : Below wr.heap.size wr W3)
        have hup := up1 (w := W3) (.cells #[.string ⟨#[112]⟩, .int .i64 0, .slice (some ⟨W2.heap.size, 0, none⟩) 1 1] 27)
        refine Lib.hid ⟨(own_mv HOWN.out (Mv.of_below HB3.out []) (by simp)).alloc _, (HBK.out.trans (HB3.out.mono HBK.out.size)).trans (hup.mono (by have := HBK.out.size; have := HB3.out.size; omega)), fun p hp => ?_, hz3 ▸ madePpr W3 ⟨[112], 0, some ⟨W2.heap.size, 0, none⟩, [⟨[120], ⟨3, false, 0, x, []⟩⟩], 1, W2.heap.size⟩ (T := 27), by rw [asize]; have := HBK.out.size; have := HB3.out.size; omega⟩
        rcases List.mem_append.1 hp with hp | hp
        · exact ((HNEW.out p hp).below HB3.out).below hup
        · rw [List.mem_singleton.1 hp]
          exact hNew.below hup
      have HG := hgo _ rfl
      have hgs := HG.out.2.2.2.2
      clear hgo hNew HB3 HOWN HBK HNEW hsB hs1 hz2 hz3
      go_upto_region 8 with (at_builtin; refine wpList_append_own _ rfl (.tmp 28) (.tmp 33) 40 rfl w.heap.size 27 i0 (.agg #[.string ⟨#[]⟩, .int .i64 0, .slice none 0 0]) 3 48 Try.underlying40 HI.out.1 HI.out.2.1 HI.out.2.2.1 HI.out.2.2.2 rfl (by decide) u3 k (pprs M) rfl HG.out.1 ⟨W2.heap.size + 1, 0, none⟩ 1 1 (Ppr.cs ⟨[112], 0, some ⟨W2.heap.size, 0, none⟩, [⟨[120], ⟨3, false, 0, x, []⟩⟩], 1, W2.heap.size⟩) rfl rfl HG.out.2.2.2.1 (Ppr.cs_one _) (by simp only [maxLen]; omega) (by omega) hgs ?_; intro v9 w9 hown9 hg9 hnil9)
      rw [pprs_snoc] at hown9
      have hD9 := HG.out.2.1.grown hg9 hgs (fun q hq => (HG.out.1.lt q hq).1)
      have HN9 := Lib.hid (fun p hp => (HG.out.2.2.1 p hp).grown HG.out.1 hg9)
      have c9 := (World.cell?_of_block (hD9.block bb HBLK.out.1)).trans HBLK.out.2
      have HD9 := Lib.hid hD9
      have HO9 := Lib.hid hown9
      clear hg9 hnil9 hD9 hown9 HG hgs HBLK v0 v1 v2 v3 v4
      have HL2 : Hid ((M ++ [(⟨[112], 0, some ⟨W2.heap.size, 0, none⟩, [⟨[120], ⟨3, false, 0, x, []⟩⟩], 1, W2.heap.size⟩ : Ppr)]).map Ppr.L = (B.take (k + 1)).map Fnd.fltL) := by
        show _ = _
        rw [List.map_append, HM.out, HMT.out, HFL.out]; rfl
      have hM2 : (M ++ [(⟨[112], 0, some ⟨W2.heap.size, 0, none⟩, [⟨[120], ⟨3, false, 0, x, []⟩⟩], 1, W2.heap.size⟩ : Ppr)]).length = k + 1 := by rw [List.length_append, hMl]; rfl
      generalize M ++ [(⟨[112], 0, some ⟨W2.heap.size, 0, none⟩, [⟨[120], ⟨3, false, 0, x, []⟩⟩], 1, W2.heap.size⟩ : Ppr)] = M2 at HL2 hM2 HN9 HO9
      clear HM HMT HFL HVK cb hbb HB
      go_cut [4] from 35 to 43 (fun v4 W => v4 = .bool (Fnd.anyNan (B.take (k + 1))) ∧ W = w9)
      case first =>
        have HE := Lib.hid HS.out.1
        clear HS HL2 HN9 HD9 HO9 HROW HI HA HSM HB0
        cases f4 with
        | true =>
          go_wp2_with fail
          go_meet
          exact ⟨by rw [HE.out.1, Bool.true_or], rfl⟩
        | false =>
          go_wp2_with fail
          go_meet
          exact ⟨by rw [HE.out.1, Bool.false_or, ← HE.out.2]; rfl, rfl⟩
      obtain ⟨rfl, ew⟩ := hcut
      rw [ew]
      clear ew wc
      go_upto_region 9 with fail
      go_cut [5] from 44 to 51 (fun v5 W => v5 = .bool (Fnd.anyIs 9218868437227405312 (B.take (k + 1))) ∧ W = w9)
      case first =>
        have HE := Lib.hid HS.out.2.1
        clear HS HL2 HN9 HD9 HO9 HROW HI HA HSM HB0
        cases f5 with
        | true =>
          go_wp2_with fail
          go_meet
          exact ⟨by rw [HE.out.1, Bool.true_or], rfl⟩
        | false =>
          go_wp2_with fail
          go_meet
          exact ⟨by rw [HE.out.1, Bool.false_or, ← HE.out.2]; rfl, rfl⟩
      obtain ⟨rfl, ew⟩ := hcut
      rw [ew]
      clear ew wc
      go_upto_region 10 with fail
      go_cut [6] from 52 to 59 (fun v6 W => v6 = .bool (Fnd.anyIs 18442240474082181120 (B.take (k + 1))) ∧ W = w9)
      case first =>
        have HE := Lib.hid HS.out.2.2.1
        clear HS HL2 HN9 HD9 HO9 HROW HI HA HSM HB0
        cases f6 with
        | true =>
          go_wp2_with fail
          go_meet
          exact ⟨by rw [HE.out.1, Bool.true_or], rfl⟩
        | false =>
          go_wp2_with fail
          go_meet
          exact ⟨by rw [HE.out.1, Bool.false_or, ← HE.out.2]; rfl, rfl⟩
      obtain ⟨rfl, ew⟩ := hcut
      rw [ew]
      clear ew wc
      go_upto_region 11 with fail
      have HE := Lib.hid HS.out.2.2.2
      clear HS
      cases f7 with
      | false =>
        go_wp2_with fail
        go_roundg (B.length - (k + 1))
        case measure => omega
        case rel => exact ⟨k + 1, M2, by omega, by omega, by go_num, Nat.le_refl _, hM2, HL2, HO9.out, HN9, rfl, rfl, rfl, by rw [HE.out.1, Bool.false_and], HD9.out⟩
      | true =>
        go_wp2_with fail
        go_roundg (B.length - (k + 1))
        case measure => omega
        case rel => exact ⟨k + 1, M2, by omega, by omega, by go_num, Nat.le_refl _, hM2, HL2, HO9.out, HN9, rfl, rfl, rfl, by rw [HE.out.1, Bool.true_and, ← HE.out.2]; rfl, HD9.out⟩
    · have hkB : B.take k = B.take 30 := by
        rcases Nat.lt_or_ge k B.length with h | h
        · have : k = 30 := by omega
          rw [this]
        · rw [List.take_of_length_le (by omega), List.take_of_length_le (by omega)]
      rw [← hkB] at HSM
      have hBl : ∀ b ∈ B.take k, b < 18446744073709551616 := fun b hb => HB.out b (List.mem_of_mem_take hb)
      have hBn : (B.take k).length = k := by rw [List.length_take]; omega
      have hcond : ((k : Int) < (B.length : Int) ∧ ¬ (k : Int) < 30) ∨ ¬ (k : Int) < (B.length : Int) := by omega
      clear hkB hlt hb0
      generalize B.take k = C at HM HSM hBl hBn ⊢
      obtain ⟨A3, cap3, rfl, hlc3, hcm3, -, -, hr3⟩ := own_rowC hown (s := []) (by simp) (by decide)
      have hrp : RowPp wr A3 M := ⟨hr3, fun p hp => (HNEW.out p hp).pin⟩
      have hmean := mean_any (capB := cap3) [120] hrp (by omega)
      rw [HM.out, Fnd.vals_flt, Fnd.flts_of, hMl] at hmean
      have HMEAN := Lib.hid hmean
      have HRP := Lib.hid hrp
      have HBK := Lib.hid hbk
      clear hown hr3 HNEW hmean hrp hbk
      go_upto_region 4 with fail
      go_cut [19] from 12 to 18 (fun v19 W => v19 = .bool false ∧ W = wr)
      case first =>
        clear HMEAN HRP HSM HB HI HA HROW
        rcases hcond with ⟨h1, h2⟩ | h1
        · go_wp2_with fail
          go_meet
          exact ⟨rfl, rfl⟩
        · go_wp2_with fail
          go_meet
          exact ⟨rfl, rfl⟩
      obtain ⟨rfl, ew⟩ := hcut
      rw [ew]
      clear ew wc hcond
      go_wp2_with fail
      refine HMEAN.out.mono ?_
      rintro r W1 ⟨hb1, h⟩
      have hsB := HBK.out.size
      have hs1 := hb1.size
      rcases h with ⟨hC, rfl⟩ | ⟨hC, z, hz, rfl⟩
      · have hk0 : k = 0 := by
          have := congrArg List.length hC
          rw [List.length_map, hBn] at this
          exact this
        clear HSM HB HROW HRP HM hBl hC hMl HMEAN
        subst hk0
        have hV := Has.made W1 35 #[.int .i64 0, .bool false, .int .i64 0, .int .u64 0, .string ⟨#[]⟩]
        have hD := (HBK.out.trans (hb1.mono hsB)).trans ((up1 (w := W1) (.cells #[.int .i64 0, .bool false, .int .i64 0, .int .u64 0, .string ⟨#[]⟩] 35)).mono (by omega))
        go_upto_region 13 with fail
        generalize W1.alloc (.cells #[.int .i64 0, .bool false, .int .i64 0, .int .u64 0, .string ⟨#[]⟩] 35) = W2 at hV hD ⊢
        have HD := Lib.hid hD
        have v0 := hV.cell 0; have v1 := hV.cell 1; have v2 := hV.cell 2; have v3 := hV.cell 3; have v4 := hV.cell 4
        have hE : ∀ W, (binOp .eql 35 (.agg #[.int .i64 0, .bool false, .int .i64 0, .int .u64 0, .string ⟨#[]⟩]) (.agg #[.int .i64 0, .bool false, .int .i64 0, .int .u64 0, .string ⟨#[]⟩])).run Try.prog W = .ok (.bool true) W := fun W => by
          have := run_veq ⟨0, false, 0, 0, []⟩ ⟨0, false, 0, 0, []⟩ W
          rw [decide_eq_true rfl] at this
          exact this
        have hG : ∀ op o1 o2 W, (eqGuard op 35 o1 o2 (.agg #[.int .i64 0, .bool false, .int .i64 0, .int .u64 0, .string ⟨#[]⟩]) (.agg #[.int .i64 0, .bool false, .int .i64 0, .int .u64 0, .string ⟨#[]⟩])).run Try.prog W = .ok () W := fun op o1 o2 W => run_vguard op o1 o2 ⟨0, false, 0, 0, []⟩ ⟨0, false, 0, 0, []⟩ W
        clear hD hV hsB hs1 hb1 HBK
        go_wp2_with fail
        refine (HA.out _).mono ?_
        rintro r W4 ⟨rfl, hb4⟩
        go_wp2_with fail
        go_ret
        have hd := HD.out.trans (hb4.mono HD.out.size)
        rw [HB0.out] at hd
        exact ⟨rfl, hd⟩
      · have hC0 : C ≠ [] := fun e => hC (by rw [e]; rfl)
        have hC30 : C.length ≤ 30 := by omega
        have hkp : 0 < k := by
          rw [← hBn]
          exact List.length_pos_iff.2 hC0
        have y1 : (Fnd.anyNan C || Fnd.anyIs 9218868437227405312 C && Fnd.anyIs 18442240474082181120 C) = true → Val.cbits z = 9221120237041090561 := fun h => Fnd.mean_none hBl hz (by
          rw [Bool.or_eq_true, Bool.and_eq_true] at h
          exact h)
        have y2 : Fnd.allZero C = true → Val.cbits z = 0 := fun h => Fnd.mean_zero hBl hz hC0 hC30 h
        have y3 : k = 1 → (Fnd.anyNan C || Fnd.anyIs 9218868437227405312 C && Fnd.anyIs 18442240474082181120 C) = false → Fnd.allZero C = false → ∃ p, M = [p] ∧ p.L = [⟨[120], ⟨3, false, 0, Val.cbits z, []⟩⟩] := fun hk1 h h0 => by
          obtain ⟨b, rfl⟩ := List.length_eq_one_iff.1 (hBn.trans hk1)
          obtain ⟨p, rfl⟩ := List.length_eq_one_iff.1 (hMl.trans hk1)
          have hm := HM.out
          simp only [List.map_cons, List.map_nil, List.cons.injEq, and_true] at hm
          rw [Bool.or_eq_false_iff] at h
          exact ⟨p, rfl, by rw [hm, Fnd.mean_same (hBl b (List.mem_singleton.2 rfl)) hz h.1 h0]; rfl⟩
        have y4 : (Fnd.anyNan C || Fnd.anyIs 9218868437227405312 C && Fnd.anyIs 18442240474082181120 C) = false → Fnd.anyIs 9218868437227405312 C = true → Fnd.allSmall C = true → Val.cbits z = 9218868437227405312 := fun h hu hs => by
          rw [Bool.or_eq_false_iff, hu, Bool.true_and] at h
          exact Fnd.mean_inf hBl hz hC30 h.1 hu h.2 hs
        have hrt := fun W => right_any (Val.of z) (Fnd.of_ok hz.1) W
        rw [Fnd.of_right] at hrt
        have hvv : (Val.of z).v = .agg #[.int .i64 3, .bool false, .int .i64 0, .int .u64 (Val.cbits z : Int), .string (S [])] := rfl
        rw [hvv] at hrt ⊢
        have HY := Lib.hid (And.intro y1 (And.intro y2 (And.intro y3 y4)))
        have HRT := Lib.hid hrt
        clear y1 y2 y3 y4 hvv hrt HMEAN hC hC0 hC30 HM hBl
        generalize Val.cbits z = y at HY HRT ⊢
        clear hz z
        generalize Fnd.anyNan C = f4 at HY ⊢
        generalize Fnd.anyIs 9218868437227405312 C = f5 at HY ⊢
        generalize Fnd.anyIs 18442240474082181120 C = f6 at HY ⊢
        generalize Fnd.allZero C = f7 at HY ⊢
        generalize Fnd.allSmall C = sm at HY HSM
        have hV := Has.made W1 35 (vcs5 3 false 0 y [])
        have hup := up1 (w := W1) (.cells (vcs5 3 false 0 y []) 35)
        have hkz : ¬ (k : Int) = 0 := by omega
        go_upto_region 13 with fail
        generalize W1.alloc (.cells (vcs5 3 false 0 y []) 35) = W2 at hV hup ⊢
        generalize W1.heap.size = g at hV ⊢
        have HV := Lib.hid hV
        have HD2 := Lib.hid ((HBK.out.trans (hb1.mono hsB)).trans (hup.mono (by have := hb1.size; omega)))
        have HRP2 := Lib.hid ((HRP.out.below hb1).below hup)
        obtain ⟨v0, v1, v2, v3, v4⟩ := vlies hV
        clear hV hup hb1 HBK HRP hsB hs1
        go_wp2_with fail
        refine (HRT.out _).mono ?_
        rintro r W3 ⟨rfl, hb3⟩
        have hV3 := HV.out.below hb3 HV.out.lt
        have HV3 := Lib.hid hV3
        have HD := Lib.hid (HD2.out.trans (hb3.mono HD2.out.size))
        have HRP3 := Lib.hid (HRP2.out.below hb3)
        clear v0 v1 v2 v3 v4 HV HD2 HRP2 hb3 hV3 HRT
        go_upto_region 17 with fail
        obtain ⟨q, hq⟩ : ∃ q, q = (f4 || f5 && f6) := ⟨_, rfl⟩
        have HQ := Lib.hid hq
        rw [← hq] at HY
        clear hq
        go_cut [105] from 99 to 104 (fun v105 W => v105 = .bool q ∧ W = W3)
        case first =>
          clear HY HA HSM HROW HB HRP3 HD
          cases f4
          · cases f5
            · go_wp2_with fail
              go_meet
              exact ⟨by rw [HQ.out]; rfl, rfl⟩
            · go_wp2_with fail
              go_meet
              exact ⟨by rw [HQ.out]; rfl, rfl⟩
          · go_wp2_with fail
            go_meet
            exact ⟨by rw [HQ.out]; rfl, rfl⟩
        obtain ⟨rfl, ew⟩ := hcut
        rw [ew]
        clear ew wc HQ
        cases q with
        | true =>
          have v3 : W3.cell? ⟨g, 3, none⟩ = some (.int .u64 9221120237041090561) := by
            have hy := HY.out.1 rfl
            have := HV3.out.cell 3
            rw [hy] at this
            exact this
          go_wp2_with fail
          refine (HA.out _).mono ?_
          rintro r W4 ⟨rfl, hb4⟩
          go_wp2_with fail
          go_ret
          have hd := HD.out.trans (hb4.mono HD.out.size)
          rw [HB0.out] at hd
          exact ⟨rfl, hd⟩
        | false =>
          cases f7 with
          | true =>
            have v3 : W3.cell? ⟨g, 3, none⟩ = some (.int .u64 0) := by
              have hy := HY.out.2.1 rfl
              have := HV3.out.cell 3
              rw [hy] at this
              exact this
            go_wp2_with fail
            refine (HA.out _).mono ?_
            rintro r W4 ⟨rfl, hb4⟩
            go_wp2_with fail
            go_ret
            have hd := HD.out.trans (hb4.mono HD.out.size)
            rw [HB0.out] at hd
            exact ⟨rfl, hd⟩
          | false =>
            by_cases hk1 : k = 1
            · obtain ⟨p, hM, hpL⟩ := HY.out.2.2.1 hk1 rfl rfl
              subst hM
              obtain ⟨bp, op, rfl, hbp, -, -, p2, hin⟩ := HRP3.out.get 0 (by simp)
              obtain ⟨id, cls, PA, PL, pcap, pb⟩ := p
              replace hpL : PL = [⟨[120], ⟨3, false, 0, y, []⟩⟩] := hpL
              subst hpL
              obtain ⟨off, hA, hpb, hc⟩ := hin.fs (by simp)
              replace hA : PA = some ⟨pb, off, none⟩ := hA
              subst hA
              obtain ⟨-, c1, c2, c3, c4, c5⟩ := hc 0 (by simp)
              try simp at p2
              try simp at c1
              try simp at c2
              try simp at c3
              try simp at c4
              try simp at c5
              have hx : MeanS g y bp op pb off pcap W3.drew := ⟨vlies HV3.out, p2, c1, c2, c3, c4, c5⟩
              have hE : ∀ W, (binOp .eql 35 (.agg (vcs5 3 false 0 y [])) (.agg (vcs5 3 false 0 y []))).run Try.prog W = .ok (.bool true) W := fun W => by
                have := run_veq ⟨3, false, 0, y, []⟩ ⟨3, false, 0, y, []⟩ W
                rw [decide_eq_true rfl] at this
                exact this
              have hG : ∀ op o1 o2 W, (eqGuard op 35 o1 o2 (.agg (vcs5 3 false 0 y [])) (.agg (vcs5 3 false 0 y []))).run Try.prog W = .ok () W := fun op o1 o2 W => run_vguard op o1 o2 ⟨3, false, 0, y, []⟩ ⟨3, false, 0, y, []⟩ W
              have hb3' : Hid (Below w.heap.size w W3.drew) := Lib.hid ⟨HD.out.os, HD.out.tape, HD.out.output, HD.out.size, HD.out.block⟩
              replace hpb : pb < W3.heap.size := hpb
              have HC : Hid (∀ W, Below W3.heap.size W3 W → MeanS g y bp op pb off pcap W) := Lib.hid fun W h => ⟨vlies (HV3.out.below h HV3.out.lt), (World.cell?_of_block (h.block bp hbp)).trans p2, (World.cell?_of_block (h.block pb hpb)).trans c1, (World.cell?_of_block (h.block pb hpb)).trans c2, (World.cell?_of_block (h.block pb hpb)).trans c3, (World.cell?_of_block (h.block pb hpb)).trans c4, (World.cell?_of_block (h.block pb hpb)).trans c5⟩
              clear hin hc p2 c1 c2 c3 c4 c5 hbp hpb
              subst hk1
              go_upto_region 22 with fail
              refine wp_region_held_drew (S := MeanS g y bp op pb off pcap) (by kernel_rfl) hx (fun hHeld => ?_)
              first
              | (refine take_wanted (i := 0) (v := ?_) rfl rfl (by kernel_rfl) (by kernel_rfl) (by kernel_rfl) (fun _ _ _ h => h) (by rfl) (by assumption) ?_ ?_; rotate_left; (focus (intro w hSw; (try dsimp only at hSw); go_simp; first | done | with_reducible rfl)); (simp only [Act.at, List.setIfInBounds_toArray, List.set_cons_zero, List.set_cons_succ]))
              | (refine take_unwanted (i := 0) rfl rfl (by kernel_rfl) (by kernel_rfl) (by kernel_rfl) (fun _ _ _ h => h) (by rfl) (by assumption) ?_; (simp only [Act.at, List.setIfInBounds_toArray, List.set_cons_zero, List.set_cons_succ]))
              first
              | (refine take_wanted (i := 1) (v := ?_) rfl rfl (by kernel_rfl) (by kernel_rfl) (by kernel_rfl) (fun _ _ _ h => h) (by rfl) (by assumption) ?_ ?_; rotate_left; (focus (intro w hSw; (try dsimp only at hSw); go_simp; first | done | with_reducible rfl)); (simp only [Act.at, List.setIfInBounds_toArray, List.set_cons_zero, List.set_cons_succ]))
              | (refine take_unwanted (i := 1) rfl rfl (by kernel_rfl) (by kernel_rfl) (by kernel_rfl) (fun _ _ _ h => h) (by rfl) (by assumption) ?_; (simp only [Act.at, List.setIfInBounds_toArray, List.set_cons_zero, List.set_cons_succ]))
              first
              | (refine take_wanted (i := 2) (v := ?_) rfl rfl (by kernel_rfl) (by kernel_rfl) (by kernel_rfl) (fun _ _ _ h => h) (by rfl) (by assumption) ?_ ?_; rotate_left; (focus (intro w hSw; (try dsimp only at hSw); go_simp; first | done | with_reducible rfl)); (simp only [Act.at, List.setIfInBounds_toArray, List.set_cons_zero, List.set_cons_succ]))
              | (refine take_unwanted (i := 2) rfl rfl (by kernel_rfl) (by kernel_rfl) (by kernel_rfl) (fun _ _ _ h => h) (by rfl) (by assumption) ?_; (simp only [Act.at, List.setIfInBounds_toArray, List.set_cons_zero, List.set_cons_succ]))
              first
              | (refine take_wanted (i := 3) (v := ?_) rfl rfl (by kernel_rfl) (by kernel_rfl) (by kernel_rfl) (fun _ _ _ h => h) (by rfl) (by assumption) ?_ ?_; rotate_left; (focus (intro w hSw; (try dsimp only at hSw); go_simp; first | done | with_reducible rfl)); (simp only [Act.at, List.setIfInBounds_toArray, List.set_cons_zero, List.set_cons_succ]))
              | (refine take_unwanted (i := 3) rfl rfl (by kernel_rfl) (by kernel_rfl) (by kernel_rfl) (fun _ _ _ h => h) (by rfl) (by assumption) ?_; (simp only [Act.at, List.setIfInBounds_toArray, List.set_cons_zero, List.set_cons_succ]))
              first
              | (refine take_wanted (i := 4) (v := ?_) rfl rfl (by kernel_rfl) (by kernel_rfl) (by kernel_rfl) (fun _ _ _ h => h) (by rfl) (by assumption) ?_ ?_; rotate_left; (focus (intro w hSw; (try dsimp only at hSw); go_simp; first | done | with_reducible rfl)); (simp only [Act.at, List.setIfInBounds_toArray, List.set_cons_zero, List.set_cons_succ]))
              | (refine take_unwanted (i := 4) rfl rfl (by kernel_rfl) (by kernel_rfl) (by kernel_rfl) (fun _ _ _ h => h) (by rfl) (by assumption) ?_; (simp only [Act.at, List.setIfInBounds_toArray, List.set_cons_zero, List.set_cons_succ]))
              first
              | (refine take_wanted (i := 5) (v := ?_) rfl rfl (by kernel_rfl) (by kernel_rfl) (by kernel_rfl) (fun _ _ _ h => h) (by rfl) (by assumption) ?_ ?_; rotate_left; (focus (intro w hSw; (try dsimp only at hSw); go_simp; first | done | with_reducible rfl)); (simp only [Act.at, List.setIfInBounds_toArray, List.set_cons_zero, List.set_cons_succ]))
              | (refine take_unwanted (i := 5) rfl rfl (by kernel_rfl) (by kernel_rfl) (by kernel_rfl) (fun _ _ _ h => h) (by rfl) (by assumption) ?_; (simp only [Act.at, List.setIfInBounds_toArray, List.set_cons_zero, List.set_cons_succ]))
              first
              | (refine take_wanted (i := 6) (v := ?_) rfl rfl (by kernel_rfl) (by kernel_rfl) (by kernel_rfl) (fun _ _ _ h => h) (by rfl) (by assumption) ?_ ?_; rotate_left; (focus (intro w hSw; (try dsimp only at hSw); go_simp; first | done | with_reducible rfl)); (simp only [Act.at, List.setIfInBounds_toArray, List.set_cons_zero, List.set_cons_succ]))
              | (refine take_unwanted (i := 6) rfl rfl (by kernel_rfl) (by kernel_rfl) (by kernel_rfl) (fun _ _ _ h => h) (by rfl) (by assumption) ?_; (simp only [Act.at, List.setIfInBounds_toArray, List.set_cons_zero, List.set_cons_succ]))
              first
              | (refine take_wanted (i := 7) (v := ?_) rfl rfl (by kernel_rfl) (by kernel_rfl) (by kernel_rfl) (fun _ _ _ h => h) (by rfl) (by assumption) ?_ ?_; rotate_left; (focus (intro w hSw; (try dsimp only at hSw); go_simp; first | done | with_reducible rfl)); (simp only [Act.at, List.setIfInBounds_toArray, List.set_cons_zero, List.set_cons_succ]))
              | (refine take_unwanted (i := 7) rfl rfl (by kernel_rfl) (by kernel_rfl) (by kernel_rfl) (fun _ _ _ h => h) (by rfl) (by assumption) ?_; (simp only [Act.at, List.setIfInBounds_toArray, List.set_cons_zero, List.set_cons_succ]))
              first
              | (refine take_wanted (i := 8) (v := ?_) rfl rfl (by kernel_rfl) (by kernel_rfl) (by kernel_rfl) (fun _ _ _ h => h) (by rfl) (by assumption) ?_ ?_; rotate_left; (focus (intro w hSw; (try dsimp only at hSw); go_simp; first | done | with_reducible rfl)); (simp only [Act.at, List.setIfInBounds_toArray, List.set_cons_zero, List.set_cons_succ]))
              | (refine take_unwanted (i := 8) rfl rfl (by kernel_rfl) (by kernel_rfl) (by kernel_rfl) (fun _ _ _ h => h) (by rfl) (by assumption) ?_; (simp only [Act.at, List.setIfInBounds_toArray, List.set_cons_zero, List.set_cons_succ]))
              first
              | (refine take_wanted (i := 9) (v := ?_) rfl rfl (by kernel_rfl) (by kernel_rfl) (by kernel_rfl) (fun _ _ _ h => h) (by rfl) (by assumption) ?_ ?_; rotate_left; (focus (intro w hSw; (try dsimp only at hSw); go_simp; first | done | with_reducible rfl)); (simp only [Act.at, List.setIfInBounds_toArray, List.set_cons_zero, List.set_cons_succ]))
              | (refine take_unwanted (i := 9) rfl rfl (by kernel_rfl) (by kernel_rfl) (by kernel_rfl) (fun _ _ _ h => h) (by rfl) (by assumption) ?_; (simp only [Act.at, List.setIfInBounds_toArray, List.set_cons_zero, List.set_cons_succ]))
              refine take_call (i := 10) (by kernel_rfl) rfl rfl (by rfl) (fun K hK => ?_)
              go_simp
              refine (HA.out _).mono ?_
              rintro r W4 ⟨rfl, hb4⟩
              have hb4' : Below W3.heap.size W3 W4 := ⟨hb4.os, hb4.tape, hb4.output, hb4.size, hb4.block⟩
              have HB4 := Lib.hid (HD.out.trans (hb4'.mono HD.out.size))
              clear hx
              have hx := HC.out W4 hb4'
              clear hb4 hb4' hb3' HC HY hE hG
              refine hK.out _ _ hx (fun hHeld => ?_)
              clear hK K
              try simp only [Act.put, List.setIfInBounds_toArray, List.set_cons_zero, List.set_cons_succ]
              first
              | (refine take_wanted (i := 11) (v := ?_) rfl rfl (by kernel_rfl) (by kernel_rfl) (by kernel_rfl) (fun _ _ _ h => h) (by rfl) (by assumption) ?_ ?_; rotate_left; (focus (intro w hSw; (try dsimp only at hSw); go_simp; first | done | with_reducible rfl)); (simp only [Act.at, List.setIfInBounds_toArray, List.set_cons_zero, List.set_cons_succ]))
              | (refine take_unwanted (i := 11) rfl rfl (by kernel_rfl) (by kernel_rfl) (by kernel_rfl) (fun _ _ _ h => h) (by rfl) (by assumption) ?_; (simp only [Act.at, List.setIfInBounds_toArray, List.set_cons_zero, List.set_cons_succ]))
              first
              | (refine take_wanted (i := 12) (v := ?_) rfl rfl (by kernel_rfl) (by kernel_rfl) (by kernel_rfl) (fun _ _ _ h => h) (by rfl) (by assumption) ?_ ?_; rotate_left; (focus (intro w hSw; (try dsimp only at hSw); go_simp; first | done | with_reducible rfl)); (simp only [Act.at, List.setIfInBounds_toArray, List.set_cons_zero, List.set_cons_succ]))
              | (refine take_unwanted (i := 12) rfl rfl (by kernel_rfl) (by kernel_rfl) (by kernel_rfl) (fun _ _ _ h => h) (by rfl) (by assumption) ?_; (simp only [Act.at, List.setIfInBounds_toArray, List.set_cons_zero, List.set_cons_succ]))
              refine wpAnyH_done (by kernel_rfl) ?_ _
              go_wp2_with fail
              go_ret
              have hd := HB4.out
              rw [HB0.out] at hd
              exact ⟨rfl, hd⟩
            · have hk2 : ¬ (k : Int) = 1 := by omega
              have hk3 : (1 : Int) < (k : Int) := by omega
              cases f5 with
              | false =>
                go_wp2_with fail
                refine (HA.out _).mono ?_
                rintro r W4 ⟨rfl, hb4⟩
                go_wp2_with fail
                go_ret
                have hd := HD.out.trans (hb4.mono HD.out.size)
                rw [HB0.out] at hd
                exact ⟨rfl, hd⟩
              | true =>
                go_wp2_with fail
                refine (HSM.out W3 (HB0.out ▸ HD.out)).mono ?_
                rintro r W5 ⟨rfl, e5⟩
                rw [e5]
                clear e5 W5
                cases sm with
                | true =>
                  have v3 : W3.cell? ⟨g, 3, none⟩ = some (.int .u64 9218868437227405312) := by
                    have hy := HY.out.2.2.2 (by simp) (by simp) (by simp)
                    have := HV3.out.cell 3
                    rw [hy] at this
                    exact this
                  go_wp2_with fail
                  refine (HA.out _).mono ?_
                  rintro r W4 ⟨rfl, hb4⟩
                  go_wp2_with fail
                  go_ret
                  have hd := HD.out.trans (hb4.mono HD.out.size)
                  rw [HB0.out] at hd
                  exact ⟨rfl, hd⟩
                | false =>
                  go_wp2_with fail
                  refine (HA.out _).mono ?_
                  rintro r W4 ⟨rfl, hb4⟩
                  go_wp2_with fail
                  go_ret
                  have hd := HD.out.trans (hb4.mono HD.out.size)
                  rw [HB0.out] at hd
                  exact ⟨rfl, hd⟩
set_option maxRecDepth 100000 in
theorem findMeans_contract {H : Type} (enc : TypeId × Value → H) (W : World) (base : Nat) (args : Array Value) (ds gs : List (DataW H)) (before : List MemPlace)
    (hval : ∀ (j : Nat) t v, Try.f7.params[j]? = some t → args[j]? = some v → Value.okWide Try.prog W .any base t v)
    (hW : DataW.Whole enc Try.prog Try.f7.params.toList Rows.findMeansSpec.vars false W args.toList ds gs before)
    (hsz : (DataW.weightsEach Try.prog (Try.f7.params.toList ++ Rows.findMeansSpec.plain.varTypes Try.prog) (ds ++ gs)).all (· ≤ reachBytes) = true) :
    Calls Try.prog 7 args W fun e W' =>
      ((Rows.findMeansSpec.fn H (ds ++ gs)).results = [.lit (.bool true)] ∧ (Rows.findMeansSpec.fn H (ds ++ gs)).args = ds ∧ (Rows.findMeansSpec.fn H (ds ++ gs)).vars = []) ∧ e = .returned (.bool true) ∧ Below W.heap.size W W' := by
  obtain ⟨p, q, hA0, hV, rfl, hfz, hnd⟩ := hW
  have hA : DataW.TrodAll enc Try.prog W 0 (fun _ => true) true Try.f7.params.toList args.toList ds p := hA0
  rw [Try.params7] at hA hval hsz
  obtain ⟨v0, d0, rfl, rfl, h0⟩ := trodAll_one hA
  obtain ⟨rfl, rfl⟩ := trodVars_none hV
  obtain ⟨A_b, len_b, cap_b, rfl⟩ := okWide_slice Try.underlying66 (hval 0 66 v0 rfl rfl)
  obtain ⟨fuel_b, hf_b⟩ := h0
  obtain ⟨l_b, rfl, lc_b, cm_b, hR_b, ok_b⟩ := u64s_open hf_b
  exact (findMeans_any hR_b ok_b lc_b cm_b).mono fun e W' h => ⟨⟨rfl, rfl, rfl⟩, h⟩

end Go.Proofs.Ytfcmkbeilpclmaa
