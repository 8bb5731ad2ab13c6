/-
  RBD: the texts StaRB, StaRC, StaRD in one.
-/
import Derived.Test.YtojemaaljjibiaaPStaTwo
import Derived.Test.YtojemaaljjibiaaPStaThree
import Derived.Test.YtojemaaljjibiaaPEvFewE
import Derived.Deep.LoopGhost
import Derived.Deep.QuietTactic
import Derived.Deep.DeepCutAuto
import Derived.Deep.CutBlock
import Derived.Maps.AppendAt
import Derived.Test.YtojemaaljjibiaaPEvRefs
namespace Go.Proofs.Ytojemaaljjibiaa
open Go.RowKit
open Go.Op (bytesLess)
set_option linter.unusedVariables false

set_option maxRecDepth 100000 in
set_option maxHeartbeats 4000000 in
theorem rhas_any {w : World} {x : EntX} (hin : XIn w [] x) (hl : x.e.H.length ≤ 1000) (n : List UInt8) :
    Calls Try.prog 51 #[x.val, .string (S n)] w fun r w' => r = .returned (.bool (decide (n ∈ x.e.H))) ∧ Below w.heap.size w w' := by
  have hb : Below w.heap.size w (w.alloc (.cells #[.string (S x.e.id), .int .i64 x.e.cls, .int .i64 x.e.born, .int .i64 x.e.slot, .slice x.A x.e.L.length x.ca, .bool x.e.gone, .slice x.B x.e.H.length x.cb] 33)) := (Below.refl _ w).alloc (Nat.le_refl _) _
  have hz := (Has.made w 33 #[.string (S x.e.id), .int .i64 x.e.cls, .int .i64 x.e.born, .int .i64 x.e.slot, .slice x.A x.e.L.length x.ca, .bool x.e.gone, .slice x.B x.e.H.length x.cb]).cell 6
  have HR := Lib.hid (hin.rh.below hb)
  have hlb := hin.lb
  unfold EntX.val
  obtain ⟨⟨id, cls, born, slot, L, gone, H⟩, xa, xca, xb, xcb⟩ := x
  dsimp only at *
  have HYES : Hid (∀ k (h : k < H.length), H[k] = n → decide (n ∈ H) = true) := Lib.hid (fun k h e => decide_eq_true (by rw [← e]; exact List.getElem_mem h))
  have HNO : Hid ((∀ y ∈ H, y ≠ n) → decide (n ∈ H) = false) := Lib.hid (fun h => decide_eq_false (fun hm => h n hm rfl))
  generalize decide (n ∈ H) = res at HYES HNO ⊢
  go_enter Try.func51, Try.ntmps51
  go_upto_region 1 with fail
  generalize w.alloc (.cells #[.string (S id), .int .i64 cls, .int .i64 born, .int .i64 slot, .slice xa L.length xca, .bool gone, .slice xb H.length xcb] 33) = W0 at hb hz HR ⊢
  generalize w.heap.size = b0 at hz ⊢
  have z6 : W0.cell? ⟨b0, 6, none⟩ = some (.slice xb H.length xcb) := hz
  have HB := Lib.hid hb
  clear hz hb hin
  go_wp2_with fail
  go_loopg [5] H.length (fun m v5 wr => ∃ k : Nat, k + m = H.length ∧ v5 = .int .i64 (k : Int) ∧ Hid (∀ y ∈ H.take k, y ≠ n) ∧ wr = W0)
  case atStart => exact ⟨0, Nat.zero_add _, rfl, Lib.hid (by simp), rfl⟩
  case round =>
    obtain ⟨k, hkm, rfl, HU, rfl⟩ := hrel
    cases gk with
    | zero =>
      have hlt : ¬ (k : Int) < (H.length : Int) := by omega
      have hf := HNO.out (by have := HU.out; rwa [List.take_of_length_le (by omega)] at this)
      subst hf
      go_wp2_with fail
      go_ret
      exact ⟨rfl, HB.out⟩
    | succ m =>
      have hlt : (k : Int) < (H.length : Int) := by omega
      have hk : k < H.length := by omega
      have hk0 : (0 : Int) ≤ (k : Int) := by omega
      have hkc : (k : Int) < (xcb : Int) := by omega
      have hinc : IntKind.i64.wrap ((k : Int) + 1) = (k : Int) + 1 := by rw [IntKind.wrap_i64]; omega
      obtain ⟨b, off, hA, hbl, -, p0⟩ := RowT.get HR.out k hk
      subst hA
      have HY := Lib.hid (HYES.out k hk)
      have HS : Hid (H[k] ≠ n → ∀ y ∈ H.take (k + 1), y ≠ n) := Lib.hid (fun he y hy => by
        rw [List.take_succ_eq_append_getElem hk] at hy
        rcases List.mem_append.1 hy with hy | hy
        · exact HU.out y hy
        · rw [List.mem_singleton.1 hy]; exact he)
      generalize H[k]'hk = y at p0 HY HS
      by_cases hyn : y = n
      · have hb2 : (y == n) = true := by rw [beq_iff_eq]; exact hyn
        have hf := HY.out hyn
        subst hf
        clear hyn HY HS HYES HNO
        go_wp2_with fail
        go_ret
        exact ⟨rfl, HB.out⟩
      · have hb2 : (y == n) = false := by rw [beq_eq_false_iff_ne]; exact hyn
        have HN := Lib.hid (HS.out hyn)
        clear hyn HY HS
        go_wp2_with fail
        go_roundg m
        case measure => omega
        case rel => exact ⟨k + 1, by omega, by go_num, HN, rfl⟩
/-- What stands at a place among names, with and without one. -/
theorem Sta.hW_same {H : List (List UInt8)} {k : Nat} (hk : k < H.length) {n : List UInt8} (w : Bool) (h : H[k] = n) : Sta.hW (H.drop k) n w = Sta.hW (H.drop (k + 1)) n w := by
  rw [List.drop_eq_getElem_cons hk]
  conv => lhs; unfold Sta.hW
  rw [h, el_irrefl]
  cases w <;> simp
theorem Sta.hW_ahead {H : List (List UInt8)} {k : Nat} (hk : k < H.length) {n : List UInt8} (w : Bool) (h : H[k] ≠ n) (hl : w = false ∨ bytesLess n H[k] = false) : Sta.hW (H.drop k) n w = H[k] :: Sta.hW (H.drop (k + 1)) n w := by
  rw [List.drop_eq_getElem_cons hk]
  conv => lhs; unfold Sta.hW
  rw [if_neg h]
  rcases hl with rfl | hl
  · simp
  · rw [hl]; cases w <;> simp
theorem Sta.hW_hit {H : List (List UInt8)} {k : Nat} (hk : k < H.length) {n : List UInt8} (h : H[k] ≠ n) (hl : bytesLess n H[k] = true) : Sta.hW (H.drop k) n true = n :: H[k] :: Sta.hW (H.drop (k + 1)) n false := by
  rw [List.drop_eq_getElem_cons hk]
  conv => lhs; unfold Sta.hW
  rw [if_neg h, hl]
  simp
theorem Sta.hW_out (n : List UInt8) (w : Bool) : ∀ (H : List (List UInt8)), (Sta.hW H n w).length ≤ H.length + 1 := by
  intro H
  induction H generalizing w with
  | nil => unfold Sta.hW; cases w <;> simp
  | cons y r ih =>
    have h1 := ih (w && !bytesLess n y)
    have h0 : ∀ H : List (List UInt8), (Sta.hW H n false).length ≤ H.length := fun H => by rw [Sta.hW_drop]; exact List.length_filter_le _ _
    unfold Sta.hW
    cases hw : (w && bytesLess n y) with
    | true =>
      rw [Bool.and_eq_true] at hw
      rw [hw.2]
      have h2 := h0 r
      rw [Bool.not_true, Bool.and_false, if_pos rfl]
      by_cases hy : y = n
      · rw [if_pos hy]; simp; omega
      · rw [if_neg hy]; simp; omega
    | false =>
      rw [if_neg (by simp)]
      by_cases hy : y = n
      · rw [if_pos hy]; simp; omega
      · rw [if_neg hy]; simp; omega
theorem strInfo16 : (Try.prog.info? 9).map (fun i => (i.zero, i.size, i.bytes)) = some (some (.string ⟨#[]⟩), 1, 16) := by kernel_rfl
set_option maxRecDepth 100000 in
set_option maxHeartbeats 8000000 in
theorem rholds_any {w : World} {H : List (List UInt8)} {A : Option Addr} {ca : Nat} (hr : RowC w [] A (tvs H)) (hc : H.length ≤ ca) (hl : H.length ≤ 1000) (n : List UInt8) (wt : Bool) :
    Calls Try.prog 43 #[.slice A H.length ca, .string (S n), .bool wt] w fun r w' => ∃ v, r = .returned v ∧ w'.ownsRow w.heap.size 9 1 v (Sta.hW H n wt).length (tvs (Sta.hW H n wt)) ∧ Below w.heap.size w w' := by
  obtain ⟨i0, hi0, hz0, hz1, hz2⟩ := info_parts strInfo16
  have HI := Lib.hid (And.intro hi0 (And.intro hz0 (And.intro hz1 hz2)))
  have HR := Lib.hid hr
  obtain ⟨RES, hres⟩ : ∃ RES, Sta.hW H n wt = RES := ⟨_, rfl⟩
  rw [hres]
  have HL : Hid (RES.length ≤ 1001) := Lib.hid (by rw [← hres]; have := Sta.hW_out n wt H; omega)
  have HST : Hid (([] : List (List UInt8)) ++ Sta.hW (H.drop 0) n wt = RES) := Lib.hid (by rw [List.drop_zero, List.nil_append]; exact hres)
  clear hi0 hz0 hz1 hz2 hr hres
  obtain ⟨W0, hW0⟩ : ∃ W0, w.heap.size = W0 := ⟨_, rfl⟩
  rw [hW0]
  go_enter Try.func43, Try.ntmps43
  go_wp2_with fail
  go_loopg [2, 7, 8] H.length (fun m v2 v7 v8 wr => ∃ (k : Nat) (wk : Bool) (out : List (List UInt8)), k + m = H.length ∧ v8 = .int .i64 (k : Int) ∧ v2 = .bool wk ∧ Hid (out ++ Sta.hW (H.drop k) n wk = RES) ∧ wr.ownsRow W0 9 1 v7 out.length (tvs out) ∧ Below W0 w wr)
  case atStart => exact ⟨0, wt, [], Nat.zero_add _, rfl, rfl, HST, World.ownsRow_nil _ _ _ _, Below.refl _ _⟩
  case round =>
    obtain ⟨k, wk, out, hkm, rfl, rfl, HK, hown, hbk⟩ := hrel
    have hol : out.length ≤ 1001 := by have h1 := congrArg List.length HK.out; rw [List.length_append] at h1; have := HL.out; omega
    have HSZ : Hid (W0 ≤ wr.heap.size) := Lib.hid (by rw [← hW0]; exact hbk.size)
    cases gk with
    | zero =>
      have hlt : ¬ (k : Int) < (H.length : Int) := by omega
      have hk := HK.out
      rw [List.drop_of_length_le (by omega)] at hk
      cases wk with
      | false =>
        have hf : out = RES := by simpa [Sta.hW] using hk
        subst hf
        go_wp2_with fail
        go_ret
        exact ⟨_, rfl, hown, hbk⟩
      | true =>
        have hf : out ++ [n] = RES := by simpa [Sta.hW] using hk
        subst hf
        have HO2 := Lib.hid (hown.alloc (.cells #[.string (S n)] 9))
        go_wp2_with (at_builtin; refine wpList_append_own _ rfl (.tmp 42) (.tmp 44) 31 rfl W0 9 i0 (.string ⟨#[]⟩) 1 16 Try.underlying31 HI.out.1 HI.out.2.1 HI.out.2.2.1 HI.out.2.2.2 rfl (by decide) u7 out.length (tvs out) rfl HO2.out ⟨wr.heap.size, 0, none⟩ 1 1 [.string (S n)] rfl rfl (cell_one_new _ _ _) (by simp [Value.oneCell']) (by simp only [maxLen]; omega) (by omega) (by have := HSZ.out; rw [asize]; omega) ?_; intro v8 w3 hown3 hg3 hnil3)
        have hg3' := grown_alloc _ hg3
        rw [tvs_snoc] at hown3
        have hb3 := evGrown hbk hg3' HSZ.out (fun q hq => (hown.lt q hq).1)
        clear hg3 hnil3 hg3' hown hbk HO2
        go_wp2_with fail
        go_ret
        exact ⟨_, rfl, hown3, hb3⟩
    | succ m =>
      have hlt : (k : Int) < (H.length : Int) := by omega
      have hk : k < H.length := by omega
      have hk0 : (0 : Int) ≤ (k : Int) := by omega
      have hkc : (k : Int) < (ca : Int) := by omega
      have hinc : IntKind.i64.wrap ((k : Int) + 1) = (k : Int) + 1 := by rw [IntKind.wrap_i64]; omega
      obtain ⟨b, off, hA, hbl, -, p0'⟩ := RowT.get HR.out k hk
      have hbl2 : b < W0 := by omega
      have p0 := (hbk.cell (p := ⟨b, off + k, none⟩) hbl2).trans p0'
      have HSA := Lib.hid (Sta.hW_same hk (n := n))
      have HAH := Lib.hid (Sta.hW_ahead hk (n := n))
      have HHI := Lib.hid (Sta.hW_hit hk (n := n))
      subst hA
      generalize H[k]'hk = y at p0 HSA HAH HHI
      clear p0'
      have HKM := Lib.hid hkm
      by_cases hy : y = n
      · -- the name itself
        have hb1 : bytesLess y n = false := by rw [hy]; exact el_irrefl _
        have hb2 : (y == n) = true := by rw [beq_iff_eq]; exact hy
        have HN : Hid (out ++ Sta.hW (H.drop (k + 1)) n wk = RES) := Lib.hid (by rw [← HSA.out wk hy]; exact HK.out)
        clear hy HSA HAH HHI HK
        cases wk
        all_goals
          go_wp2_with fail
          go_roundg m
          case measure => omega
          case rel => exact ⟨k + 1, _, out, by have := HKM.out; omega, by go_num, rfl, HN, hown, hbk⟩
      · have hb2 : (y == n) = false := by rw [beq_eq_false_iff_ne]; exact hy
        have HO2 := Lib.hid (hown.alloc (.cells #[.string (S y)] 9))
        have HO3 := Lib.hid (hown.alloc (.cells #[.string (S n)] 9))
        cases hyl : bytesLess y n with
        | true =>
          have hb1 := hyl
          have HN : Hid ((out ++ [y]) ++ Sta.hW (H.drop (k + 1)) n wk = RES) := Lib.hid (by
            have h1 := HAH.out wk hy (Or.inr (el_asymm _ _ hyl))
            rw [List.append_assoc, List.singleton_append, ← h1]; exact HK.out)
          clear hy hyl HSA HAH HHI HK HO3
          cases wk
          all_goals
            go_wp2_with (at_builtin; refine wpList_append_own _ rfl (.tmp 34) (.tmp 39) 31 rfl W0 9 i0 (.string ⟨#[]⟩) 1 16 Try.underlying31 HI.out.1 HI.out.2.1 HI.out.2.2.1 HI.out.2.2.2 rfl (by decide) u7 out.length (tvs out) rfl HO2.out ⟨wr.heap.size, 0, none⟩ 1 1 [.string (S y)] rfl rfl (cell_one_new _ _ _) (by simp [Value.oneCell']) (by simp only [maxLen]; omega) (by omega) (by have := HSZ.out; rw [asize]; omega) ?_; intro v8 w3 hown3 hg3 hnil3)
            have hg3' := grown_alloc _ hg3
            rw [tvs_snoc] at hown3
            have HREL := Lib.hid (And.intro hown3 (evGrown hbk hg3' HSZ.out (fun q hq => (hown.lt q hq).1)))
            clear hg3 hnil3 hg3' hown hown3 hbk HO2 p0
            go_wp2_with fail
            go_roundg m
            case measure => omega
            case rel => exact ⟨k + 1, _, out ++ [y], by have := HKM.out; omega, by go_num, rfl, HN, by rw [List.length_append]; exact HREL.out.1, HREL.out.2⟩
        | false =>
          have hb1 := hyl
          have hny : bytesLess n y = true := by
            cases hq : bytesLess n y with
            | true => rfl
            | false => exact absurd (el_total _ _ hyl hq) hy
          cases wk with
          | false =>
            have HN : Hid ((out ++ [y]) ++ Sta.hW (H.drop (k + 1)) n false = RES) := Lib.hid (by
              have h1 := HAH.out false hy (Or.inl rfl)
              rw [List.append_assoc, List.singleton_append, ← h1]; exact HK.out)
            clear hy hyl hny HSA HAH HHI HK HO3
            go_wp2_with (at_builtin; refine wpList_append_own _ rfl (.tmp 34) (.tmp 39) 31 rfl W0 9 i0 (.string ⟨#[]⟩) 1 16 Try.underlying31 HI.out.1 HI.out.2.1 HI.out.2.2.1 HI.out.2.2.2 rfl (by decide) u7 out.length (tvs out) rfl HO2.out ⟨wr.heap.size, 0, none⟩ 1 1 [.string (S y)] rfl rfl (cell_one_new _ _ _) (by simp [Value.oneCell']) (by simp only [maxLen]; omega) (by omega) (by have := HSZ.out; rw [asize]; omega) ?_; intro v8 w3 hown3 hg3 hnil3)
            have hg3' := grown_alloc _ hg3
            rw [tvs_snoc] at hown3
            have HREL := Lib.hid (And.intro hown3 (evGrown hbk hg3' HSZ.out (fun q hq => (hown.lt q hq).1)))
            clear hg3 hnil3 hg3' hown hown3 hbk HO2 p0
            go_wp2_with fail
            go_roundg m
            case measure => omega
            case rel => exact ⟨k + 1, _, out ++ [y], by have := HKM.out; omega, by go_num, rfl, HN, by rw [List.length_append]; exact HREL.out.1, HREL.out.2⟩
          | true =>
            have HN : Hid ((out ++ [n] ++ [y]) ++ Sta.hW (H.drop (k + 1)) n false = RES) := Lib.hid (by
              have h1 := HHI.out hy hny
              rw [List.append_assoc, List.append_assoc, List.singleton_append, List.singleton_append, ← h1]; exact HK.out)
            have HPG : Hid (∀ W, W0 ≤ W.heap.size → Below W0 w W → W.cell? ⟨b, off + k, none⟩ = some (.string (S y))) := Lib.hid (fun W _ hW => (hW.cell (p := ⟨b, off + k, none⟩) hbl2).trans ((hbk.cell (p := ⟨b, off + k, none⟩) hbl2).symm.trans p0))
            clear hy hyl HSA HAH HHI HK HO2 hny
            go_upto_region 8 with (at_builtin; refine wpList_append_own _ rfl (.tmp 24) (.tmp 26) 31 rfl W0 9 i0 (.string ⟨#[]⟩) 1 16 Try.underlying31 HI.out.1 HI.out.2.1 HI.out.2.2.1 HI.out.2.2.2 rfl (by decide) u7 out.length (tvs out) rfl HO3.out ⟨wr.heap.size, 0, none⟩ 1 1 [.string (S n)] rfl rfl (cell_one_new _ _ _) (by simp [Value.oneCell']) (by simp only [maxLen]; omega) (by omega) (by have := HSZ.out; rw [asize]; omega) ?_; intro v8 w3 hown3 hg3 hnil3)
            have hg3' := grown_alloc _ hg3
            rw [tvs_snoc] at hown3
            have hb3 := evGrown hbk hg3' HSZ.out (fun q hq => (hown.lt q hq).1)
            have p1 := HPG.out w3 (by rw [← hW0]; exact hb3.size) hb3
            have hol3 : (out ++ [n]).length ≤ 1002 := by rw [List.length_append, List.length_singleton]; omega
            have HSZ3 : Hid (W0 ≤ w3.heap.size) := Lib.hid (by rw [← hW0]; exact hb3.size)
            rw [show out.length + 1 = (out ++ [n]).length by simp] at hown3
            generalize out ++ [n] = out2 at hown3 HN hol3
            have HO4 := Lib.hid (hown3.alloc (.cells #[.string (S y)] 9))
            have HB3 := Lib.hid hb3
            clear hg3 hnil3 hg3' hown hbk HO3 p0 hb3 HPG HSZ
            have HSZ := HSZ3
            go_wp2_with (at_builtin; refine wpList_append_own _ rfl (.tmp 34) (.tmp 39) 31 rfl W0 9 i0 (.string ⟨#[]⟩) 1 16 Try.underlying31 HI.out.1 HI.out.2.1 HI.out.2.2.1 HI.out.2.2.2 rfl (by decide) v8 out2.length (tvs out2) rfl HO4.out ⟨w3.heap.size, 0, none⟩ 1 1 [.string (S y)] rfl rfl (cell_one_new _ _ _) (by simp [Value.oneCell']) (by simp only [maxLen]; omega) (by omega) (by have := HSZ.out; rw [asize]; omega) ?_; intro v9 w5 hown5 hg5 hnil5)
            have hg5' := grown_alloc _ hg5
            rw [tvs_snoc] at hown5
            have HREL := Lib.hid (And.intro hown5 (evGrown HB3.out hg5' HSZ.out (fun q hq => (hown3.lt q hq).1)))
            clear hg5 hnil5 hg5' hown3 hown5 HO4 p1
            go_wp2_with fail
            go_roundg m
            case measure => omega
            case rel => exact ⟨k + 1, _, out2 ++ [y], by have := HKM.out; omega, by go_num, rfl, HN, by rw [List.length_append]; exact HREL.out.1, HREL.out.2⟩
end Go.Proofs.Ytojemaaljjibiaa

namespace Go.Proofs.Ytojemaaljjibiaa
open Go.RowKit
set_option linter.unusedVariables false

theorem slpSize16 : (Try.prog.info? 51).map (·.size) = some 4 := by kernel_rfl
set_option maxRecDepth 100000 in
theorem rerased_any (n p c : List UInt8) (e : Bool) (w : World) : Calls Try.prog 65 #[slpv n p c e] w fun r w' => r = .returned (slpv n p [] true) ∧ Below w.heap.size w w' := by
  have hb := entPair (w := w) (o := .cells #[.string (S n), .string (S p), .string (S c), .bool e] 51) (p := .cells #[.string ⟨#[]⟩, .string ⟨#[]⟩, .string ⟨#[]⟩, .bool false] 51)
  obtain ⟨h1, h2⟩ := entTwo w 51 #[.string (S n), .string (S p), .string (S c), .bool e] #[.string ⟨#[]⟩, .string ⟨#[]⟩, .string ⟨#[]⟩, .bool false]
  go_enter Try.func65, Try.ntmps65
  go_upto_region 1 with fail
  generalize (w.alloc (.cells #[.string (S n), .string (S p), .string (S c), .bool e] 51)).alloc (.cells #[.string ⟨#[]⟩, .string ⟨#[]⟩, .string ⟨#[]⟩, .bool false] 51) = W0 at hb h1 h2 ⊢
  obtain ⟨b0, hb0⟩ : ∃ b0, w.heap.size = b0 := ⟨_, rfl⟩
  rw [hb0] at h1 h2 ⊢
  obtain ⟨b1, hb1⟩ : ∃ b1, b0 + 1 = b1 := ⟨_, rfl⟩
  rw [hb1] at h2 ⊢
  have HLE : Hid (w.heap.size ≤ b1) := Lib.hid (by omega)
  have HB := Lib.hid hb
  have HH := Lib.hid h2
  have c0 : W0.cell? ⟨b0, 0, none⟩ = some (.string (S n)) := h1.cell 0
  have c1 : W0.cell? ⟨b0, 1, none⟩ = some (.string (S p)) := h1.cell 1
  have d0 := h2.cell 0
  have d1 := h2.cell 1
  have d2 := h2.cell 2
  have d3 := h2.cell 3
  have f0 := h2.free 0
  have f1 := h2.free 1
  have f2 := h2.free 2
  have f3 := h2.free 3
  clear h1 h2 hb hb0 hb1
  go_wp2_with fail
  refine bodyPost_ret (v := slpv n p [] true) (results_cell_row (p := 2) rfl _ _ b1 51 #[.string (S n), .string (S p), .string ⟨#[]⟩, .bool true] (0, 0) _ rfl ((((HH.out.set 0 _).set 1 _).set 2 _).set 3 _) Try.underlying51 rfl slpSize16) rfl ⟨rfl, ?_⟩
  exact (((HB.out.setCell (p := ⟨b1, 0, none⟩) HLE.out _).setCell (p := ⟨b1, 1, none⟩) HLE.out _).setCell (p := ⟨b1, 2, none⟩) HLE.out _).setCell (p := ⟨b1, 3, none⟩) HLE.out _
theorem Sta.erS_step {L : List Slp} {k : Nat} (hk : k < L.length) (i : Int) : (Sta.erS L i).take (k + 1) = (Sta.erS L i).take k ++ [if i < 0 ∨ (k : Int) = i then Sta.gonE L[k] else L[k]] := by
  have hk2 : k < (Sta.erS L i).length := by rw [Sta.erS_len]; exact hk
  rw [List.take_succ_eq_append_getElem hk2]
  have h := Sta.erS_get L i k
  rw [List.getElem?_eq_getElem hk2, List.getElem?_eq_getElem hk, Option.map_some] at h
  rw [Option.some.inj h]
set_option maxRecDepth 100000 in
set_option maxHeartbeats 8000000 in
theorem rslips_any {w : World} {L : List Slp} {A : Option Addr} {ca : Nat} (hr : RowP w [] A L) (hc : L.length ≤ ca) (hl : L.length ≤ 1000) (i : Int) :
    Calls Try.prog 42 #[.slice A L.length ca, .int .i64 i] w fun r w' => ∃ v, r = .returned v ∧ w'.ownsRow w.heap.size 51 4 v L.length (svs (Sta.erS L i)) ∧ Below w.heap.size w w' := by
  obtain ⟨i0, hi0, hz0, hz1, hz2⟩ := info_parts evSlInfo
  have HI := Lib.hid (And.intro hi0 (And.intro hz0 (And.intro hz1 hz2)))
  have HR := Lib.hid hr
  have HE := Lib.hid (fun (n p c : List UInt8) (e : Bool) (W : World) => rerased_any n p c e W)
  have HEL : Hid ((Sta.erS L i).length = L.length) := Lib.hid (Sta.erS_len L i)
  clear hi0 hz0 hz1 hz2 hr
  obtain ⟨W0, hW0⟩ : ∃ W0, w.heap.size = W0 := ⟨_, rfl⟩
  rw [hW0]
  go_enter Try.func42, Try.ntmps42
  go_wp2_with fail
  go_loopg [5, 6] L.length (fun m v5 v6 wr => ∃ (k : Nat) (out : List Slp), k + m = L.length ∧ out.length = k ∧ v6 = .int .i64 (k : Int) ∧ Hid (out = (Sta.erS L i).take k) ∧ wr.ownsRow W0 51 4 v5 out.length (svs out) ∧ Below W0 w wr)
  case atStart => exact ⟨0, [], Nat.zero_add _, rfl, rfl, Lib.hid (by rw [List.take_zero]), World.ownsRow_nil _ _ _ _, Below.refl _ _⟩
  case round =>
    obtain ⟨k, out, hkm, hok, rfl, HK, hown, hbk⟩ := hrel
    have hol : out.length ≤ 1001 := by omega
    have HSZ : Hid (W0 ≤ wr.heap.size) := Lib.hid (by rw [← hW0]; exact hbk.size)
    cases gk with
    | zero =>
      have hlt : ¬ (k : Int) < (L.length : Int) := by omega
      have hk := HK.out
      rw [List.take_of_length_le (by rw [HEL.out]; omega)] at hk
      rw [hk, HEL.out] at hown
      have HO := Lib.hid hown
      have HBB := Lib.hid hbk
      clear hown hbk hk hok
      go_wp2_with fail
      go_ret
      exact ⟨_, rfl, HO.out, HBB.out⟩
    | succ m =>
      have hlt : (k : Int) < (L.length : Int) := by omega
      have hk : k < L.length := by omega
      have hk0 : (0 : Int) ≤ (k : Int) := by omega
      have hkc : (k : Int) < (ca : Int) := by omega
      have hinc : IntKind.i64.wrap ((k : Int) + 1) = (k : Int) + 1 := by rw [IntKind.wrap_i64]; omega
      obtain ⟨b, off, hA, hbl, -, q⟩ := RowP.get HR.out k hk
      have hbl2 : b < W0 := by omega
      have hmv := fun (j : Nat) (v : Value) (hc : w.cell? ⟨b, j, none⟩ = some v) => (hbk.cell (p := ⟨b, j, none⟩) hbl2).trans hc
      have q0 := hmv _ _ q.1
      have q1 := hmv _ _ q.2.1
      have q2 := hmv _ _ q.2.2.1
      have q3 := hmv _ _ q.2.2.2
      have HST := Lib.hid (Sta.erS_step hk i)
      subst hA
      clear q hmv
      generalize L[k]'hk = y at q0 q1 q2 q3 HST
      obtain ⟨yn, yp, yc, ye⟩ := y
      dsimp only at q0 q1 q2 q3
      have HKM := Lib.hid (And.intro hkm hok)
      by_cases hi : i < 0 ∨ (k : Int) = i
      · have HN : Hid (out ++ [⟨yn, yp, [], true⟩] = (Sta.erS L i).take (k + 1)) := Lib.hid (by rw [HST.out, if_pos hi, ← HK.out]; rfl)
        have HOB := Lib.hid (And.intro hown hbk)
        clear HST HK hkm hok hown
        have hcond : i < 0 ∨ (¬ i < 0 ∧ ((k : Int) == i) = true) := by
          by_cases h0 : i < 0
          · exact Or.inl h0
          · exact Or.inr ⟨h0, by rw [beq_iff_eq]; exact hi.resolve_left h0⟩
        clear hi
        rcases hcond with hc0 | ⟨hc0, hc1⟩
        all_goals
          go_wp2_with fail
          refine (HE.out yn yp yc ye _).mono ?_
          rintro r w2 ⟨rfl, hb2⟩
          have hown2 : w2.ownsRow W0 51 4 u5 out.length (svs out) := own_mv HOB.out.1 (Mv.of_below hb2 []) (by simp)
          have HB2 := Lib.hid (HOB.out.2.trans (hb2.mono HSZ.out))
          have HSZ2 : Hid (W0 ≤ w2.heap.size) := Lib.hid (Nat.le_trans HSZ.out hb2.size)
          have HO2 := Lib.hid (hown2.alloc (.cells #[.string (S yn), .string (S yp), .string (S []), .bool true] 51))
          have HM2 := Lib.hid (evMadeSlip w2 yn yp [] true)
          clear hb2 HSZ
          have HSZ := HSZ2
          go_wp2_with (at_builtin; refine wpList_append_own _ rfl (.tmp 20) (.tmp 26) 30 rfl W0 51 i0 (.agg #[.string ⟨#[]⟩, .string ⟨#[]⟩, .string ⟨#[]⟩, .bool false]) 4 56 Try.underlying30 HI.out.1 HI.out.2.1 HI.out.2.2.1 HI.out.2.2.2 rfl (by decide) u5 out.length (svs out) rfl HO2.out ⟨w2.heap.size, 0, none⟩ 1 1 (⟨yn, yp, [], true⟩ : Slp).cs rfl rfl HM2.out (by intro u hu; simp [Slp.cs] at hu; rcases hu with rfl | rfl | rfl | rfl <;> rfl) (by simp only [maxLen]; omega) (by omega) (by have := HSZ.out; rw [asize]; omega) ?_; intro v8 w3 hown3 hg3 hnil3)
          have hg3' := grown_alloc _ hg3
          rw [svs_snoc] at hown3
          have HREL := Lib.hid (And.intro hown3 (evGrown HB2.out hg3' HSZ.out (fun q hq => (hown2.lt q hq).1)))
          clear hg3 hnil3 hg3' hown2 hown3 HO2 hbk q0 q1 q2 q3
          go_wp2_with fail
          go_roundg m
          case measure => omega
          case rel => exact ⟨k + 1, out ++ [⟨yn, yp, [], true⟩], by have := HKM.out; omega, by have := HKM.out; simp; omega, by go_num, HN, by rw [List.length_append]; exact HREL.out.1, HREL.out.2⟩
      · have HN : Hid (out ++ [⟨yn, yp, yc, ye⟩] = (Sta.erS L i).take (k + 1)) := Lib.hid (by rw [HST.out, if_neg hi, ← HK.out])
        have hc0 : ¬ i < 0 := fun h => hi (Or.inl h)
        have hc1 : ((k : Int) == i) = false := by rw [beq_eq_false_iff_ne]; exact fun h => hi (Or.inr h)
        have HO2 := Lib.hid (hown.alloc (.cells #[.string (S yn), .string (S yp), .string (S yc), .bool ye] 51))
        have HM2 := Lib.hid (evMadeSlip wr yn yp yc ye)
        clear HST HK hkm hok hi
        go_wp2_with (at_builtin; refine wpList_append_own _ rfl (.tmp 28) (.tmp 33) 30 rfl W0 51 i0 (.agg #[.string ⟨#[]⟩, .string ⟨#[]⟩, .string ⟨#[]⟩, .bool false]) 4 56 Try.underlying30 HI.out.1 HI.out.2.1 HI.out.2.2.1 HI.out.2.2.2 rfl (by decide) u5 out.length (svs out) rfl HO2.out ⟨wr.heap.size, 0, none⟩ 1 1 (⟨yn, yp, yc, ye⟩ : Slp).cs rfl rfl HM2.out (by intro u hu; simp [Slp.cs] at hu; rcases hu with rfl | rfl | rfl | rfl <;> rfl) (by simp only [maxLen]; omega) (by omega) (by have := HSZ.out; rw [asize]; omega) ?_; intro v8 w3 hown3 hg3 hnil3)
        have hg3' := grown_alloc _ hg3
        rw [svs_snoc] at hown3
        have HREL := Lib.hid (And.intro hown3 (evGrown hbk hg3' HSZ.out (fun q hq => (hown.lt q hq).1)))
        clear hg3 hnil3 hg3' hown hown3 HO2 hbk q0 q1 q2 q3
        go_wp2_with fail
        go_roundg m
        case measure => omega
        case rel => exact ⟨k + 1, out ++ [⟨yn, yp, yc, ye⟩], by have := HKM.out; omega, by have := HKM.out; simp; omega, by go_num, HN, by rw [List.length_append]; exact HREL.out.1, HREL.out.2⟩
end Go.Proofs.Ytojemaaljjibiaa

namespace Go.Proofs.Ytojemaaljjibiaa
open Go.RowKit
set_option linter.unusedVariables false

set_option maxRecDepth 100000 in
set_option maxHeartbeats 16000000 in
theorem rchange_any {w : World} {x : EntX} (hin : XIn w [] x) (hH : x.e.H.length ≤ 1000) (v : Evt) (hi : v.kind = 2 → 0 ≤ v.idx) (A : Option Addr) (ca : Nat) (B : Option Addr) (cb : Nat) :
    Calls Try.prog 33 #[x.val, v.val A ca B cb] w fun r w' => r = .returned (.int .i64 (Sta.changeC x.e v)) ∧ Below w.heap.size w w' := by
  have HRES : Hid (∀ r, Sta.changeC x.e v = r → (v.kind = 2 → r = if (x.e.L.length : Int) ≤ v.idx then 14 else if Sta.gonS x.e v.idx.toNat = true then 12 else Sta.heldC x.e) ∧ (v.kind = 3 → r = if x.e.gone = true then 12 else Sta.heldC x.e) ∧ (v.kind = 4 → r = if x.e.gone = true then 12 else if v.name ∈ x.e.H then 10 else if 4 ≤ x.e.H.length then 6 else 0) ∧ (v.kind ≠ 2 → v.kind ≠ 3 → v.kind ≠ 4 → r = if v.name ∈ x.e.H then 0 else 14)) := Lib.hid (fun r h => by
    subst h
    unfold Sta.changeC
    refine ⟨fun h => by rw [if_pos h], fun h => by rw [if_neg (by omega), if_pos h], fun h => by rw [if_neg (by omega), if_neg (by omega), if_pos h], fun h1 h2 h3 => by rw [if_neg h1, if_neg h2, if_neg h3]⟩)
  obtain ⟨res, hres⟩ : ∃ res, Sta.changeC x.e v = res := ⟨_, rfl⟩
  have HR := Lib.hid (HRES.out res hres)
  rw [hres]
  clear hres HRES
  have HIN := Lib.hid hin
  have HHAS := Lib.hid (fun W (hb : Below w.heap.size w W) => rhas_any (hin.below hb) hH v.name)
  have hh1 := Has.made w 33 #[.string (S x.e.id), .int .i64 x.e.cls, .int .i64 x.e.born, .int .i64 x.e.slot, .slice x.A x.e.L.length x.ca, .bool x.e.gone, .slice x.B x.e.H.length x.cb]
  unfold EntX.val at HHAS ⊢
  unfold Evt.val
  have hla := hin.la
  obtain ⟨⟨id, cls, born, slot, L, gone, H⟩, xa, xca, xb, xcb⟩ := x
  obtain ⟨kind, ⟨id2, cls2, born2, slot2, L2, gone2, H2⟩, seq, idx, name, size, root, now⟩ := v
  dsimp only at *
  have hb0 : Below w.heap.size w ((w.alloc (.cells #[.string (S id), .int .i64 cls, .int .i64 born, .int .i64 slot, .slice xa L.length xca, .bool gone, .slice xb H.length xcb] 33)).alloc (.cells #[.int .i64 kind, .string (S id2), .int .i64 cls2, .int .i64 born2, .int .i64 slot2, .slice A L2.length ca, .bool gone2, .slice B H2.length cb, .int .i64 seq, .int .i64 idx, .string (S name), .int .i64 size, .string (S root), .int .i64 now] 37)) := entPair
  have hh2 := (hh1.of_alloc (.cells #[.int .i64 kind, .string (S id2), .int .i64 cls2, .int .i64 born2, .int .i64 slot2, .slice A L2.length ca, .bool gone2, .slice B H2.length cb, .int .i64 seq, .int .i64 idx, .string (S name), .int .i64 size, .string (S root), .int .i64 now] 37))
  have hv := Has.made (w.alloc (.cells #[.string (S id), .int .i64 cls, .int .i64 born, .int .i64 slot, .slice xa L.length xca, .bool gone, .slice xb H.length xcb] 33)) 37 #[.int .i64 kind, .string (S id2), .int .i64 cls2, .int .i64 born2, .int .i64 slot2, .slice A L2.length ca, .bool gone2, .slice B H2.length cb, .int .i64 seq, .int .i64 idx, .string (S name), .int .i64 size, .string (S root), .int .i64 now]
  rw [asize] at hv
  clear hh1 hin
  go_enter Try.func33, Try.ntmps33
  go_upto_region 1 with fail
  generalize (w.alloc (.cells #[.string (S id), .int .i64 cls, .int .i64 born, .int .i64 slot, .slice xa L.length xca, .bool gone, .slice xb H.length xcb] 33)).alloc (.cells #[.int .i64 kind, .string (S id2), .int .i64 cls2, .int .i64 born2, .int .i64 slot2, .slice A L2.length ca, .bool gone2, .slice B H2.length cb, .int .i64 seq, .int .i64 idx, .string (S name), .int .i64 size, .string (S root), .int .i64 now] 37) = W0 at hb0 hh2 hv ⊢
  obtain ⟨b0, hq0⟩ : ∃ b0, w.heap.size = b0 := ⟨_, rfl⟩
  rw [hq0] at hh2 hv ⊢
  obtain ⟨b1, hq1⟩ : ∃ b1, b0 + 1 = b1 := ⟨_, rfl⟩
  rw [hq1] at hv ⊢
  have HB := Lib.hid hb0
  have x0 : W0.cell? ⟨b0, 0, none⟩ = some (.string (S id)) := hh2.cell 0
  have x1 : W0.cell? ⟨b0, 1, none⟩ = some (.int .i64 cls) := hh2.cell 1
  have x2 : W0.cell? ⟨b0, 2, none⟩ = some (.int .i64 born) := hh2.cell 2
  have x3 : W0.cell? ⟨b0, 3, none⟩ = some (.int .i64 slot) := hh2.cell 3
  have x4 : W0.cell? ⟨b0, 4, none⟩ = some (.slice xa L.length xca) := hh2.cell 4
  have x5 : W0.cell? ⟨b0, 5, none⟩ = some (.bool gone) := hh2.cell 5
  have x6 : W0.cell? ⟨b0, 6, none⟩ = some (.slice xb H.length xcb) := hh2.cell 6
  have y0 : W0.cell? ⟨b1, 0, none⟩ = some (.int .i64 kind) := hv.cell 0
  have y9 : W0.cell? ⟨b1, 9, none⟩ = some (.int .i64 idx) := hv.cell 9
  have y10 : W0.cell? ⟨b1, 10, none⟩ = some (.string (S name)) := hv.cell 10
  have HX := Lib.hid (HHAS.out W0 hb0)
  have hheld : (H = [] ∧ ¬ (0 : Int) < (H.length : Int) ∧ Sta.heldC ⟨id, cls, born, slot, L, gone, H⟩ = 0) ∨ (H ≠ [] ∧ (0 : Int) < (H.length : Int) ∧ Sta.heldC ⟨id, cls, born, slot, L, gone, H⟩ = 11) := by
    unfold Sta.heldC
    by_cases hq : H = []
    · exact Or.inl ⟨hq, by rw [hq]; decide, if_pos hq⟩
    · refine Or.inr ⟨hq, ?_, if_neg hq⟩
      have := List.length_pos_iff.2 hq
      omega
  have HHELD := Lib.hid hheld
  have HIX := Lib.hid (fun (k : Nat) (hk : k < L.length) => RowP.get (RowC.below HIN.out.rl hb0) k hk)
  have HGS : Hid (∀ (k : Nat) (hk : k < L.length), Sta.gonS ⟨id, cls, born, slot, L, gone, H⟩ k = (L[k]).e) := Lib.hid (fun k hk => by unfold Sta.gonS; rw [List.getD_eq_getElem?_getD, List.getElem?_eq_getElem hk]; rfl)
  generalize Sta.heldC ⟨id, cls, born, slot, L, gone, H⟩ = hc at HHELD HR
  clear hheld hb0 hh2 hv hq0 hq1 HHAS HIN
  by_cases k2 : kind = 2
  · have hr := HR.out.1 k2
    have hi0 := hi k2
    subst k2
    clear HR hi
    by_cases hle : (L.length : Int) ≤ idx
    · rw [if_pos hle] at hr
      subst hr
      go_wp2_with fail
      go_ret
      exact ⟨rfl, HB.out⟩
    · rw [if_neg hle] at hr
      obtain ⟨k, rfl⟩ : ∃ k : Nat, idx = (k : Int) := ⟨idx.toNat, by omega⟩
      have hk : k < L.length := by omega
      rw [Int.toNat_natCast, HGS.out k hk] at hr
      obtain ⟨b, off, hA, hbl, -, q⟩ := HIX.out k hk
      subst hA
      have q3 := q.2.2.2
      have hkL : (k : Int) < (L.length : Int) := by omega
      have hkc : (k : Int) < (xca : Int) := by omega
      generalize (L[k]'hk).e = ye at q3 hr
      have HRR := Lib.hid hr
      clear q hr HGS HIX
      cases ye with
      | true =>
        have hr := HRR.out
        rw [if_pos rfl] at hr
        subst hr
        go_wp2_with fail
        go_ret
        exact ⟨rfl, HB.out⟩
      | false =>
        have hr := HRR.out
        rw [if_neg (by simp)] at hr
        rcases HHELD.out with ⟨h1, h2, h3⟩ | ⟨h1, h2, h3⟩
        all_goals
          rw [h3] at hr
          subst hr
          clear h1 h3 HHELD HRR
          go_wp2_with fail
          go_ret
          exact ⟨rfl, HB.out⟩
  have n2 : (kind == 2) = false := by rw [beq_eq_false_iff_ne]; exact k2
  by_cases k3 : kind = 3
  · have hr := HR.out.2.1 k3
    subst k3
    clear HR hi k2
    cases gone with
    | true =>
      rw [if_pos rfl] at hr
      subst hr
      go_wp2_with fail
      go_ret
      exact ⟨rfl, HB.out⟩
    | false =>
      rw [if_neg (by simp)] at hr
      have HRR := Lib.hid hr
      clear hr
      rcases HHELD.out with ⟨h1, h2, h3⟩ | ⟨h1, h2, h3⟩
      all_goals
        have hr := HRR.out
        rw [h3] at hr
        subst hr
        clear h1 h3 HHELD HRR
        go_wp2_with fail
        go_ret
        exact ⟨rfl, HB.out⟩
  have n3 : (kind == 3) = false := by rw [beq_eq_false_iff_ne]; exact k3
  by_cases k4 : kind = 4
  · have hr := HR.out.2.2.1 k4
    have HRR := Lib.hid hr
    subst k4
    clear HR hi k2 k3 hr HHELD HIX HGS
    cases gone with
    | true =>
      have hr := HRR.out
      rw [if_pos rfl] at hr
      subst hr
      go_wp2_with fail
      go_ret
      exact ⟨rfl, HB.out⟩
    | false =>
      have hr := HRR.out
      rw [if_neg (by simp)] at hr
      by_cases hm : name ∈ H
      · rw [if_pos hm] at hr
        subst hr
        rw [decide_eq_true hm] at HX
        clear hm HRR
        go_wp2_with fail
        refine HX.out.mono ?_
        rintro r w2 ⟨rfl, hb2⟩
        have HB2 := Lib.hid (HB.out.trans (hb2.mono HB.out.size))
        clear hb2 x0 x1 x2 x3 x4 x5 x6 y0 y9 y10
        go_wp2_with fail
        go_ret
        exact ⟨rfl, HB2.out⟩
      · rw [if_neg hm] at hr
        rw [decide_eq_false hm] at HX
        have HR2 := Lib.hid hr
        have HXL : Hid (b0 < W0.heap.size) := Lib.hid (World.block_lt_of_cell? W0 ⟨b0, 0, none⟩ (by simpa using x0))
        clear hm HRR hr
        by_cases h4 : 4 ≤ H.length
        · have hr := HR2.out
          rw [if_pos h4] at hr
          subst hr
          have h4i : (4 : Int) ≤ (H.length : Int) := by omega
          go_wp2_with fail
          refine HX.out.mono ?_
          rintro r w2 ⟨rfl, hb2⟩
          have HB2 := Lib.hid (HB.out.trans (hb2.mono HB.out.size))
          have x6' := (hb2.cell (p := ⟨b0, 6, none⟩) HXL.out).trans x6
          clear hb2 x0 x1 x2 x3 x4 x5 x6 y0 y9 y10
          go_wp2_with fail
          go_ret
          exact ⟨rfl, HB2.out⟩
        · have hr := HR2.out
          rw [if_neg h4] at hr
          subst hr
          have h4i : ¬ (4 : Int) ≤ (H.length : Int) := by omega
          go_wp2_with fail
          refine HX.out.mono ?_
          rintro r w2 ⟨rfl, hb2⟩
          have HB2 := Lib.hid (HB.out.trans (hb2.mono HB.out.size))
          have x6' := (hb2.cell (p := ⟨b0, 6, none⟩) HXL.out).trans x6
          clear hb2 x0 x1 x2 x3 x4 x5 x6 y0 y9 y10
          go_wp2_with fail
          go_ret
          exact ⟨rfl, HB2.out⟩
  have n4 : (kind == 4) = false := by rw [beq_eq_false_iff_ne]; exact k4
  have hr := HR.out.2.2.2 k2 k3 k4
  have HRR := Lib.hid hr
  clear HR hi k2 k3 k4 hr HHELD HIX HGS
  by_cases hm : name ∈ H
  · have hr := HRR.out
    rw [if_pos hm] at hr
    subst hr
    rw [decide_eq_true hm] at HX
    clear hm HRR
    go_wp2_with fail
    refine HX.out.mono ?_
    rintro r w2 ⟨rfl, hb2⟩
    have HB2 := Lib.hid (HB.out.trans (hb2.mono HB.out.size))
    clear hb2 x0 x1 x2 x3 x4 x5 x6 y0 y9 y10
    go_wp2_with fail
    go_ret
    exact ⟨rfl, HB2.out⟩
  · have hr := HRR.out
    rw [if_neg hm] at hr
    subst hr
    rw [decide_eq_false hm] at HX
    clear hm HRR
    go_wp2_with fail
    refine HX.out.mono ?_
    rintro r w2 ⟨rfl, hb2⟩
    have HB2 := Lib.hid (HB.out.trans (hb2.mono HB.out.size))
    clear hb2 x0 x1 x2 x3 x4 x5 x6 y0 y9 y10
    go_wp2_with fail
    go_ret
    exact ⟨rfl, HB2.out⟩
end Go.Proofs.Ytojemaaljjibiaa
