/-
  The contract of MerkleGrowns.
-/
import Derived.Test.YtphhaiccpllnpaaDoorMkArg
import Derived.Test.YtphhaiccpllnpaaDoorMkGrownE
import Derived.Test.YtphhaiccpllnpaaDoorLaw
import Derived.Test.YtphhaiccpllnpaaDoorRows
namespace Go.Proofs.YtphhaiccpllnpaaDoor
open Go.ChangeShapes Go.WideShapes Go.ChangeAt Go.RowKit
open Go.ChangeMaps (open_string shut_string)
set_option linter.unusedVariables false

/-- Two points in two new blocks behind w0, and a new mill behind them. -/
structure TwoP (w0 W : World) (a n : Int) (ra rn : List UInt8) (st : Mill.St) : Prop where
  p : PB w0 W a n ra rn
  m : MkW W (w0.heap.size + 2 + 1) (w0.heap.size + 2) none [] st
theorem TwoP.below {w0 W W' : World} {a n : Int} {ra rn : List UInt8} {st : Mill.St} (h : TwoP w0 W a n ra rn st) (hb : Below W.heap.size W W') : TwoP w0 W' a n ra rn st := ⟨h.p.below hb, h.m.below hb⟩
theorem TwoP.drew {w0 W : World} {a n : Int} {ra rn : List UInt8} {st : Mill.St} (h : TwoP w0 W a n ra rn st) : TwoP w0 W.drew a n ra rn st := h.below (Below.drew (Below.refl _ _))
theorem TwoP.step {w0 W W' : World} {a n : Int} {ra rn : List UInt8} {st st' : Mill.St} (h : TwoP w0 W a n ra rn st) (hm : MkW W' (w0.heap.size + 2 + 1) (w0.heap.size + 2) none [] st') (hv : Mv W W' [w0.heap.size + 2 + 1, w0.heap.size + 2]) : TwoP w0 W' a n ra rn st' := by
  have h1 : w0.heap.size ∉ [w0.heap.size + 2 + 1, w0.heap.size + 2] := by simp only [List.mem_cons, List.not_mem_nil, or_false]; omega
  have h2 : w0.heap.size + 1 ∉ [w0.heap.size + 2 + 1, w0.heap.size + 2] := by simp only [List.mem_cons, List.not_mem_nil, or_false]; omega
  exact ⟨⟨hv.has h.p.a h1, hv.has h.p.b h2, slip_tied hv (by omega) (by omega) h.p.u.size h.p.u⟩, hm⟩
theorem TwoP.made {w W0 w1 : World} {a n : Int} {ra rn : List UInt8} (hT : Tabs w) (hp : PB w W0 a n ra rn) (hz : W0.heap.size = w.heap.size + 2) (h1 : MillTv w1 (W0.heap.size + 1) W0.heap.size none [] Mill.fresh) (hb1 : Below W0.heap.size W0 w1) : TwoP w w1 a n ra rn Mill.fresh := by
  have h2 := hT.2.2
  rw [hz] at h1
  exact ⟨hp.below hb1, h1, (hT.below hp.u h2).below hb1 (by omega), by omega, by omega⟩
theorem TwoP.awake {w0 W : World} {a n : Int} {ra rn : List UInt8} {st : Mill.St} (h : TwoP w0 W a n ra rn st) : Calls Tryd.prog 20 #[] W fun e w' => e = .returned (.bool true) ∧ Below w0.heap.size w0 w' :=
  (awakeMk_any W h.m.t).mono fun e w' ⟨he, hb⟩ => ⟨he, h.p.u.trans (hb.mono h.p.u.size)⟩
theorem two_lowP {w0 : World} : ∀ x ∈ [w0.heap.size + 2 + 1, w0.heap.size + 2], w0.heap.size ≤ x := fun x hx => by
  simp only [List.mem_cons, List.not_mem_nil, or_false] at hx; omega

set_option maxHeartbeats 4000000 in
set_option maxRecDepth 100000 in
theorem growns_size (a n : Int) (ra rn : List UInt8) (A : Option Addr) (L : List (List UInt8)) (n0 cap : Nat) (hL : L.length ≤ 40) (w : World) (hA : RowA w A L) (hT : Tabs w)
    (hcut : (n0 = L.length ∧ ¬ (40 : Int) < (n0 : Int)) ∨ ((40 : Int) < (n0 : Int) ∧ L.length = 40)) (hnc : n0 ≤ cap) (hcm : cap ≤ 9223372036854775807) (hb : ¬ (0 ≤ a ∧ a ≤ n ∧ n ≤ 65536)) :
    Calls Tryd.prog 7 #[.agg #[.int .i64 a, .string (S ra)], .agg #[.int .i64 n, .string (S rn)], .slice A n0 cap] w fun e w' => e = .returned (.bool true) ∧ Below w.heap.size w w' := by
  have HC := Lib.hid (fun W => grown_size (w.heap.size + 2 + 1) a n ra rn L A cap W hb)
  have hg : (a < 0) ∨ (¬ a < 0 ∧ a > n) ∨ (¬ a < 0 ∧ ¬ a > n ∧ n > 65536) := by omega
  have HT := Lib.hid hT
  clear hb hA hT
  generalize L.length = k at *
  rcases hcut with ⟨rfl, h40⟩ | ⟨h40, rfl⟩
  all_goals
    rcases hg with h1 | ⟨h1, h2⟩ | ⟨h1, h2, h3⟩
    all_goals
      go_enter Tryd.func7, Tryd.ntmps7
      go_upto_region 1 with (fail)
      have HB := PB.made w a n ra rn
      have hz : ((w.alloc (.cells #[.int .i64 a, .string (S ra)] 47)).alloc (.cells #[.int .i64 n, .string (S rn)] 47)).heap.size = w.heap.size + 2 := by simp
      generalize (w.alloc (.cells #[.int .i64 a, .string (S ra)] 47)).alloc (.cells #[.int .i64 n, .string (S rn)] 47) = W0 at HB hz ⊢
      go_wp2_with fail
      refine (newMill_tv W0).mono ?_
      rintro r1 w1 ⟨rfl, hM1, hb1, hs1⟩
      have H := Lib.hid (TwoP.made HT.out HB hz hM1 hb1)
      rw [hz]
      clear hM1 hb1 hs1 HB hz
      obtain ⟨d0, d1, d2, d3⟩ := H.out.p.lie
      have hf0 : Mill.fresh.sums = 0 := rfl
      generalize Mill.fresh = s0 at H hf0
      go_wp2_with fail
      refine (HC.out _).mono ?_
      rintro r w9 ⟨rfl, hb9⟩
      replace H := Lib.hid (H.out.below hb9); clear hb9
      clear d0 d1 d2 d3
      obtain ⟨d0, d1, d2, d3⟩ := H.out.p.lie
      go_wp2_with fail
      refine (H.out.awake).mono ?_
      rintro r w9 ⟨rfl, hb⟩
      go_wp2_with fail
      go_ret
      exact ⟨rfl, hb⟩

set_option maxHeartbeats 4000000 in
set_option maxRecDepth 100000 in
theorem growns_root (a n : Int) (ra rn : List UInt8) (A : Option Addr) (L : List (List UInt8)) (n0 cap : Nat) (hL : L.length ≤ 40) (w : World) (hA : RowA w A L) (hT : Tabs w)
    (hcut : (n0 = L.length ∧ ¬ (40 : Int) < (n0 : Int)) ∨ ((40 : Int) < (n0 : Int) ∧ L.length = 40)) (hnc : n0 ≤ cap) (hcm : cap ≤ 9223372036854775807) (h1 : 0 ≤ a) (h2 : a ≤ n) (h3 : n ≤ 65536) (hb : ¬ (ra.length = 32 ∧ rn.length = 32)) :
    Calls Tryd.prog 7 #[.agg #[.int .i64 a, .string (S ra)], .agg #[.int .i64 n, .string (S rn)], .slice A n0 cap] w fun e w' => e = .returned (.bool true) ∧ Below w.heap.size w w' := by
  have HC := Lib.hid (fun W => grown_root (w.heap.size + 2 + 1) a n ra rn L A cap W h1 h2 h3 hb)
  have hg : (((ra.length : Int) != 32) = true) ∨ (((ra.length : Int) != 32) = false ∧ ((rn.length : Int) != 32) = true) := by
    by_cases h : ra.length = 32
    · exact Or.inr ⟨by simpa using (show (ra.length : Int) = 32 by omega), by simpa using (show ¬ (rn.length : Int) = 32 by omega)⟩
    · exact Or.inl (by simpa using (show ¬ (ra.length : Int) = 32 by omega))
  have HT := Lib.hid hT
  clear hb hA hT
  generalize L.length = k at *
  have c1 : ¬ a < 0 := by omega
  have c2 : ¬ a > n := by omega
  have c3 : ¬ n > 65536 := by omega
  rcases hcut with ⟨rfl, h40⟩ | ⟨h40, rfl⟩
  all_goals
    rcases hg with h1 | ⟨h1, h2⟩
    all_goals
      go_enter Tryd.func7, Tryd.ntmps7
      go_upto_region 1 with (fail)
      have HB := PB.made w a n ra rn
      have hz : ((w.alloc (.cells #[.int .i64 a, .string (S ra)] 47)).alloc (.cells #[.int .i64 n, .string (S rn)] 47)).heap.size = w.heap.size + 2 := by simp
      generalize (w.alloc (.cells #[.int .i64 a, .string (S ra)] 47)).alloc (.cells #[.int .i64 n, .string (S rn)] 47) = W0 at HB hz ⊢
      go_wp2_with fail
      refine (newMill_tv W0).mono ?_
      rintro r1 w1 ⟨rfl, hM1, hb1, hs1⟩
      have H := Lib.hid (TwoP.made HT.out HB hz hM1 hb1)
      rw [hz]
      clear hM1 hb1 hs1 HB hz
      obtain ⟨d0, d1, d2, d3⟩ := H.out.p.lie
      have hf0 : Mill.fresh.sums = 0 := rfl
      generalize Mill.fresh = s0 at H hf0
      go_wp2_with fail
      refine (HC.out _).mono ?_
      rintro r w9 ⟨rfl, hb9⟩
      replace H := Lib.hid (H.out.below hb9); clear hb9
      clear d0 d1 d2 d3
      obtain ⟨d0, d1, d2, d3⟩ := H.out.p.lie
      go_wp2_with fail
      refine (H.out.awake).mono ?_
      rintro r w9 ⟨rfl, hb⟩
      go_wp2_with fail
      go_ret
      exact ⟨rfl, hb⟩

set_option maxHeartbeats 4000000 in
set_option maxRecDepth 100000 in
theorem growns_proof (a n : Int) (ra rn : List UInt8) (A : Option Addr) (L : List (List UInt8)) (n0 cap : Nat) (hL : L.length ≤ 40) (w : World) (hA : RowA w A L) (hT : Tabs w)
    (hcut : (n0 = L.length ∧ ¬ (40 : Int) < (n0 : Int)) ∨ ((40 : Int) < (n0 : Int) ∧ L.length = 40)) (hnc : n0 ≤ cap) (hcm : cap ≤ 9223372036854775807) (h1 : 0 ≤ a) (h2 : a ≤ n) (h3 : n ≤ 65536) (hr : ra.length = 32 ∧ rn.length = 32) (hb : ¬ (L.length ≤ 17 ∧ Mk.allSums L = true)) :
    Calls Tryd.prog 7 #[.agg #[.int .i64 a, .string (S ra)], .agg #[.int .i64 n, .string (S rn)], .slice A n0 cap] w fun e w' => e = .returned (.bool true) ∧ Below w.heap.size w w' := by
  have hC := fun st W (h : TwoP w W a n ra rn st) => grown_proof (w.heap.size + 2 + 1) a n ra rn L A cap W h1 h2 h3 hr (by omega) hcm (hA.at h.p.u (by simp)) hb
  have hS := fun st W (h : TwoP w W a n ra rn st) => mkSums_any A cap L [] W (hA.at h.p.u (by simp)) (by omega) hcm
  have hg : ((L.length : Int) > 17) ∨ (¬ (L.length : Int) > 17 ∧ Mk.allSums L = false) := by
    by_cases h : L.length ≤ 17
    · exact Or.inr ⟨by omega, by cases hh : Mk.allSums L with | false => rfl | true => exact absurd ⟨h, hh⟩ hb⟩
    · exact Or.inl (by omega)
  have r1 : ((ra.length : Int) != 32) = false := by simpa using (show (ra.length : Int) = 32 by omega)
  have r2 : ((rn.length : Int) != 32) = false := by simpa using (show (rn.length : Int) = 32 by omega)
  have HT := Lib.hid hT
  clear hb hA hT hr
  generalize Mk.allSums L = bs at *
  generalize L.length = k at *
  have HC := Lib.hid hC; clear hC
  have HS := Lib.hid hS; clear hS
  have c1 : ¬ a < 0 := by omega
  have c2 : ¬ a > n := by omega
  have c3 : ¬ n > 65536 := by omega
  rcases hcut with ⟨rfl, h40⟩ | ⟨h40, rfl⟩
  case' inl =>
    rcases hg with hg | ⟨hg, rfl⟩
    case' inl =>
      go_enter Tryd.func7, Tryd.ntmps7
      go_upto_region 1 with (fail)
      have HB := PB.made w a n ra rn
      have hz : ((w.alloc (.cells #[.int .i64 a, .string (S ra)] 47)).alloc (.cells #[.int .i64 n, .string (S rn)] 47)).heap.size = w.heap.size + 2 := by simp
      generalize (w.alloc (.cells #[.int .i64 a, .string (S ra)] 47)).alloc (.cells #[.int .i64 n, .string (S rn)] 47) = W0 at HB hz ⊢
      go_wp2_with fail
      refine (newMill_tv W0).mono ?_
      rintro r1 w1 ⟨rfl, hM1, hb1, hs1⟩
      have H := Lib.hid (TwoP.made HT.out HB hz hM1 hb1)
      rw [hz]
      clear hM1 hb1 hs1 HB hz
      obtain ⟨d0, d1, d2, d3⟩ := H.out.p.lie
      have hf0 : Mill.fresh.sums = 0 := rfl
      generalize Mill.fresh = s0 at H hf0
      go_wp2_with fail
      refine (HC.out _ _ H.out).mono ?_
      rintro r w9 ⟨rfl, hb9⟩
      replace H := Lib.hid (H.out.below hb9); clear hb9
      clear d0 d1 d2 d3
      obtain ⟨d0, d1, d2, d3⟩ := H.out.p.lie
      go_wp2_with fail
      refine (H.out.awake).mono ?_
      rintro r w9 ⟨rfl, hb⟩
      go_wp2_with fail
      go_ret
      exact ⟨rfl, hb⟩
    case' inr =>
      go_enter Tryd.func7, Tryd.ntmps7
      go_upto_region 1 with (fail)
      have HB := PB.made w a n ra rn
      have hz : ((w.alloc (.cells #[.int .i64 a, .string (S ra)] 47)).alloc (.cells #[.int .i64 n, .string (S rn)] 47)).heap.size = w.heap.size + 2 := by simp
      generalize (w.alloc (.cells #[.int .i64 a, .string (S ra)] 47)).alloc (.cells #[.int .i64 n, .string (S rn)] 47) = W0 at HB hz ⊢
      go_wp2_with fail
      refine (newMill_tv W0).mono ?_
      rintro r1 w1 ⟨rfl, hM1, hb1, hs1⟩
      have H := Lib.hid (TwoP.made HT.out HB hz hM1 hb1)
      rw [hz]
      clear hM1 hb1 hs1 HB hz
      obtain ⟨d0, d1, d2, d3⟩ := H.out.p.lie
      have hf0 : Mill.fresh.sums = 0 := rfl
      generalize Mill.fresh = s0 at H hf0
      go_wp2_with fail
      refine (HS.out _ _ H.out).mono ?_
      rintro r w9 ⟨rfl, rfl⟩
      go_wp2_with fail
      refine (HC.out _ _ H.out).mono ?_
      rintro r w9 ⟨rfl, hb9⟩
      replace H := Lib.hid (H.out.below hb9); clear hb9
      clear d0 d1 d2 d3
      obtain ⟨d0, d1, d2, d3⟩ := H.out.p.lie
      go_wp2_with fail
      refine (H.out.awake).mono ?_
      rintro r w9 ⟨rfl, hb⟩
      go_wp2_with fail
      go_ret
      exact ⟨rfl, hb⟩
  case' inr =>
    rcases hg with hg | ⟨hg, rfl⟩
    case' inr => exact absurd hg (by decide)
    case' inl =>
      go_enter Tryd.func7, Tryd.ntmps7
      go_upto_region 1 with (fail)
      have HB := PB.made w a n ra rn
      have hz : ((w.alloc (.cells #[.int .i64 a, .string (S ra)] 47)).alloc (.cells #[.int .i64 n, .string (S rn)] 47)).heap.size = w.heap.size + 2 := by simp
      generalize (w.alloc (.cells #[.int .i64 a, .string (S ra)] 47)).alloc (.cells #[.int .i64 n, .string (S rn)] 47) = W0 at HB hz ⊢
      go_wp2_with fail
      refine (newMill_tv W0).mono ?_
      rintro r1 w1 ⟨rfl, hM1, hb1, hs1⟩
      have H := Lib.hid (TwoP.made HT.out HB hz hM1 hb1)
      rw [hz]
      clear hM1 hb1 hs1 HB hz
      obtain ⟨d0, d1, d2, d3⟩ := H.out.p.lie
      have hf0 : Mill.fresh.sums = 0 := rfl
      generalize Mill.fresh = s0 at H hf0
      go_wp2_with fail
      refine (HC.out _ _ H.out).mono ?_
      rintro r w9 ⟨rfl, hb9⟩
      replace H := Lib.hid (H.out.below hb9); clear hb9
      clear d0 d1 d2 d3
      obtain ⟨d0, d1, d2, d3⟩ := H.out.p.lie
      go_wp2_with fail
      refine (H.out.awake).mono ?_
      rintro r w9 ⟨rfl, hb⟩
      go_wp2_with fail
      go_ret
      exact ⟨rfl, hb⟩

set_option maxHeartbeats 4000000 in
set_option maxRecDepth 100000 in
theorem growns_none (n : Int) (ra rn : List UInt8) (A : Option Addr) (L : List (List UInt8)) (n0 cap : Nat) (hL : L.length ≤ 40) (w : World) (hA : RowA w A L) (hT : Tabs w)
    (hcut : (n0 = L.length ∧ ¬ (40 : Int) < (n0 : Int)) ∨ ((40 : Int) < (n0 : Int) ∧ L.length = 40)) (hnc : n0 ≤ cap) (hcm : cap ≤ 9223372036854775807) (h2 : 0 ≤ n) (h3 : n ≤ 65536) (hr : ra.length = 32 ∧ rn.length = 32) (hb : L.length ≤ 17 ∧ Mk.allSums L = true) :
    Calls Tryd.prog 7 #[.agg #[.int .i64 0, .string (S ra)], .agg #[.int .i64 n, .string (S rn)], .slice A n0 cap] w fun e w' => e = .returned (.bool true) ∧ Below w.heap.size w w' := by
  have hC := fun st W (h : TwoP w W 0 n ra rn st) (hs : st.sums ≤ 1000) => grown_none (w.heap.size + 2 + 1) (w.heap.size + 2) none [] rfl n ra rn L A cap st W h2 h3 hr (by omega) hcm (hA.at h.p.u two_lowP) hb (by omega) h.m
  have hS := fun st W (h : TwoP w W 0 n ra rn st) => mkSums_any A cap L [] W (hA.at h.p.u (by simp)) (by omega) hcm
  have hN := fun st W (h : TwoP w W 0 n ra rn st) (hs : st.sums ≤ 1000) => mkNone_any (w.heap.size + 2 + 1) (w.heap.size + 2) none [] rfl st W h.m (by omega)
  have hfin := none_fin [] n ra rn L
  rw [hb.2] at hS
  have r1 : ((ra.length : Int) != 32) = false := by simpa using (show (ra.length : Int) = 32 by omega)
  have r2 : ((rn.length : Int) != 32) = false := by simpa using (show (rn.length : Int) = 32 by omega)
  have h17 : ¬ (L.length : Int) > 17 := by omega
  have HT := Lib.hid hT
  unfold MkPost at hC hN
  clear hb hA hT hr
  generalize noneC [] n ra rn L = code at *
  generalize Mk.nil [] = x at *
  generalize L.length = k at *
  have HC := Lib.hid hC; clear hC
  have HS := Lib.hid hS; clear hS
  have HN := Lib.hid hN; clear hN
  have c2 : ¬ (0 : Int) > n := by omega
  have c3 : ¬ n > 65536 := by omega
  have HFIN := Lib.hid hfin; clear hfin
  rcases hcut with ⟨rfl, h40⟩ | ⟨h40, rfl⟩
  case' inr => exact absurd h17 (by decide)
  case' inl =>
    go_enter Tryd.func7, Tryd.ntmps7
    go_upto_region 1 with (fail)
    have HB := PB.made w 0 n ra rn
    have hz : ((w.alloc (.cells #[.int .i64 0, .string (S ra)] 47)).alloc (.cells #[.int .i64 n, .string (S rn)] 47)).heap.size = w.heap.size + 2 := by simp
    generalize (w.alloc (.cells #[.int .i64 0, .string (S ra)] 47)).alloc (.cells #[.int .i64 n, .string (S rn)] 47) = W0 at HB hz ⊢
    go_wp2_with fail
    refine (newMill_tv W0).mono ?_
    rintro r1 w1 ⟨rfl, hM1, hb1, hs1⟩
    have H := Lib.hid (TwoP.made HT.out HB hz hM1 hb1)
    rw [hz]
    clear hM1 hb1 hs1 HB hz
    obtain ⟨d0, d1, d2, d3⟩ := H.out.p.lie
    have hf0 : Mill.fresh.sums = 0 := rfl
    generalize Mill.fresh = s0 at H hf0
    go_wp2_with fail
    refine (HS.out _ _ H.out).mono ?_
    rintro r w9 ⟨rfl, rfl⟩
    rcases HFIN.out with ⟨f1, rfl⟩ | ⟨f1, f2, f3, rfl⟩ | ⟨f1, f2, f3, f4, rfl⟩ | ⟨f1, f2, f3, f4, rfl⟩ | ⟨f1, f2, f4, rfl⟩ | ⟨f1, f2, f4, rfl⟩
    all_goals
      clear HFIN
      go_upto_region 12 with (fail)
      have hx : PLie w.heap.size 0 n ra rn w9.drew := H.out.drew.p.lie
      replace H := Lib.hid H.out.drew
      clear d0 d1 d2 d3
      refine wp_region_held_drew (S := PLie w.heap.size 0 n ra rn) (by kernel_rfl) hx (fun hHeld => ?_)
      first
      | (refine take_wanted (i := 0) (v := ?_) rfl rfl (by kernel_rfl) (by kernel_rfl) (by kernel_rfl) (fun _ _ _ h => h) (by rfl) (by assumption) ?_ ?_; rotate_left; (focus (intro w hSw; (try dsimp only at hSw); go_simp; first | done | with_reducible rfl)); (simp only [Act.at, List.setIfInBounds_toArray, List.set_cons_zero, List.set_cons_succ]))
      | (refine take_unwanted (i := 0) rfl rfl (by kernel_rfl) (by kernel_rfl) (by kernel_rfl) (fun _ _ _ h => h) (by rfl) (by assumption) ?_; (simp only [Act.at, List.setIfInBounds_toArray, List.set_cons_zero, List.set_cons_succ]))
      first
      | (refine take_wanted (i := 1) (v := ?_) rfl rfl (by kernel_rfl) (by kernel_rfl) (by kernel_rfl) (fun _ _ _ h => h) (by rfl) (by assumption) ?_ ?_; rotate_left; (focus (intro w hSw; (try dsimp only at hSw); go_simp; first | done | with_reducible rfl)); (simp only [Act.at, List.setIfInBounds_toArray, List.set_cons_zero, List.set_cons_succ]))
      | (refine take_unwanted (i := 1) rfl rfl (by kernel_rfl) (by kernel_rfl) (by kernel_rfl) (fun _ _ _ h => h) (by rfl) (by assumption) ?_; (simp only [Act.at, List.setIfInBounds_toArray, List.set_cons_zero, List.set_cons_succ]))
      first
      | (refine take_wanted (i := 2) (v := ?_) rfl rfl (by kernel_rfl) (by kernel_rfl) (by kernel_rfl) (fun _ _ _ h => h) (by rfl) (by assumption) ?_ ?_; rotate_left; (focus (intro w hSw; (try dsimp only at hSw); go_simp; first | done | with_reducible rfl)); (simp only [Act.at, List.setIfInBounds_toArray, List.set_cons_zero, List.set_cons_succ]))
      | (refine take_unwanted (i := 2) rfl rfl (by kernel_rfl) (by kernel_rfl) (by kernel_rfl) (fun _ _ _ h => h) (by rfl) (by assumption) ?_; (simp only [Act.at, List.setIfInBounds_toArray, List.set_cons_zero, List.set_cons_succ]))
      refine take_call (i := 3) (by kernel_rfl) rfl rfl (by rfl) (fun K hK => ?_)
      go_simp
      refine (HN.out _ _ H.out (by omega)).mono ?_
      rintro r w2 ⟨rfl, hm2, hv2⟩
      replace H := Lib.hid (H.out.step hm2 hv2); clear hm2 hv2
      have hx1 := H.out.p.lie
      clear hx hHeld
      refine hK.out _ _ hx1 (fun hHeld => ?_)
      clear hK K
      try simp only [Act.put, List.setIfInBounds_toArray, List.set_cons_zero, List.set_cons_succ]
      first
      | (refine take_wanted (i := 4) (v := ?_) rfl rfl (by kernel_rfl) (by kernel_rfl) (by kernel_rfl) (fun _ _ _ h => h) (by rfl) (by assumption) ?_ ?_; rotate_left; (focus (intro w hSw; (try dsimp only at hSw); go_simp; first | done | with_reducible rfl)); (simp only [Act.at, List.setIfInBounds_toArray, List.set_cons_zero, List.set_cons_succ]))
      | (refine take_unwanted (i := 4) rfl rfl (by kernel_rfl) (by kernel_rfl) (by kernel_rfl) (fun _ _ _ h => h) (by rfl) (by assumption) ?_; (simp only [Act.at, List.setIfInBounds_toArray, List.set_cons_zero, List.set_cons_succ]))
      first
      | (refine take_wanted (i := 5) (v := ?_) rfl rfl (by kernel_rfl) (by kernel_rfl) (by kernel_rfl) (fun _ _ _ h => h) (by rfl) (by assumption) ?_ ?_; rotate_left; (focus (intro w hSw; (try dsimp only at hSw); go_simp; first | done | with_reducible rfl)); (simp only [Act.at, List.setIfInBounds_toArray, List.set_cons_zero, List.set_cons_succ]))
      | (refine take_unwanted (i := 5) rfl rfl (by kernel_rfl) (by kernel_rfl) (by kernel_rfl) (fun _ _ _ h => h) (by rfl) (by assumption) ?_; (simp only [Act.at, List.setIfInBounds_toArray, List.set_cons_zero, List.set_cons_succ]))
      first
      | (refine take_wanted (i := 6) (v := ?_) rfl rfl (by kernel_rfl) (by kernel_rfl) (by kernel_rfl) (fun _ _ _ h => h) (by rfl) (by assumption) ?_ ?_; rotate_left; (focus (intro w hSw; (try dsimp only at hSw); go_simp; first | done | with_reducible rfl)); (simp only [Act.at, List.setIfInBounds_toArray, List.set_cons_zero, List.set_cons_succ]))
      | (refine take_unwanted (i := 6) rfl rfl (by kernel_rfl) (by kernel_rfl) (by kernel_rfl) (fun _ _ _ h => h) (by rfl) (by assumption) ?_; (simp only [Act.at, List.setIfInBounds_toArray, List.set_cons_zero, List.set_cons_succ]))
      first
      | (refine take_wanted (i := 7) (v := ?_) rfl rfl (by kernel_rfl) (by kernel_rfl) (by kernel_rfl) (fun _ _ _ h => h) (by rfl) (by assumption) ?_ ?_; rotate_left; (focus (intro w hSw; (try dsimp only at hSw); go_simp; first | done | with_reducible rfl)); (simp only [Act.at, List.setIfInBounds_toArray, List.set_cons_zero, List.set_cons_succ]))
      | (refine take_unwanted (i := 7) rfl rfl (by kernel_rfl) (by kernel_rfl) (by kernel_rfl) (fun _ _ _ h => h) (by rfl) (by assumption) ?_; (simp only [Act.at, List.setIfInBounds_toArray, List.set_cons_zero, List.set_cons_succ]))
      first
      | (refine take_wanted (i := 8) (v := ?_) rfl rfl (by kernel_rfl) (by kernel_rfl) (by kernel_rfl) (fun _ _ _ h => h) (by rfl) (by assumption) ?_ ?_; rotate_left; (focus (intro w hSw; (try dsimp only at hSw); go_simp; first | done | with_reducible rfl)); (simp only [Act.at, List.setIfInBounds_toArray, List.set_cons_zero, List.set_cons_succ]))
      | (refine take_unwanted (i := 8) rfl rfl (by kernel_rfl) (by kernel_rfl) (by kernel_rfl) (fun _ _ _ h => h) (by rfl) (by assumption) ?_; (simp only [Act.at, List.setIfInBounds_toArray, List.set_cons_zero, List.set_cons_succ]))
      first
      | (refine take_wanted (i := 9) (v := ?_) rfl rfl (by kernel_rfl) (by kernel_rfl) (by kernel_rfl) (fun _ _ _ h => h) (by rfl) (by assumption) ?_ ?_; rotate_left; (focus (intro w hSw; (try dsimp only at hSw); go_simp; first | done | with_reducible rfl)); (simp only [Act.at, List.setIfInBounds_toArray, List.set_cons_zero, List.set_cons_succ]))
      | (refine take_unwanted (i := 9) rfl rfl (by kernel_rfl) (by kernel_rfl) (by kernel_rfl) (fun _ _ _ h => h) (by rfl) (by assumption) ?_; (simp only [Act.at, List.setIfInBounds_toArray, List.set_cons_zero, List.set_cons_succ]))
      first
      | (refine take_wanted (i := 10) (v := ?_) rfl rfl (by kernel_rfl) (by kernel_rfl) (by kernel_rfl) (fun _ _ _ h => h) (by rfl) (by assumption) ?_ ?_; rotate_left; (focus (intro w hSw; (try dsimp only at hSw); go_simp; first | done | with_reducible rfl)); (simp only [Act.at, List.setIfInBounds_toArray, List.set_cons_zero, List.set_cons_succ]))
      | (refine take_unwanted (i := 10) rfl rfl (by kernel_rfl) (by kernel_rfl) (by kernel_rfl) (fun _ _ _ h => h) (by rfl) (by assumption) ?_; (simp only [Act.at, List.setIfInBounds_toArray, List.set_cons_zero, List.set_cons_succ]))
      first
      | (refine take_wanted (i := 11) (v := ?_) rfl rfl (by kernel_rfl) (by kernel_rfl) (by kernel_rfl) (fun _ _ _ h => h) (by rfl) (by assumption) ?_ ?_; rotate_left; (focus (intro w hSw; (try dsimp only at hSw); go_simp; first | done | with_reducible rfl)); (simp only [Act.at, List.setIfInBounds_toArray, List.set_cons_zero, List.set_cons_succ]))
      | (refine take_unwanted (i := 11) rfl rfl (by kernel_rfl) (by kernel_rfl) (by kernel_rfl) (fun _ _ _ h => h) (by rfl) (by assumption) ?_; (simp only [Act.at, List.setIfInBounds_toArray, List.set_cons_zero, List.set_cons_succ]))
      first
      | (refine take_wanted (i := 12) (v := ?_) rfl rfl (by kernel_rfl) (by kernel_rfl) (by kernel_rfl) (fun _ _ _ h => h) (by rfl) (by assumption) ?_ ?_; rotate_left; (focus (intro w hSw; (try dsimp only at hSw); go_simp; first | done | with_reducible rfl)); (simp only [Act.at, List.setIfInBounds_toArray, List.set_cons_zero, List.set_cons_succ]))
      | (refine take_unwanted (i := 12) rfl rfl (by kernel_rfl) (by kernel_rfl) (by kernel_rfl) (fun _ _ _ h => h) (by rfl) (by assumption) ?_; (simp only [Act.at, List.setIfInBounds_toArray, List.set_cons_zero, List.set_cons_succ]))
      first
      | (refine take_wanted (i := 13) (v := ?_) rfl rfl (by kernel_rfl) (by kernel_rfl) (by kernel_rfl) (fun _ _ _ h => h) (by rfl) (by assumption) ?_ ?_; rotate_left; (focus (intro w hSw; (try dsimp only at hSw); go_simp; first | done | with_reducible rfl)); (simp only [Act.at, List.setIfInBounds_toArray, List.set_cons_zero, List.set_cons_succ]))
      | (refine take_unwanted (i := 13) rfl rfl (by kernel_rfl) (by kernel_rfl) (by kernel_rfl) (fun _ _ _ h => h) (by rfl) (by assumption) ?_; (simp only [Act.at, List.setIfInBounds_toArray, List.set_cons_zero, List.set_cons_succ]))
      first
      | (refine take_wanted (i := 14) (v := ?_) rfl rfl (by kernel_rfl) (by kernel_rfl) (by kernel_rfl) (fun _ _ _ h => h) (by rfl) (by assumption) ?_ ?_; rotate_left; (focus (intro w hSw; (try dsimp only at hSw); go_simp; first | done | with_reducible rfl)); (simp only [Act.at, List.setIfInBounds_toArray, List.set_cons_zero, List.set_cons_succ]))
      | (refine take_unwanted (i := 14) rfl rfl (by kernel_rfl) (by kernel_rfl) (by kernel_rfl) (fun _ _ _ h => h) (by rfl) (by assumption) ?_; (simp only [Act.at, List.setIfInBounds_toArray, List.set_cons_zero, List.set_cons_succ]))
      first
      | (refine take_wanted (i := 15) (v := ?_) rfl rfl (by kernel_rfl) (by kernel_rfl) (by kernel_rfl) (fun _ _ _ h => h) (by rfl) (by assumption) ?_ ?_; rotate_left; (focus (intro w hSw; (try dsimp only at hSw); go_simp; first | done | with_reducible rfl)); (simp only [Act.at, List.setIfInBounds_toArray, List.set_cons_zero, List.set_cons_succ]))
      | (refine take_unwanted (i := 15) rfl rfl (by kernel_rfl) (by kernel_rfl) (by kernel_rfl) (fun _ _ _ h => h) (by rfl) (by assumption) ?_; (simp only [Act.at, List.setIfInBounds_toArray, List.set_cons_zero, List.set_cons_succ]))
      first
      | (refine take_wanted (i := 16) (v := ?_) rfl rfl (by kernel_rfl) (by kernel_rfl) (by kernel_rfl) (fun _ _ _ h => h) (by rfl) (by assumption) ?_ ?_; rotate_left; (focus (intro w hSw; (try dsimp only at hSw); go_simp; first | done | with_reducible rfl)); (simp only [Act.at, List.setIfInBounds_toArray, List.set_cons_zero, List.set_cons_succ]))
      | (refine take_unwanted (i := 16) rfl rfl (by kernel_rfl) (by kernel_rfl) (by kernel_rfl) (fun _ _ _ h => h) (by rfl) (by assumption) ?_; (simp only [Act.at, List.setIfInBounds_toArray, List.set_cons_zero, List.set_cons_succ]))
      refine wpAnyH_done (by kernel_rfl) ?_ _
      have hq : (Mill.steps [] [[]] s0).sums ≤ 10 := by rw [Mill.steps_sums]; simp; omega
      obtain ⟨d0, d1, d2, d3⟩ := hx1
      go_wp2_with fail
      refine (HC.out _ _ H.out (by omega)).mono ?_
      rintro r w9 ⟨rfl, hm9, hv9⟩
      replace H := Lib.hid (H.out.step hm9 hv9); clear hm9 hv9
      skip
      clear d0 d1 d2 d3
      obtain ⟨d0, d1, d2, d3⟩ := H.out.p.lie
      go_wp2_with fail
      refine (H.out.awake).mono ?_
      rintro r w9 ⟨rfl, hb⟩
      go_wp2_with fail
      go_ret
      exact ⟨rfl, hb⟩

set_option maxHeartbeats 4000000 in
set_option maxRecDepth 100000 in
theorem growns_len (a n : Nat) (ra rn : List UInt8) (A : Option Addr) (L : List (List UInt8)) (n0 cap : Nat) (hL : L.length ≤ 40) (w : World) (hA : RowA w A L) (hT : Tabs w)
    (hcut : (n0 = L.length ∧ ¬ (40 : Int) < (n0 : Int)) ∨ ((40 : Int) < (n0 : Int) ∧ L.length = 40)) (hnc : n0 ≤ cap) (hcm : cap ≤ 9223372036854775807) (h1 : 1 ≤ a) (h2 : a ≤ n) (h3 : n ≤ 65536) (hr : ra.length = 32 ∧ rn.length = 32) (hb : L.length ≤ 17 ∧ Mk.allSums L = true) (hlen : ¬ L.length = Mk.long a n true) :
    Calls Tryd.prog 7 #[.agg #[.int .i64 (a : Int), .string (S ra)], .agg #[.int .i64 (n : Int), .string (S rn)], .slice A n0 cap] w fun e w' => e = .returned (.bool true) ∧ Below w.heap.size w w' := by
  have hC := fun st W (h : TwoP w W (a : Int) (n : Int) ra rn st) => grown_len (w.heap.size + 2 + 1) a n ra rn L A cap W h1 h2 h3 hr (by omega) hcm (hA.at h.p.u (by simp)) hb hlen
  have hS := fun st W (h : TwoP w W (a : Int) (n : Int) ra rn st) => mkSums_any A cap L [] W (hA.at h.p.u (by simp)) (by omega) hcm
  rw [hb.2] at hS
  have HLG := Lib.hid (fun W => mkLong_any n a true W h1 h2 h3)
  have r1 : ((ra.length : Int) != 32) = false := by simpa using (show (ra.length : Int) = 32 by omega)
  have r2 : ((rn.length : Int) != 32) = false := by simpa using (show (rn.length : Int) = 32 by omega)
  have h17 : ¬ (L.length : Int) > 17 := by omega
  have HT := Lib.hid hT
  clear hb hA hT hr
  generalize Mk.long a n true = d at *
  generalize L.length = k at *
  have HC := Lib.hid hC; clear hC
  have HS := Lib.hid hS; clear hS
  have c1 : ¬ (a : Int) < 0 := by omega
  have c2 : ¬ (a : Int) > (n : Int) := by omega
  have c3 : ¬ (n : Int) > 65536 := by omega
  have c5 : ((a : Int) == 0) = false := by simpa using (show ¬ (a : Int) = 0 by omega)
  have c6 : ((k : Int) != (d : Int)) = true := by simpa using (show ¬ (k : Int) = (d : Int) by omega)
  rcases hcut with ⟨rfl, h40⟩ | ⟨h40, rfl⟩
  case' inr => exact absurd h17 (by decide)
  case' inl =>
    go_enter Tryd.func7, Tryd.ntmps7
    go_upto_region 1 with (fail)
    have HB := PB.made w (a : Int) (n : Int) ra rn
    have hz : ((w.alloc (.cells #[.int .i64 (a : Int), .string (S ra)] 47)).alloc (.cells #[.int .i64 (n : Int), .string (S rn)] 47)).heap.size = w.heap.size + 2 := by simp
    generalize (w.alloc (.cells #[.int .i64 (a : Int), .string (S ra)] 47)).alloc (.cells #[.int .i64 (n : Int), .string (S rn)] 47) = W0 at HB hz ⊢
    go_wp2_with fail
    refine (newMill_tv W0).mono ?_
    rintro r1 w1 ⟨rfl, hM1, hb1, hs1⟩
    have H := Lib.hid (TwoP.made HT.out HB hz hM1 hb1)
    rw [hz]
    clear hM1 hb1 hs1 HB hz
    obtain ⟨d0, d1, d2, d3⟩ := H.out.p.lie
    have hf0 : Mill.fresh.sums = 0 := rfl
    generalize Mill.fresh = s0 at H hf0
    go_wp2_with fail
    refine (HS.out _ _ H.out).mono ?_
    rintro r w9 ⟨rfl, rfl⟩
    go_wp2_with fail
    refine (HLG.out _).mono ?_
    rintro r w9 ⟨rfl, rfl⟩
    go_wp2_with fail
    refine (HC.out _ _ H.out).mono ?_
    rintro r w9 ⟨rfl, hb9⟩
    replace H := Lib.hid (H.out.below hb9); clear hb9
    clear d0 d1 d2 d3
    obtain ⟨d0, d1, d2, d3⟩ := H.out.p.lie
    go_wp2_with fail
    refine (H.out.awake).mono ?_
    rintro r w9 ⟨rfl, hb⟩
    go_wp2_with fail
    go_ret
    exact ⟨rfl, hb⟩

set_option maxHeartbeats 4000000 in
set_option maxRecDepth 100000 in
theorem growns_lead (a n : Nat) (ra rn : List UInt8) (A : Option Addr) (L : List (List UInt8)) (n0 cap : Nat) (hL : L.length ≤ 40) (w : World) (hA : RowA w A L) (hT : Tabs w)
    (hcut : (n0 = L.length ∧ ¬ (40 : Int) < (n0 : Int)) ∨ ((40 : Int) < (n0 : Int) ∧ L.length = 40)) (hnc : n0 ≤ cap) (hcm : cap ≤ 9223372036854775807) (h1 : 1 ≤ a) (h2 : a ≤ n) (h3 : n ≤ 65536) (hr : ra.length = 32 ∧ rn.length = 32) (hb : L.length ≤ 17 ∧ Mk.allSums L = true) (hlen : L.length = Mk.long a n true) :
    Calls Tryd.prog 7 #[.agg #[.int .i64 (a : Int), .string (S ra)], .agg #[.int .i64 (n : Int), .string (S rn)], .slice A n0 cap] w fun e w' => e = .returned (.bool true) ∧ Below w.heap.size w w' := by
  have hsm := (Mk.allSums_iff L).1 hb.2
  have hC := fun st W (h : TwoP w W (a : Int) (n : Int) ra rn st) (hs : st.sums ≤ 1000) => grown_lead (w.heap.size + 2 + 1) (w.heap.size + 2) none [] rfl a n ra rn L A cap st W h1 h2 h3 hr (by omega) hcm (hA.at h.p.u two_lowP) hb hlen (by omega) h.m
  have hD := fun st W (h : TwoP w W (a : Int) (n : Int) ra rn st) (hs : st.sums ≤ 1000) => mkBoth_any (w.heap.size + 2 + 1) (w.heap.size + 2) none [] rfl n a true ra ra L A cap st W h1 h2 h3 (fun _ => rfl) hlen (by omega) hcm (hA.at h.p.u two_lowP) (by omega) (fun s h => by rw [hsm s h]; decide) (by omega) h.m
  have hS := fun st W (h : TwoP w W (a : Int) (n : Int) ra rn st) => mkSums_any A cap L [] W (hA.at h.p.u (by simp)) (by omega) hcm
  rw [hb.2] at hS
  have HLG := Lib.hid (fun W => mkLong_any n a true W h1 h2 h3)
  rw [← hlen] at HLG
  have hfin := lead_fin [] a n ra rn L
  have hal := Mk.bothAsks_len [] L.length a n true ra L rfl
  have r1 : ((ra.length : Int) != 32) = false := by simpa using (show (ra.length : Int) = 32 by omega)
  have r2 : ((rn.length : Int) != 32) = false := by simpa using (show (rn.length : Int) = 32 by omega)
  have h17 : ¬ (L.length : Int) > 17 := by omega
  have HT := Lib.hid hT
  unfold MkPost at hC hD
  clear hb hA hT hr hsm hlen
  generalize leadC [] a n ra rn L = code at *
  generalize (Mk.both [] a n true ra L).1 = y1 at *
  generalize (Mk.both [] a n true ra L).2 = y2 at *
  generalize Mk.bothAsks [] a n true ra L = ts at *
  generalize L.length = k at *
  have HC := Lib.hid hC; clear hC
  have HD := Lib.hid hD; clear hD
  have HS := Lib.hid hS; clear hS
  have HFIN := Lib.hid hfin; clear hfin
  have c1 : ¬ (a : Int) < 0 := by omega
  have c2 : ¬ (a : Int) > (n : Int) := by omega
  have c3 : ¬ (n : Int) > 65536 := by omega
  have c5 : ((a : Int) == 0) = false := by simpa using (show ¬ (a : Int) = 0 by omega)
  have c6 : ((k : Int) != (k : Int)) = false := by simp
  rcases hcut with ⟨rfl, h40⟩ | ⟨h40, rfl⟩
  case' inr => exact absurd h17 (by decide)
  case' inl =>
    go_enter Tryd.func7, Tryd.ntmps7
    go_upto_region 1 with (fail)
    have HB := PB.made w (a : Int) (n : Int) ra rn
    have hz : ((w.alloc (.cells #[.int .i64 (a : Int), .string (S ra)] 47)).alloc (.cells #[.int .i64 (n : Int), .string (S rn)] 47)).heap.size = w.heap.size + 2 := by simp
    generalize (w.alloc (.cells #[.int .i64 (a : Int), .string (S ra)] 47)).alloc (.cells #[.int .i64 (n : Int), .string (S rn)] 47) = W0 at HB hz ⊢
    go_wp2_with fail
    refine (newMill_tv W0).mono ?_
    rintro r1 w1 ⟨rfl, hM1, hb1, hs1⟩
    have H := Lib.hid (TwoP.made HT.out HB hz hM1 hb1)
    rw [hz]
    clear hM1 hb1 hs1 HB hz
    obtain ⟨d0, d1, d2, d3⟩ := H.out.p.lie
    have hf0 : Mill.fresh.sums = 0 := rfl
    generalize Mill.fresh = s0 at H hf0
    go_wp2_with fail
    refine (HS.out _ _ H.out).mono ?_
    rintro r w9 ⟨rfl, rfl⟩
    go_wp2_with fail
    refine (HLG.out _).mono ?_
    rintro r w9 ⟨rfl, rfl⟩
    go_wp2_with fail
    refine (HD.out _ _ H.out (by omega)).mono ?_
    rintro r w9 ⟨rfl, hm9, hv9⟩
    replace H := Lib.hid (H.out.step hm9 hv9); clear hm9 hv9
    have hq : (Mill.steps [] ts s0).sums ≤ 100 := by rw [Mill.steps_sums]; omega
    clear d0 d1 d2 d3
    obtain ⟨d0, d1, d2, d3⟩ := H.out.p.lie
    rcases HFIN.out with ⟨f1, rfl⟩ | ⟨f1, f2, rfl⟩ | ⟨f1, f2, rfl⟩
    all_goals
      clear HFIN
      go_wp2_with fail
      refine (HC.out _ _ H.out (by omega)).mono ?_
      rintro r w9 ⟨rfl, hm9, hv9⟩
      replace H := Lib.hid (H.out.step hm9 hv9); clear hm9 hv9
      skip
      clear d0 d1 d2 d3
      obtain ⟨d0, d1, d2, d3⟩ := H.out.p.lie
      go_wp2_with fail
      refine (H.out.awake).mono ?_
      rintro r w9 ⟨rfl, hb⟩
      go_wp2_with fail
      go_ret
      exact ⟨rfl, hb⟩

theorem array2 {α : Type} {cs : Array α} (h : cs.size = 2) : ∃ c0 c1, cs = #[c0, c1] := by
  obtain ⟨l⟩ := cs
  match l, h with
  | [c0, c1], _ => exact ⟨c0, c1, rfl⟩
set_option maxRecDepth 100000 in
theorem point_open {H : Type} {enc : TypeId × Value → H} {W : World} {r : Reach} {b0 : Nat} {v : Value} {d : DataW H} {p : List MemPlace}
    (hv : Value.okWide Tryd.prog W r b0 47 v) (h : DataW.Trod enc Tryd.prog W 0 (fun _ => true) true 47 v d p) :
    ∃ (a : Int) (s : List UInt8), v = .agg #[.int .i64 a, .string (S s)] := by
  obtain ⟨cs, rfl, hsz⟩ := okWide_struct Tryd.underlying47 hv
  have hC : Tryd.prog.cellsOf 47 = 2 := by kernel_rfl
  obtain ⟨c0, c1, rfl⟩ := array2 (hsz.trans hC)
  obtain ⟨fuel, hf⟩ := h
  have hcell : (Value.agg #[c0, c1]).cells.toList = [c0, c1] := rfl
  rw [hcell] at hf
  obtain ⟨ys, n', hn', hy, hlen, hyl, hf⟩ := DataW.trod_struct Tryd.underlying47 hf
  match ys, hyl with
  | [y0, y1], _ =>
    have C0 : Tryd.prog.cellsOf 9 = 1 := by kernel_rfl
    have C1 : Tryd.prog.cellsOf 3 = 1 := by kernel_rfl
    have f0 : DataW.trod enc Tryd.prog W 0 (fun _ => true) true n' 3 (List.take (Tryd.prog.cellsOf 3) (List.drop 0 [c0, c1])) = some y0 := hf 0 _ rfl
    have f1 : DataW.trod enc Tryd.prog W 0 (fun _ => true) true n' 9 (List.take (Tryd.prog.cellsOf 9) (List.drop 1 [c0, c1])) = some y1 := hf 1 _ rfl
    rw [C1] at f0
    rw [C0] at f1
    obtain ⟨T0, e0, x0, _⟩ := DataW.trod_int Tryd.underlying3 f0
    obtain ⟨T1, e1, x1, _⟩ := DataW.trod_string Tryd.underlying9 f1
    simp at e0 e1
    subst e0; subst e1
    exact ⟨T0, T1.data.toList, by rw [S_of]⟩

theorem merkleGrowns_any (a n : Int) (ra rn : List UInt8) (A : Option Addr) (l : List (List UInt8)) (cap : Nat) (w : World) (hA : RowA w A l) (hT : Tabs w) (hlc : l.length ≤ cap) (hcm : cap ≤ 9223372036854775807) :
    Calls Tryd.prog 7 #[.agg #[.int .i64 a, .string (S ra)], .agg #[.int .i64 n, .string (S rn)], .slice A l.length cap] w fun e w' => e = .returned (.bool true) ∧ Below w.heap.size w w' := by
  have hL : (l.take 40).length ≤ 40 := by rw [List.length_take]; omega
  have hcut : (l.length = (l.take 40).length ∧ ¬ (40 : Int) < (l.length : Int)) ∨ ((40 : Int) < (l.length : Int) ∧ (l.take 40).length = 40) := by
    by_cases h : 40 < l.length
    · exact Or.inr ⟨by omega, by rw [List.length_take]; omega⟩
    · exact Or.inl ⟨by rw [List.length_take]; omega, by omega⟩
  by_cases hsz : 0 ≤ a ∧ a ≤ n ∧ n ≤ 65536
  · obtain ⟨h1, h2, h3⟩ := hsz
    by_cases hr : ra.length = 32 ∧ rn.length = 32
    · by_cases hp : (l.take 40).length ≤ 17 ∧ Mk.allSums (l.take 40) = true
      · obtain ⟨n, rfl⟩ := Int.eq_ofNat_of_zero_le (show 0 ≤ n by omega)
        obtain ⟨a, rfl⟩ := Int.eq_ofNat_of_zero_le h1
        by_cases h0 : a = 0
        · subst h0
          exact growns_none n ra rn A (l.take 40) l.length cap hL w (hA.take 40) hT hcut hlc hcm (by omega) h3 hr hp
        · by_cases hl : (l.take 40).length = Mk.long a n true
          · exact growns_lead a n ra rn A (l.take 40) l.length cap hL w (hA.take 40) hT hcut hlc hcm (by omega) (by omega) (by omega) hr hp hl
          · exact growns_len a n ra rn A (l.take 40) l.length cap hL w (hA.take 40) hT hcut hlc hcm (by omega) (by omega) (by omega) hr hp hl
      · exact growns_proof a n ra rn A (l.take 40) l.length cap hL w (hA.take 40) hT hcut hlc hcm h1 h2 h3 hr hp
    · exact growns_root a n ra rn A (l.take 40) l.length cap hL w (hA.take 40) hT hcut hlc hcm h1 h2 h3 hr
  · exact growns_size a n ra rn A (l.take 40) l.length cap hL w (hA.take 40) hT hcut hlc hcm hsz

set_option maxRecDepth 100000 in
theorem merkleGrowns_contract {H : Type} (enc : TypeId × Value → H) (W : World) (base : Nat) (args : Array Value) (ds gs : List (DataW H)) (before : List MemPlace)
    (hval : ∀ (j : Nat) t v, Tryd.f7.params[j]? = some t → args[j]? = some v → Value.okWide Tryd.prog W .any base t v)
    (hW : DataW.Whole enc Tryd.prog Tryd.f7.params.toList Rows.merkleGrownsSpec.vars false W args.toList ds gs before)
    (hsz : (DataW.weightsEach Tryd.prog (Tryd.f7.params.toList ++ Rows.merkleGrownsSpec.plain.varTypes Tryd.prog) (ds ++ gs)).all (· ≤ reachBytes) = true) (hT : Tabs W) :
    Calls Tryd.prog 7 args W fun e W' =>
      ((Rows.merkleGrownsSpec.fn H (ds ++ gs)).results = [.lit (.bool true)] ∧ (Rows.merkleGrownsSpec.fn H (ds ++ gs)).args = ds ∧ (Rows.merkleGrownsSpec.fn H (ds ++ gs)).vars = []) ∧ e = .returned (.bool true) ∧ Below W.heap.size W W' := by
  obtain ⟨p, q, hA0, hV, rfl, hfz, hnd⟩ := hW
  have hA : DataW.TrodAll enc Tryd.prog W 0 (fun _ => true) true Tryd.f7.params.toList args.toList ds p := hA0
  rw [Tryd.params7] at hA hval hsz
  obtain ⟨v0, v1, v2, d0, d1, d2, p0, p1, p2, rfl, rfl, rfl, h0, h1, h2⟩ := trodAll_three hA
  obtain ⟨rfl, rfl⟩ := trodVars_none hV
  obtain ⟨a_f, s_f, rfl⟩ := point_open (hval 0 47 v0 rfl rfl) h0
  obtain ⟨a_t, s_t, rfl⟩ := point_open (hval 1 47 v1 rfl rfl) h1
  obtain ⟨A_p, len_p, cap_p, rfl⟩ := okWide_slice Tryd.underlying22 (hval 2 22 v2 rfl rfl)
  obtain ⟨fuel_p, hf_p⟩ := h2
  obtain ⟨l_p, rfl, lc_p, cm_p, hA_p, hB_p⟩ := mktexts_open hf_p (fun n hn => by
    have h := List.all_eq_true.1 hsz n (DataW.weights_mem_each (j := 2) (t := 22) (d := d2) rfl rfl n hn)
    exact Nat.le_trans (by simpa using h) (by decide))
  exact (merkleGrowns_any a_f a_t s_f s_t A_p l_p cap_p W hA_p hT lc_p cm_p).mono fun e W' h => ⟨⟨rfl, rfl, rfl⟩, h⟩

end Go.Proofs.YtphhaiccpllnpaaDoor
