/-
  The contracts of the program's halves and before, and of slices.BinarySearch at numbers.
-/
import Derived.Test.YtgjknfphmmlcdaaDoorShtRow
import Derived.Laws.ResultCell
namespace Go.Proofs.YtgjknfphmmlcdaaDoor
open Go.RowKit
set_option linter.unusedVariables false

theorem partSize : (Tryd.prog.info? 86).map (·.size) = some 2 := by kernel_rfl
theorem partWhole {W : World} {g : Nat} {cs : Array Value} (h : Has W g 86 cs) (hcs : cs.size = 2) : (loadVar 86 ⟨g, 0, none⟩).run Tryd.prog W = .ok (.agg cs) W :=
  run_loadVar_row W g 86 86 cs (0, 0) _ h Tryd.underlying86 rfl (by rw [hcs]; exact partSize)
theorem results_parts {fn : Func} {p q : Tmp} {ty : TypeId} (h : fn.results = #[.cell p ty, .cell q ty]) (tmps : Array Value) (P : Program) (w : World) :
    (results fn tmps).run P w =
      ((asAddr (tmps.getD p undef)).run P w).andThen fun a w₁ => ((loadVar ty a).run P w₁).andThen fun v w₂ => ((asAddr (tmps.getD q undef)).run P w₂).andThen fun b w₃ => ((loadVar ty b).run P w₃).andThen fun u w₄ => .ok (.tuple #[v, u]) w₄ := by
  simp only [results, h]
  simp [Sem.run_bind, Result.andThen]
theorem ret_parts {fn : Func} {p q : Tmp} {R : Ending → World → Prop} {a : Act} {w : World} (h : fn.results = #[.cell p 86, .cell q 86]) (g1 g2 : Nat) (c1 c2 : Array Value)
    (hp : a.tmps.getD p undef = .pointer (some ⟨g1, 0, none⟩)) (hq : a.tmps.getD q undef = .pointer (some ⟨g2, 0, none⟩)) (hd : a.defers = []) (h1 : Has w g1 86 c1) (h2 : Has w g2 86 c2) (hc1 : c1.size = 2) (hc2 : c2.size = 2)
    (hR : R (.returned (.tuple #[.agg c1, .agg c2])) w) : bodyPost Tryd.prog fn R .ret a w :=
  bodyPost_ret (v := .tuple #[.agg c1, .agg c2]) (by
    rw [results_parts h, hp, hq]
    simp [asAddr, partWhole h1 hc1, partWhole h2 hc2, Result.andThen]) hd hR

set_option maxHeartbeats 4000000 in
theorem shHalves_any (a n : Nat) (w : World) (h2 : 2 ≤ n) (hn : n ≤ 65536) (ha : a ≤ 65536) :
    Calls Tryd.prog 47 #[.agg #[.int .i64 (a : Int), .int .i64 (n : Int)]] w fun e w' =>
      e = .returned (.tuple #[.agg #[.int .i64 (a : Int), .int .i64 (Mk.below n : Nat)], .agg #[.int .i64 ((a + Mk.below n : Nat) : Int), .int .i64 ((n - Mk.below n : Nat) : Int)]]) ∧ Below w.heap.size w w' := by
  have hL := fun W => len_any ((n : Int) - 1) W (by omega) (by omega)
  have hl := Mk.log_le (x := n - 1) (by omega) (by omega)
  have hlt := Mk.below_lt h2
  unfold Mk.below at hlt ⊢
  rw [show ((n : Int) - 1).toNat = n - 1 from by omega, Mk.bitLen_log _ (by omega) (by omega)] at hL
  generalize Nat.log2 (n - 1) = k at hL hl hlt ⊢
  have hw2 := wrap_two k hl
  generalize 2 ^ k = p at *
  have HL := Lib.hid hL; clear hL
  have hm1 : ((k + 1 : Nat) : Int) - 1 = (k : Int) := by omega
  rw [show ((a + p : Nat) : Int) = (a : Int) + (p : Int) from by omega, show ((n - p : Nat) : Int) = (n : Int) - (p : Int) from by omega]
  have HW := Lib.hid hw2; clear hw2
  go_enter Tryd.func47, Tryd.ntmps47
  go_wp2_with fail
  refine (HL.out _).mono ?_
  rintro e w1 ⟨rfl, rfl⟩
  go_upto_region 2 with (fail)
  rw [HW.out]
  clear hm1 HL
  have hb0 : Below w.heap.size w (((w.alloc (.cells #[.int .i64 (a : Int), .int .i64 (n : Int)] 86)).alloc (.cells #[.int .i64 0, .int .i64 0] 86)).alloc (.cells #[.int .i64 0, .int .i64 0] 86)) := ((belowB w _).trans ((belowB _ _).mono (by simp))).trans ((belowB _ _).mono (by simp; omega))
  have hH0 : Has (((w.alloc (.cells #[.int .i64 (a : Int), .int .i64 (n : Int)] 86)).alloc (.cells #[.int .i64 0, .int .i64 0] 86)).alloc (.cells #[.int .i64 0, .int .i64 0] 86)) w.heap.size 86 #[.int .i64 (a : Int), .int .i64 (n : Int)] := ((Has.made w 86 _).of_alloc _).of_alloc _
  have hH1 : Has (((w.alloc (.cells #[.int .i64 (a : Int), .int .i64 (n : Int)] 86)).alloc (.cells #[.int .i64 0, .int .i64 0] 86)).alloc (.cells #[.int .i64 0, .int .i64 0] 86)) (w.heap.size + 1) 86 #[.int .i64 0, .int .i64 0] := by
    have := (Has.made (w.alloc (.cells #[.int .i64 (a : Int), .int .i64 (n : Int)] 86)) 86 #[.int .i64 0, .int .i64 0]).of_alloc (.cells #[.int .i64 0, .int .i64 0] 86)
    simpa using this
  have hH2 : Has (((w.alloc (.cells #[.int .i64 (a : Int), .int .i64 (n : Int)] 86)).alloc (.cells #[.int .i64 0, .int .i64 0] 86)).alloc (.cells #[.int .i64 0, .int .i64 0] 86)) (w.heap.size + 1 + 1) 86 #[.int .i64 0, .int .i64 0] := by
    have := Has.made ((w.alloc (.cells #[.int .i64 (a : Int), .int .i64 (n : Int)] 86)).alloc (.cells #[.int .i64 0, .int .i64 0] 86)) 86 #[.int .i64 0, .int .i64 0]
    simpa using this
  have hsz : (((w.alloc (.cells #[.int .i64 (a : Int), .int .i64 (n : Int)] 86)).alloc (.cells #[.int .i64 0, .int .i64 0] 86)).alloc (.cells #[.int .i64 0, .int .i64 0] 86)).heap.size = w.heap.size + 1 + 1 + 1 := by simp
  generalize ((w.alloc (.cells #[.int .i64 (a : Int), .int .i64 (n : Int)] 86)).alloc (.cells #[.int .i64 0, .int .i64 0] 86)).alloc (.cells #[.int .i64 0, .int .i64 0] 86) = W0 at *
  have c0 := hH0.cell 0
  have c1 := hH0.cell 1
  have d0 := hH1.cell 0
  have d1 := hH1.cell 1
  have e0 := hH2.cell 0
  have e1 := hH2.cell 1
  have f0 := hH1.free 0
  have f1 := hH1.free 1
  have k0 := hH2.free 0
  have k1 := hH2.free 1
  have HH := Lib.hid (And.intro hb0 (And.intro hH1 hH2)); clear hb0 hH0 hH1 hH2
  go_region
  go_wp2_with fail
  have g1 : Has ((((W0.setCell ⟨w.heap.size + 1, 0, none⟩ (.int .i64 (a : Int))).setCell ⟨w.heap.size + 1, 1, none⟩ (.int .i64 (p : Int))).setCell ⟨w.heap.size + 1 + 1, 0, none⟩ (.int .i64 ((a : Int) + (p : Int)))).setCell ⟨w.heap.size + 1 + 1, 1, none⟩ (.int .i64 ((n : Int) - (p : Int)))) (w.heap.size + 1) 86 #[.int .i64 (a : Int), .int .i64 (p : Int)] := by
    have := (((HH.out.2.1.set 0 (.int .i64 (a : Int))).set 1 (.int .i64 (p : Int))).other (p := ⟨w.heap.size + 1 + 1, 0, none⟩) (by show w.heap.size + 1 ≠ w.heap.size + 1 + 1; omega) (.int .i64 ((a : Int) + (p : Int)))).other (p := ⟨w.heap.size + 1 + 1, 1, none⟩) (by show w.heap.size + 1 ≠ w.heap.size + 1 + 1; omega) (.int .i64 ((n : Int) - (p : Int)))
    simpa using this
  have g2 : Has ((((W0.setCell ⟨w.heap.size + 1, 0, none⟩ (.int .i64 (a : Int))).setCell ⟨w.heap.size + 1, 1, none⟩ (.int .i64 (p : Int))).setCell ⟨w.heap.size + 1 + 1, 0, none⟩ (.int .i64 ((a : Int) + (p : Int)))).setCell ⟨w.heap.size + 1 + 1, 1, none⟩ (.int .i64 ((n : Int) - (p : Int)))) (w.heap.size + 1 + 1) 86 #[.int .i64 ((a : Int) + (p : Int)), .int .i64 ((n : Int) - (p : Int))] := by
    have := ((((HH.out.2.2.other (p := ⟨w.heap.size + 1, 0, none⟩) (by show w.heap.size + 1 + 1 ≠ w.heap.size + 1; omega) (.int .i64 (a : Int))).other (p := ⟨w.heap.size + 1, 1, none⟩) (by show w.heap.size + 1 + 1 ≠ w.heap.size + 1; omega) (.int .i64 (p : Int))).set 0 (.int .i64 ((a : Int) + (p : Int)))).set 1 (.int .i64 ((n : Int) - (p : Int))))
    simpa using this
  have hv := (((Mv.of_only (Only.set W0 (w.heap.size + 1) 0 (.int .i64 (a : Int))) (s := [w.heap.size + 1, w.heap.size + 1 + 1]) (by simp)).trans (Mv.of_only (Only.set _ (w.heap.size + 1) 1 (.int .i64 (p : Int))) (by simp))).trans (Mv.of_only (Only.set _ (w.heap.size + 1 + 1) 0 (.int .i64 ((a : Int) + (p : Int)))) (by simp))).trans (Mv.of_only (Only.set _ (w.heap.size + 1 + 1) 1 (.int .i64 ((n : Int) - (p : Int)))) (by simp))
  have hfin := hv.drew.below HH.out.1 (by omega) (fun x hx => by simp only [List.mem_cons, List.not_mem_nil, or_false] at hx; omega)
  exact ret_parts (p := 2) (q := 3) rfl (w.heap.size + 1) (w.heap.size + 1 + 1) _ _ rfl rfl rfl g1 g2 rfl rfl ⟨rfl, hfin⟩

theorem cmpNan_any (x : Int) (w : World) : Calls Tryd.prog 64 #[.int .i64 x] w fun e w' => e = .returned (.bool false) ∧ w' = w := by
  have hx : (x != x) = false := by simp
  go_enter Tryd.func64, Tryd.ntmps64
  go_wp2_with fail
  go_ret
  exact ⟨rfl, rfl⟩
theorem slcNan_any (x : Int) (w : World) : Calls Tryd.prog 60 #[.int .i64 x] w fun e w' => e = .returned (.bool false) ∧ w' = w := by
  have hx : (x != x) = false := by simp
  go_enter Tryd.func60, Tryd.ntmps60
  go_wp2_with fail
  go_ret
  exact ⟨rfl, rfl⟩
set_option maxHeartbeats 1000000 in
theorem less_any (x y : Int) (w : World) : Calls Tryd.prog 59 #[.int .i64 x, .int .i64 y] w fun e w' => e = .returned (.bool (decide (x < y))) ∧ w' = w := by
  have HC := Lib.hid (fun W => cmpNan_any x W)
  by_cases h : x < y
  · go_enter Tryd.func59, Tryd.ntmps59
    go_wp2_with fail
    refine (HC.out _).mono ?_
    rintro e w1 ⟨rfl, rfl⟩
    go_wp2_with fail
    go_ret
    exact ⟨by simp [h], rfl⟩
  · go_enter Tryd.func59, Tryd.ntmps59
    go_wp2_with fail
    refine (HC.out _).mono ?_
    rintro e w1 ⟨rfl, rfl⟩
    go_wp2_with fail
    go_ret
    exact ⟨by simp [], rfl⟩

/-- What stands ahead of i is smaller than x; what stands from i on is not. -/
def Sht.Low (L : List Int) (x : Int) (i : Nat) : Prop := ∀ t (ht : t < L.length), t < i → L[t] < x
def Sht.High (L : List Int) (x : Int) (i : Nat) : Prop := ∀ t (ht : t < L.length), i ≤ t → x ≤ L[t]
namespace Sht
theorem bs_left {L : List Int} (hp : Rise L) {h : Nat} (hl : h < L.length) {x : Int} (hx : L[h] < x) : Low L x (h + 1) := fun t ht hth => by
  by_cases e : t = h
  · subst e; exact hx
  · have := List.pairwise_iff_getElem.1 hp t h ht hl (by omega)
    omega
theorem bs_right {L : List Int} (hp : Rise L) {h : Nat} (hl : h < L.length) {x : Int} (hx : ¬ L[h] < x) : High L x h := fun t ht hth => by
  by_cases e : t = h
  · subst e; omega
  · have := List.pairwise_iff_getElem.1 hp h t hl ht (by omega)
    omega
end Sht
def BsPost (L : List Int) (x : Int) (w : World) (e : Ending) (w' : World) : Prop :=
  ∃ (i : Nat) (f : Bool), e = .returned (.tuple #[.int .i64 (i : Int), .bool f]) ∧ i ≤ L.length ∧ Sht.Low L x i ∧ Sht.High L x i ∧ Below w.heap.size w w'
set_option maxHeartbeats 4000000 in
theorem bsearch_any (A : Option Addr) (cap : Nat) (L : List Int) (x : Int) (s : List Nat) (w : World) (h : RowI w s A L) (hp : Sht.Rise L) (hl : L.length ≤ 1000) (hc : L.length ≤ cap) (hb : cap ≤ 9223372036854775807) :
    Calls Tryd.prog 52 #[.slice A L.length cap, .int .i64 x] w (BsPost L x w) := by
  have HL := Lib.hid (fun y W => less_any y x W)
  have HN := Lib.hid (fun y W => slcNan_any y W)
  have HP := Lib.hid hp; clear hp
  go_enter Tryd.func52, Tryd.ntmps52
  go_wp2_with fail
  go_loopw [7, 8] (fun v7 v8 wr => ∃ i j : Nat, v7 = .int .i64 (i : Int) ∧ v8 = .int .i64 (j : Int) ∧ i ≤ j ∧ j ≤ L.length ∧ Sht.Low L x i ∧ Sht.High L x j ∧ wr = w) (fun v7 v8 _ => (intOf v8).toNat - (intOf v7).toNat)
  case atStart => exact ⟨0, L.length, rfl, rfl, Nat.zero_le _, Nat.le_refl _, (fun t _ h => absurd h (Nat.not_lt_zero _)), (fun t ht h => absurd ht (by omega)), rfl⟩
  case round =>
    obtain ⟨i, j, rfl, rfl, hij, hjl, HI, HJ, rfl⟩ := hrel
    by_cases hlt : i < j
    · obtain ⟨m, hm⟩ : ∃ m, (i + j) / 2 = m := ⟨_, rfl⟩
      have hml : m < L.length := by omega
      have h1 : ((i : Int) + (j : Int)) / 2 = (m : Int) := by omega
      obtain ⟨b, off, rfl, hcell⟩ := RowI.get h m hml
      have hle := fun hx => Sht.bs_left HP.out hml (x := x) hx
      have hri := fun hx => Sht.bs_right HP.out hml (x := x) hx
      have hm1 : i ≤ m := by omega
      have hm2 : m < j := by omega
      clear hm
      by_cases hx : L[m]'hml < x
      · have HE := Lib.hid (hle hx)
        clear hle hri
        obtain ⟨y, hy⟩ : ∃ y, L[m]'hml = y := ⟨_, rfl⟩
        rw [hy] at hcell hx
        clear hy
        have hd : decide (y < x) = true := decide_eq_true hx
        obtain ⟨n, hN⟩ : ∃ n, L.length = n := ⟨_, rfl⟩
        have HN' := Lib.hid hN
        rw [hN] at hjl hml hl hc ⊢
        clear hN
        go_wp2_with fail
        refine (HL.out _ _).mono ?_
        rintro e w1 ⟨rfl, rfl⟩
        go_wp2_with fail
        go_roundw
        case rel => exact ⟨m + 1, j, by go_num, rfl, by omega, hjl, HE.out, HJ, trivial⟩
        case measure => simp [intOf]; omega
      · have HE := Lib.hid (hri hx)
        clear hle hri
        obtain ⟨y, hy⟩ : ∃ y, L[m]'hml = y := ⟨_, rfl⟩
        rw [hy] at hcell hx
        clear hy
        have hd : decide (y < x) = false := decide_eq_false hx
        obtain ⟨n, hN⟩ : ∃ n, L.length = n := ⟨_, rfl⟩
        have HN' := Lib.hid hN
        rw [hN] at hjl hml hl hc ⊢
        clear hN
        go_wp2_with fail
        refine (HL.out _ _).mono ?_
        rintro e w1 ⟨rfl, rfl⟩
        go_wp2_with fail
        go_roundw
        case rel => exact ⟨i, m, rfl, rfl, by omega, by omega, HI, HE.out, trivial⟩
        case measure => simp [intOf]; omega
    · have hij2 : i = j := by omega
      subst hij2
      by_cases hin : i < L.length
      · obtain ⟨b, off, rfl, hcell⟩ := RowI.get h i hin
        obtain ⟨y, hy⟩ : ∃ y, L[i]'hin = y := ⟨_, rfl⟩
        rw [hy] at hcell
        clear hy
        obtain ⟨n, hN⟩ : ∃ n, L.length = n := ⟨_, rfl⟩
        have HN' := Lib.hid hN
        rw [hN] at hjl hin hl hc ⊢
        clear hN
        have hlt' : (i : Int) < (n : Int) := by omega
        by_cases hyx : y = x
        · have he : (y == x) = true := by simpa using hyx
          have HYX := Lib.hid hyx; clear hyx
          go_wp2_with fail
          go_ret2
          exact ⟨i, _, rfl, by rw [HN'.out]; omega, HI, HJ, Below.refl _ _⟩
        · have he : (y == x) = false := by simpa using hyx
          go_wp2_with fail
          refine (HN.out _ _).mono ?_
          rintro e w1 ⟨rfl, rfl⟩
          go_wp2_with fail
          go_ret2
          exact ⟨i, _, rfl, by rw [HN'.out]; omega, HI, HJ, Below.refl _ _⟩
      · have hlt' : ¬ (i : Int) < (L.length : Int) := by omega
        go_wp2_with fail
        go_ret2
        exact ⟨i, _, rfl, hjl, HI, HJ, Below.refl _ _⟩

/-- Where a part's places end in a row of them. -/
theorem Sht.low_end {A B : List Int} {x : Int} {i : Nat} (ha : ∀ y ∈ A, y < x) (hb : ∀ y ∈ B, x ≤ y) (hi : i ≤ (A ++ B).length) (h1 : Sht.Low (A ++ B) x i) (h2 : Sht.High (A ++ B) x i) : i = A.length := Sht.end_of ha hb hi h1 h2
set_option maxHeartbeats 2000000 in
theorem before_any (Ad : Option Addr) (cap : Nat) (A B : List Int) (x y : Int) (s : List Nat) (w : World) (h : RowI w s Ad (A ++ B)) (hp : Sht.Rise (A ++ B)) (hl : (A ++ B).length ≤ 1000) (hc : (A ++ B).length ≤ cap) (hb : cap ≤ 9223372036854775807) (ha : ∀ t ∈ A, t < x) (hb2 : ∀ t ∈ B, x ≤ t) :
    Calls Tryd.prog 48 #[.slice Ad (A ++ B).length cap, .agg #[.int .i64 x, .int .i64 y]] w fun e w' => e = .returned (.int .i64 (A.length : Int)) ∧ Below w.heap.size w w' := by
  have HE := Lib.hid (fun i hi h1 h2 => Sht.low_end (i := i) ha hb2 hi h1 h2)
  generalize A ++ B = L at *
  generalize A.length = k at *
  have hb0 := belowB w (.cells #[.int .i64 x, .int .i64 y] 86)
  have hS := fun W (hW : Below w.heap.size w W) => bsearch_any Ad cap L x s W (RowC.below h hW) hp hl hc hb
  have HS := Lib.hid hS; clear hS
  clear h hp ha hb2
  go_enter Tryd.func48, Tryd.ntmps48
  go_wp2_with fail
  refine (HS.out _ hb0).mono ?_
  rintro e w1 ⟨i, f, rfl, h1, h2, h3, h4⟩
  have h5 := HE.out i h1 h2 h3
  subst h5
  go_wp2_with fail
  go_ret
  exact ⟨rfl, hb0.trans (h4.mono hb0.size)⟩
end Go.Proofs.YtgjknfphmmlcdaaDoor
