/-
  SoL: the texts StaLays, StaSo in one.
-/
import Derived.Shelf.SortM.Plain
import Derived.Shelf.SortM.SortNone
import Derived.Shelf.SlicesE.DeleteFunc
import Derived.Test.YtojemaaljjibiaaProg
import Derived.Test.YtojemaaljjibiaaPCpCl
import Derived.Lib.SlKeysI
import Derived.Sort.OwnSorted
import Derived.Sort.KeysCollected
import Derived.Deep.LoopGhost
import Derived.Deep.DeepCutAuto
import Derived.Deep.CutBlock
namespace Go.Proofs.Ytojemaaljjibiaa
open Go.Shelf
def lSortI_ren : Go.Shelf.Ren := ⟨fun | 5 => 48 | 8 => 68 | 7 => 67 | 19 => 90 | 20 => 91 | 10 => 81 | 11 => 82 | 12 => 83 | 13 => 84 | 14 => 85 | 15 => 86 | 16 => 87 | 17 => 88 | 18 => 89 | 30 => 108 | 31 => 109 | 32 => 110 | 33 => 111 | 34 => 112 | 35 => 113 | 40 => 118 | n => n, fun | 23 => 63 | 25 => 3 | 3 => 3 | 32 => 102 | 22 => 63 | 0 => 0 | 44 => 126 | 46 => 128 | 4 => 4 | 36 => 120 | 35 => 119 | 41 => 83 | 5 => 5 | 9 => 9 | 53 => 142 | 57 => 146 | 63 => 152 | 64 => 153 | n => n, fun | n => n⟩
theorem lSortI : Go.Proofs.SlLaysM.n5 Try.prog lSortI_ren := {
  mixed := by kernel_rfl
  f5 := ⟨Try.f48.name, by decide, Try.func48.trans (congrArg some (by kernel_rfl))⟩
  f7 := ⟨Try.f67.name, by decide, Try.func67.trans (congrArg some (by kernel_rfl))⟩
  f8 := Try.func68.trans (congrArg some (by kernel_rfl))
  f10 := ⟨Try.f81.name, by decide, Try.func81.trans (congrArg some (by kernel_rfl))⟩
  f11 := ⟨Try.f82.name, by decide, Try.func82.trans (congrArg some (by kernel_rfl))⟩
  f12 := ⟨Try.f83.name, by decide, Try.func83.trans (congrArg some (by kernel_rfl))⟩
  f13 := ⟨Try.f84.name, by decide, Try.func84.trans (congrArg some (by kernel_rfl))⟩
  f14 := ⟨Try.f85.name, by decide, Try.func85.trans (congrArg some (by kernel_rfl))⟩
  f15 := ⟨Try.f86.name, by decide, Try.func86.trans (congrArg some (by kernel_rfl))⟩
  f16 := ⟨Try.f87.name, by decide, Try.func87.trans (congrArg some (by kernel_rfl))⟩
  f17 := ⟨Try.f88.name, by decide, Try.func88.trans (congrArg some (by kernel_rfl))⟩
  f18 := ⟨Try.f89.name, by decide, Try.func89.trans (congrArg some (by kernel_rfl))⟩
  f19 := Try.func90.trans (congrArg some (by kernel_rfl))
  f20 := Try.func91.trans (congrArg some (by kernel_rfl))
  f30 := ⟨Try.f108.name, by decide, Try.func108.trans (congrArg some (by kernel_rfl))⟩
  f31 := Try.func109.trans (congrArg some (by kernel_rfl))
  f32 := Try.func110.trans (congrArg some (by kernel_rfl))
  f33 := ⟨Try.f111.name, by decide, Try.func111.trans (congrArg some (by kernel_rfl))⟩
  f34 := ⟨Try.f112.name, by decide, Try.func112.trans (congrArg some (by kernel_rfl))⟩
  f35 := ⟨Try.f113.name, by decide, Try.func113.trans (congrArg some (by kernel_rfl))⟩
  f40 := ⟨Try.f118.name, by decide, Try.func118.trans (congrArg some (by kernel_rfl))⟩
  t0 := Try.underlying0
  a0 := Try.isAgg0
  z0 := Try.sizeOf0
  v0 := Try.zeroValue0
  t3 := Try.underlying3
  a3 := Try.isAgg3
  z3 := Try.sizeOf3
  v3 := Try.zeroValue3
  t4 := Try.underlying4
  a4 := Try.isAgg4
  z4 := Try.sizeOf4
  v4 := Try.zeroValue4
  t5 := Try.underlying5
  a5 := Try.isAgg5
  z5 := Try.sizeOf5
  v5 := Try.zeroValue5
  t9 := Try.underlying9
  a9 := Try.isAgg9
  z9 := Try.sizeOf9
  v9 := Try.zeroValue9
  t22 := Try.underlying63
  a22 := Try.isAgg63
  z22 := Try.sizeOf63
  v22 := Try.zeroValue63
  t23 := Try.underlying63
  a23 := Try.isAgg63
  z23 := Try.sizeOf63
  v23 := Try.zeroValue63
  t25 := Try.underlying3
  a25 := Try.isAgg3
  z25 := Try.sizeOf3
  v25 := Try.zeroValue3
  t32 := Try.underlying102
  a32 := Try.isAgg102
  z32 := Try.sizeOf102
  v32 := Try.zeroValue102
  t35 := Try.underlying119
  a35 := Try.isAgg119
  z35 := Try.sizeOf119
  v35 := Try.zeroValue119
  t36 := Try.underlying120
  a36 := Try.isAgg120
  z36 := Try.sizeOf120
  v36 := Try.zeroValue120
  t41 := Try.underlying83
  a41 := Try.isAgg83
  z41 := Try.sizeOf83
  v41 := Try.zeroValue83
  t44 := Try.underlying126
  a44 := Try.isAgg126
  z44 := Try.sizeOf126
  v44 := Try.zeroValue126
  t46 := Try.underlying128
  a46 := Try.isAgg128
  z46 := Try.sizeOf128
  v46 := Try.zeroValue128
  t53 := Try.underlying142
  a53 := Try.isAgg142
  z53 := Try.sizeOf142
  v53 := Try.zeroValue142
  t57 := Try.underlying146
  a57 := Try.isAgg146
  z57 := Try.sizeOf146
  v57 := Try.zeroValue146
  t63 := Try.underlying152
  a63 := Try.isAgg152
  z63 := Try.sizeOf152
  v63 := Try.zeroValue152
  t64 := Try.underlying153
  a64 := Try.isAgg153
  z64 := Try.sizeOf153
  v64 := Try.zeroValue153 }
def lSortT_ren : Go.Shelf.Ren := ⟨fun | 6 => 62 | 8 => 68 | 9 => 75 | 19 => 90 | 20 => 91 | 21 => 93 | 22 => 94 | 23 => 95 | 24 => 96 | 25 => 97 | 26 => 98 | 27 => 99 | 28 => 100 | 29 => 101 | 36 => 114 | 31 => 109 | 32 => 110 | 37 => 115 | 38 => 116 | 39 => 117 | 41 => 119 | n => n, fun | 27 => 31 | 29 => 9 | 3 => 3 | 32 => 102 | 26 => 31 | 0 => 0 | 44 => 126 | 46 => 128 | 4 => 4 | 36 => 120 | 35 => 119 | 41 => 83 | 5 => 5 | 9 => 9 | 53 => 142 | 57 => 146 | 63 => 152 | 64 => 153 | n => n, fun | n => n⟩
theorem lSortT : Go.Proofs.SlLaysM.n6 Try.prog lSortT_ren := {
  mixed := by kernel_rfl
  f6 := ⟨Try.f62.name, by decide, Try.func62.trans (congrArg some (by kernel_rfl))⟩
  f8 := Try.func68.trans (congrArg some (by kernel_rfl))
  f9 := ⟨Try.f75.name, by decide, Try.func75.trans (congrArg some (by kernel_rfl))⟩
  f19 := Try.func90.trans (congrArg some (by kernel_rfl))
  f20 := Try.func91.trans (congrArg some (by kernel_rfl))
  f21 := ⟨Try.f93.name, by decide, Try.func93.trans (congrArg some (by kernel_rfl))⟩
  f22 := ⟨Try.f94.name, by decide, Try.func94.trans (congrArg some (by kernel_rfl))⟩
  f23 := ⟨Try.f95.name, by decide, Try.func95.trans (congrArg some (by kernel_rfl))⟩
  f24 := ⟨Try.f96.name, by decide, Try.func96.trans (congrArg some (by kernel_rfl))⟩
  f25 := ⟨Try.f97.name, by decide, Try.func97.trans (congrArg some (by kernel_rfl))⟩
  f26 := ⟨Try.f98.name, by decide, Try.func98.trans (congrArg some (by kernel_rfl))⟩
  f27 := ⟨Try.f99.name, by decide, Try.func99.trans (congrArg some (by kernel_rfl))⟩
  f28 := ⟨Try.f100.name, by decide, Try.func100.trans (congrArg some (by kernel_rfl))⟩
  f29 := ⟨Try.f101.name, by decide, Try.func101.trans (congrArg some (by kernel_rfl))⟩
  f31 := Try.func109.trans (congrArg some (by kernel_rfl))
  f32 := Try.func110.trans (congrArg some (by kernel_rfl))
  f36 := ⟨Try.f114.name, by decide, Try.func114.trans (congrArg some (by kernel_rfl))⟩
  f37 := ⟨Try.f115.name, by decide, Try.func115.trans (congrArg some (by kernel_rfl))⟩
  f38 := ⟨Try.f116.name, by decide, Try.func116.trans (congrArg some (by kernel_rfl))⟩
  f39 := ⟨Try.f117.name, by decide, Try.func117.trans (congrArg some (by kernel_rfl))⟩
  f41 := ⟨Try.f119.name, by decide, Try.func119.trans (congrArg some (by kernel_rfl))⟩
  t0 := Try.underlying0
  a0 := Try.isAgg0
  z0 := Try.sizeOf0
  v0 := Try.zeroValue0
  t3 := Try.underlying3
  a3 := Try.isAgg3
  z3 := Try.sizeOf3
  v3 := Try.zeroValue3
  t4 := Try.underlying4
  a4 := Try.isAgg4
  z4 := Try.sizeOf4
  v4 := Try.zeroValue4
  t5 := Try.underlying5
  a5 := Try.isAgg5
  z5 := Try.sizeOf5
  v5 := Try.zeroValue5
  t9 := Try.underlying9
  a9 := Try.isAgg9
  z9 := Try.sizeOf9
  v9 := Try.zeroValue9
  t26 := Try.underlying31
  a26 := Try.isAgg31
  z26 := Try.sizeOf31
  v26 := Try.zeroValue31
  t27 := Try.underlying31
  a27 := Try.isAgg31
  z27 := Try.sizeOf31
  v27 := Try.zeroValue31
  t29 := Try.underlying9
  a29 := Try.isAgg9
  z29 := Try.sizeOf9
  v29 := Try.zeroValue9
  t32 := Try.underlying102
  a32 := Try.isAgg102
  z32 := Try.sizeOf102
  v32 := Try.zeroValue102
  t35 := Try.underlying119
  a35 := Try.isAgg119
  z35 := Try.sizeOf119
  v35 := Try.zeroValue119
  t36 := Try.underlying120
  a36 := Try.isAgg120
  z36 := Try.sizeOf120
  v36 := Try.zeroValue120
  t41 := Try.underlying83
  a41 := Try.isAgg83
  z41 := Try.sizeOf83
  v41 := Try.zeroValue83
  t44 := Try.underlying126
  a44 := Try.isAgg126
  z44 := Try.sizeOf126
  v44 := Try.zeroValue126
  t46 := Try.underlying128
  a46 := Try.isAgg128
  z46 := Try.sizeOf128
  v46 := Try.zeroValue128
  t53 := Try.underlying142
  a53 := Try.isAgg142
  z53 := Try.sizeOf142
  v53 := Try.zeroValue142
  t57 := Try.underlying146
  a57 := Try.isAgg146
  z57 := Try.sizeOf146
  v57 := Try.zeroValue146
  t63 := Try.underlying152
  a63 := Try.isAgg152
  z63 := Try.sizeOf152
  v63 := Try.zeroValue152
  t64 := Try.underlying153
  a64 := Try.isAgg153
  z64 := Try.sizeOf153
  v64 := Try.zeroValue153 }
def lDelete_ren : Go.Shelf.Ren := ⟨fun | 10 => 63 | 6 => 76 | n => n, fun | 22 => 31 | 23 => 9 | 25 => 89 | 3 => 3 | 4 => 4 | 0 => 0 | n => n, fun | n => n⟩
theorem lDelete : Go.Proofs.SlLaysH.n10 Try.prog lDelete_ren := {
  mixed := by kernel_rfl
  f6 := ⟨Try.f76.name, by decide, Try.func76.trans (congrArg some (by kernel_rfl))⟩
  f10 := ⟨Try.f63.name, by decide, Try.func63.trans (congrArg some (by kernel_rfl))⟩
  t0 := Try.underlying0
  a0 := Try.isAgg0
  z0 := Try.sizeOf0
  v0 := Try.zeroValue0
  t3 := Try.underlying3
  a3 := Try.isAgg3
  z3 := Try.sizeOf3
  v3 := Try.zeroValue3
  t4 := Try.underlying4
  a4 := Try.isAgg4
  z4 := Try.sizeOf4
  v4 := Try.zeroValue4
  t22 := Try.underlying31
  a22 := Try.isAgg31
  z22 := Try.sizeOf31
  v22 := Try.zeroValue31
  a23 := Try.isAgg9
  z23 := Try.sizeOf9
  t25 := Try.underlying89
  a25 := Try.isAgg89
  z25 := Try.sizeOf89
  v25 := Try.zeroValue89 }
end Go.Proofs.Ytojemaaljjibiaa

namespace Go.Proofs.Ytojemaaljjibiaa
open Go.RowKit Go.Shelf Go.Lib Go.Sort
set_option linter.unusedVariables false

/-- Numbers in order. -/
def leN (x y : Int) : Bool := decide (x ≤ y)
theorem sortN_any {W : World} {B : Nat} {v : Value} {L : List Int} (hrow : W.ownsRow B 3 1 v L.length (ivs L)) (hl : L.length ≤ 1000000) :
    Calls Try.prog 48 #[v] W fun r w' => r = .returned (.tuple #[]) ∧ w'.ownsRow B 3 1 v L.length (ivs (L.mergeSort leN)) ∧ W.grownBy w' v.ownBlock := by
  rcases hrow.2 with ⟨rfl, hz⟩ | ⟨g, cap, cur, rfl, hbase, hgb, r1, r2, r3, r4⟩
  · obtain rfl : L = [] := List.eq_nil_of_length_eq_zero hz
    refine (AnyM.slices_Sort_int_none lSortI none 0 W).mono ?_
    rintro e w' ⟨rfl, rfl⟩
    exact ⟨rfl, by simpa [ivs] using hrow, ⟨rfl, rfl, rfl, Nat.le_refl _, fun _ _ _ => rfl⟩⟩
  · have hH : Holds encZ W g 0 L.toArray := holds_of_block_i hgb (by rw [Nat.mul_one] at r4; exact r4)
    have hgl : g < W.heap.size := (Array.getElem?_eq_some_iff.1 hgb).1
    refine (AnyM.slices_Sort_int lSortI g 0 cap L W hH hgl (by omega)).mono ?_
    rintro e w' ⟨rfl, n, os, rfl⟩
    exact ⟨rfl, ownsRow_sorted_i (ts := L.mergeSort leN) (by simp) hbase hgb r1 r2 r3, grownBy_sorted_i _⟩
theorem sortT_any {W : World} {B : Nat} {v : Value} {L : List (List UInt8)} (hrow : W.ownsRow B 9 1 v L.length (tvs L)) (hl : L.length ≤ 1000000) :
    Calls Try.prog 62 #[v] W fun r w' => r = .returned (.tuple #[]) ∧ w'.ownsRow B 9 1 v L.length (tvs (L.mergeSort leB)) ∧ W.grownBy w' v.ownBlock := by
  rcases hrow.2 with ⟨rfl, hz⟩ | ⟨g, cap, cur, rfl, hbase, hgb, r1, r2, r3, r4⟩
  · obtain rfl : L = [] := List.eq_nil_of_length_eq_zero hz
    refine (AnyM.slices_Sort_string_none lSortT none 0 W).mono ?_
    rintro e w' ⟨rfl, rfl⟩
    exact ⟨rfl, by simpa [tvs] using hrow, ⟨rfl, rfl, rfl, Nat.le_refl _, fun _ _ _ => rfl⟩⟩
  · have hH : Holds encStr W g 0 L.toArray := holds_of_block hgb (by rw [Nat.mul_one] at r4; exact r4)
    have hgl : g < W.heap.size := (Array.getElem?_eq_some_iff.1 hgb).1
    refine (AnyM.slices_Sort_string lSortT g 0 cap L W hH hgl (by omega)).mono ?_
    rintro e w' ⟨rfl, n, os, rfl⟩
    exact ⟨rfl, ownsRow_sorted (ts := L.mergeSort leB) (by simp) hbase hgb r1 r2 r3, grownBy_sorted _⟩
set_option maxRecDepth 100000 in
theorem indexT_any {w : World} {A : Option Addr} {ca : Nat} {L : List (List UInt8)} (h : RowC w [] A (tvs L)) (hc : L.length ≤ ca) (hl : L.length ≤ 1000000) (x : List UInt8) :
    Calls Try.prog 74 #[.slice A L.length ca, .string (S x)] w fun r w' => ∃ i : Int, r = .returned (.int .i64 i) ∧ (0 ≤ i ↔ x ∈ L) ∧ w' = w := by
  have HR := Lib.hid h
  have HCA := Lib.hid (And.intro hc hl)
  clear h hc hl
  go_enter Try.func74, Try.ntmps74
  go_wp2_with fail
  go_loopg [8] L.length (fun m v8 wr => ∃ k : Nat, k + m = L.length ∧ v8 = .int .i64 (k : Int) ∧ Hid (∀ j (hj : j < L.length), j < k → L[j] ≠ x) ∧ wr = w)
  case atStart => exact ⟨0, Nat.zero_add _, rfl, Lib.hid (fun j hj h0 => by omega), rfl⟩
  case round =>
    obtain ⟨k, hkm, rfl, HN, hw⟩ := hrel
    subst wr
    cases gk with
    | zero =>
      have hlt : ¬ (k : Int) < (L.length : Int) := by omega
      obtain rfl : k = L.length := by omega
      go_wp2_with fail
      go_ret
      refine ⟨_, rfl, ⟨fun h => by omega, fun hx => ?_⟩, rfl⟩
      obtain ⟨j, hj, e⟩ := List.getElem_of_mem hx
      exact absurd e (HN.out j hj hj)
    | succ m =>
      have hlt : (k : Int) < (L.length : Int) := by omega
      have hk : k < L.length := by omega
      have hk0 : (0 : Int) ≤ (k : Int) := by omega
      have hkc : (k : Int) < (ca : Int) := by have := HCA.out.1; omega
      have hinc : IntKind.i64.wrap ((k : Int) + 1) = (k : Int) + 1 := by rw [IntKind.wrap_i64]; have := HCA.out.2; omega
      obtain ⟨b, off, hA, hb, -, hX⟩ := RowT.get HR.out k hk
      subst hA
      by_cases he : L[k] = x
      · have hbe : (x == L[k]) = true := by rw [beq_iff_eq]; exact he.symm
        go_wp2_with fail
        go_ret
        exact ⟨(k : Int), rfl, ⟨fun _ => he ▸ List.getElem_mem hk, fun _ => hk0⟩, rfl⟩
      · have hbe : (x == L[k]) = false := by rw [beq_eq_false_iff_ne]; exact fun e => he e.symm
        have HKM := Lib.hid hkm
        have HE := Lib.hid he
        clear he hkm
        go_wp2_with fail
        go_roundg m
        case measure => omega
        case rel => exact ⟨k + 1, by have := HKM.out; omega, by go_num, Lib.hid (fun j hj h0 => by
          rcases Nat.lt_or_eq_of_le (Nat.le_of_lt_succ h0) with h1 | h1
          · exact HN.out j hj h1
          · subst h1; exact HE.out), rfl⟩
set_option maxRecDepth 100000 in
theorem containsT_any {w : World} {A : Option Addr} {ca : Nat} {L : List (List UInt8)} (h : RowC w [] A (tvs L)) (hc : L.length ≤ ca) (hl : L.length ≤ 1000000) (x : List UInt8) :
    Calls Try.prog 59 #[.slice A L.length ca, .string (S x)] w fun r w' => r = .returned (.bool (decide (x ∈ L))) ∧ w' = w := by
  have HX := Lib.hid (indexT_any h hc hl x)
  clear h hc hl
  go_enter Try.func59, Try.ntmps59
  go_wp2_with fail
  refine HX.out.mono ?_
  rintro r w1 ⟨i, rfl, hi, hw1⟩
  subst w1
  have HI := Lib.hid hi
  clear hi
  go_wp2_with fail
  go_ret
  refine ⟨?_, rfl⟩
  rw [show decide (x ∈ L) = decide ((0 : Int) ≤ i) from decide_eq_decide.2 HI.out.symm]
  rfl
set_option maxRecDepth 100000 in
theorem indexN_any {w : World} {A : Option Addr} {ca : Nat} {L : List Int} (h : RowC w [] A (ivs L)) (hc : L.length ≤ ca) (hl : L.length ≤ 1000000) (x : Int) :
    Calls Try.prog 73 #[.slice A L.length ca, .int .i64 x] w fun r w' => ∃ i : Int, r = .returned (.int .i64 i) ∧ (0 ≤ i ↔ x ∈ L) ∧ w' = w := by
  have HR := Lib.hid h
  have HCA := Lib.hid (And.intro hc hl)
  clear h hc hl
  go_enter Try.func73, Try.ntmps73
  go_wp2_with fail
  go_loopg [8] L.length (fun m v8 wr => ∃ k : Nat, k + m = L.length ∧ v8 = .int .i64 (k : Int) ∧ Hid (∀ j (hj : j < L.length), j < k → L[j] ≠ x) ∧ wr = w)
  case atStart => exact ⟨0, Nat.zero_add _, rfl, Lib.hid (fun j hj h0 => by omega), rfl⟩
  case round =>
    obtain ⟨k, hkm, rfl, HN, hw⟩ := hrel
    subst wr
    cases gk with
    | zero =>
      have hlt : ¬ (k : Int) < (L.length : Int) := by omega
      obtain rfl : k = L.length := by omega
      go_wp2_with fail
      go_ret
      refine ⟨_, rfl, ⟨fun h => by omega, fun hx => ?_⟩, rfl⟩
      obtain ⟨j, hj, e⟩ := List.getElem_of_mem hx
      exact absurd e (HN.out j hj hj)
    | succ m =>
      have hlt : (k : Int) < (L.length : Int) := by omega
      have hk : k < L.length := by omega
      have hk0 : (0 : Int) ≤ (k : Int) := by omega
      have hkc : (k : Int) < (ca : Int) := by have := HCA.out.1; omega
      have hinc : IntKind.i64.wrap ((k : Int) + 1) = (k : Int) + 1 := by rw [IntKind.wrap_i64]; have := HCA.out.2; omega
      obtain ⟨b, off, hA, hX⟩ := RowI.get HR.out k hk
      subst hA
      by_cases he : L[k] = x
      · have hbe : (x == L[k]) = true := by rw [beq_iff_eq]; exact he.symm
        go_wp2_with fail
        go_ret
        exact ⟨(k : Int), rfl, ⟨fun _ => he ▸ List.getElem_mem hk, fun _ => hk0⟩, rfl⟩
      · have hbe : (x == L[k]) = false := by rw [beq_eq_false_iff_ne]; exact fun e => he e.symm
        have HKM := Lib.hid hkm
        have HE := Lib.hid he
        clear he hkm
        go_wp2_with fail
        go_roundg m
        case measure => omega
        case rel => exact ⟨k + 1, by have := HKM.out; omega, by go_num, Lib.hid (fun j hj h0 => by
          rcases Nat.lt_or_eq_of_le (Nat.le_of_lt_succ h0) with h1 | h1
          · exact HN.out j hj h1
          · subst h1; exact HE.out), rfl⟩
set_option maxRecDepth 100000 in
theorem containsN_any {w : World} {A : Option Addr} {ca : Nat} {L : List Int} (h : RowC w [] A (ivs L)) (hc : L.length ≤ ca) (hl : L.length ≤ 1000000) (x : Int) :
    Calls Try.prog 55 #[.slice A L.length ca, .int .i64 x] w fun r w' => r = .returned (.bool (decide (x ∈ L))) ∧ w' = w := by
  have HX := Lib.hid (indexN_any h hc hl x)
  clear h hc hl
  go_enter Try.func55, Try.ntmps55
  go_wp2_with fail
  refine HX.out.mono ?_
  rintro r w1 ⟨i, rfl, hi, hw1⟩
  subst w1
  have HI := Lib.hid hi
  clear hi
  go_wp2_with fail
  go_ret
  refine ⟨?_, rfl⟩
  rw [show decide (x ∈ L) = decide ((0 : Int) ≤ i) from decide_eq_decide.2 HI.out.symm]
  rfl
/-! what is struck out of a row -/
set_option maxRecDepth 100000 in
theorem delFn_any {W : World} {b0 : Nat} {name : List UInt8} (h : W.cell? ⟨b0, 10, none⟩ = some (.string (S name))) (x : List UInt8) :
    Calls Try.prog 64 (#[encStr x] ++ #[.pointer (some ⟨b0, 0, none⟩)]) W fun r w' => r = .returned (.bool (decide (x = name))) ∧ w' = W := by
  show Calls Try.prog 64 #[.string (S x), .pointer (some ⟨b0, 0, none⟩)] W fun r w' => r = .returned (.bool (decide (x = name))) ∧ w' = W
  by_cases hx : x = name
  · have hb : (x == name) = true := beq_iff_eq.2 hx
    have HD := Lib.hid (decide_eq_true hx)
    clear hx
    go_enter Try.func64, Try.ntmps64
    go_wp2_with fail
    go_ret
    exact ⟨by rw [HD.out]; rfl, rfl⟩
  · have hb : (x == name) = false := beq_eq_false_iff_ne.2 hx
    have HD := Lib.hid (decide_eq_false hx)
    clear hx
    go_enter Try.func64, Try.ntmps64
    go_wp2_with fail
    go_ret
    exact ⟨by rw [HD.out]; rfl, rfl⟩
theorem grow_none (w : World) : grow w #[] = w := by unfold grow; simp
theorem ownsRow_shrink {w : World} {B e n k cap g : Nat} {xs : List Value} (h : w.ownsRow B e 1 (.slice (some ⟨g, 0, none⟩) n cap) n xs) (hk : k ≤ n) : w.ownsRow B e 1 (.slice (some ⟨g, 0, none⟩) k cap) k (xs.take k) := by
  obtain ⟨hl, hh⟩ := h
  rcases hh with ⟨e1, _⟩ | ⟨g', cap', cur, e1, hB, hg, hc, hm, hs, ht⟩
  · cases e1
  · injection e1 with e1 _ e3
    injection e1 with e1
    injection e1 with e1
    subst e1 e3
    refine ⟨by rw [List.length_take]; omega, .inr ⟨g, cap, cur, rfl, hB, hg, by omega, hm, hs, ?_⟩⟩
    rw [← ht, List.take_take]
    congr 1
    omega
theorem strOne : OneCell encStr := fun x => rfl
theorem zeroTxt (w : World) : (zeroValue 9).run Try.prog w = .ok (encStr []) w := by kernel_rfl
set_option maxRecDepth 100000 in
theorem deleteT_any {w : World} {B g cap : Nat} {L : List (List UInt8)} (hrow : w.ownsRow B 9 1 (.slice (some ⟨g, 0, none⟩) L.length cap) L.length (tvs L)) {b0 : Nat} {name : List UInt8} (hc : w.cell? ⟨b0, 10, none⟩ = some (.string (S name))) (hne : b0 ≠ g) (hb0 : b0 < w.heap.size) :
    Calls Try.prog 63 #[.slice (some ⟨g, 0, none⟩) L.length cap, .func (.func 64) #[] #[.pointer (some ⟨b0, 0, none⟩)]] w fun r w' =>
      r = .returned (.slice (some ⟨g, 0, none⟩) (L.filter fun x => decide (x ≠ name)).length cap) ∧ w'.ownsRow B 9 1 (.slice (some ⟨g, 0, none⟩) (L.filter fun x => decide (x ≠ name)).length cap) (L.filter fun x => decide (x ≠ name)).length (tvs (L.filter fun x => decide (x ≠ name))) ∧ w.grownBy w' (some g) := by
  rcases hrow.2 with ⟨e, _⟩ | ⟨g', cap', cur, e, hbase, hgb, r1, r2, r3, r4⟩
  · cases e
  injection e with e1 _ e3
  injection e1 with e1
  injection e1 with e1
  subst e1 e3
  have hH : Holds encStr w g 0 L.toArray := holds_of_block hgb (by rw [Nat.mul_one] at r4; exact r4)
  have hp : PredAt Try.prog 64 #[.pointer (some ⟨b0, 0, none⟩)] encStr (fun x => decide (x = name)) w := fun W x hb => (delFn_any ((hb.cell (p := ⟨b0, 10, none⟩) hb0).trans hc) x).mono (fun e w' ⟨h1, h2⟩ => ⟨h1, 0, by rw [h2]; rfl⟩)
  have hpo : PredOver Try.prog 64 #[.pointer (some ⟨b0, 0, none⟩)] encStr (fun x => decide (x = name)) g 0 L.toArray.size w := fun n os dk x hd => by
    have hgr : w.grownBy (sortWorld encStr w g 0 n dk os) (some g) := grownBy_sorted dk
    have hcell : (sortWorld encStr w g 0 n dk os).cell? ⟨b0, 10, none⟩ = some (.string (S name)) := World.cell_block (hgr.block b0 hb0 (fun e => hne (by injection e))) hc
    exact (delFn_any hcell x).mono (fun e w' ⟨h1, h2⟩ => ⟨h1, 0, by rw [h2]; rfl⟩)
  have hsz : L.toArray.size = L.length := List.size_toArray
  have hmax : L.length ≤ 9223372036854775807 := by simp only [maxLen] at r2; omega
  have hq := AnyE.slices_DeleteFunc lDelete encStr strOne (fun x => decide (x = name)) 64 #[.pointer (some ⟨b0, 0, none⟩)] (enters_of Try.func64 (by kernel_rfl) rfl) [] zeroTxt g 0 cap L.toArray w hp hpo hH (by rw [hsz]; exact hmax) (by rw [hsz]; exact r1)
  rw [hsz] at hq
  have hf : (fun x : List UInt8 => !decide (x = name)) = fun x => decide (x ≠ name) := funext fun x => by simp
  rw [hf] at hq
  refine hq.mono ?_
  rintro r w' ⟨rfl, n, rfl⟩
  have hlen : ((L.filter fun x => decide (x ≠ name)) ++ List.replicate (L.length - (L.filter fun x => decide (x ≠ name)).length) []).length = L.length := by
    have := List.length_filter_le (fun x => decide (x ≠ name)) L
    rw [List.length_append, List.length_replicate]
    omega
  have ho := ownsRow_sorted (n := n) (os := #[]) (ts := (L.filter fun x => decide (x ≠ name)) ++ List.replicate (L.length - (L.filter fun x => decide (x ≠ name)).length) []) hlen hbase hgb r1 r2 r3
  rw [grow_none] at ho
  have hg := grownBy_sorted (w := w) (g := g) (n := n) (os := #[]) ((L.filter fun x => decide (x ≠ name)) ++ List.replicate (L.length - (L.filter fun x => decide (x ≠ name)).length) []).toArray
  rw [grow_none] at hg
  refine ⟨rfl, ?_, hg⟩
  have hs := ownsRow_shrink ho (List.length_filter_le (fun x => decide (x ≠ name)) L)
  rw [List.map_append, List.take_append_of_le_length (by rw [List.length_map]; exact Nat.le_refl _), List.take_of_length_le (by rw [List.length_map]; exact Nat.le_refl _)] at hs
  exact hs
end Go.Proofs.Ytojemaaljjibiaa
