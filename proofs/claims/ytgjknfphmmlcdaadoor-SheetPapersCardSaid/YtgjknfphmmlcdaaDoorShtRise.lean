/-
  The contracts of the program's Rising, areHashes, and of the eighth layer's statements' own rising.
-/
import Derived.Test.YtgjknfphmmlcdaaDoorShtRow
namespace Go.Proofs.YtgjknfphmmlcdaaDoor
open Go.RowKit
set_option linter.unusedVariables false

set_option maxHeartbeats 2000000 in
theorem shRising_any (A : Option Addr) (cap : Nat) (L : List Int) (n : Int) (s : List Nat) (w : World) (h : RowI w s A L) (hc : L.length ≤ cap) (hb : cap ≤ 9223372036854775807) :
    Calls Tryd.prog 22 #[.slice A L.length cap, .int .i64 n] w fun e w' => e = .returned (.bool (Sht.rising L n)) ∧ w' = w := by
  obtain ⟨res, hres⟩ : ∃ r, Sht.rising L n = r := ⟨_, rfl⟩
  rw [hres]
  have HR := Lib.hid hres; clear hres
  go_enter Tryd.func22, Tryd.ntmps22
  go_wp2_with fail
  go_loopw [5, 10] (fun v5 v10 wr => ∃ k : Nat, k ≤ L.length ∧ v10 = .int .i64 (k : Int) ∧ v5 = .int .i64 (Sht.lastOf L k) ∧ Sht.riseTo L n k = true ∧ wr = w) (fun _ v10 _ => L.length - (intOf v10).toNat)
  case atStart => exact ⟨0, Nat.zero_le _, rfl, rfl, rfl, rfl⟩
  case round =>
    obtain ⟨k, hk, rfl, rfl, hall, rfl⟩ := hrel
    by_cases hlt : k < L.length
    · obtain ⟨b, off, rfl, hcell⟩ := RowI.get h k hlt
      have hst := fun h1 h2 => Sht.rise_step hlt hall h1 h2
      have hno := fun h1 => (Sht.rise_stop (n := n) hlt h1).symm.trans HR.out
      have hnx := Sht.lastOf_succ L k hlt
      generalize L[k]'hlt = x at hcell hst hno hnx
      obtain ⟨m, hN⟩ : ∃ n, L.length = n := ⟨_, rfl⟩
      rw [hN] at hlt hk hc ⊢
      by_cases c1 : x ≤ Sht.lastOf L k
      · have HE := Lib.hid (hno (Or.inl c1))
        clear hst hno hnx hN
        generalize Sht.lastOf L k = y at *
        go_wp2_with fail
        go_ret
        exact ⟨congrArg (fun z => Ending.returned (Value.bool z)) HE.out, rfl⟩
      · by_cases c2 : n ≤ x
        · have HE := Lib.hid (hno (Or.inr c2))
          clear hst hno hnx hN
          generalize Sht.lastOf L k = y at *
          have c3 : x ≥ n := c2
          go_wp2_with fail
          go_ret
          exact ⟨congrArg (fun z => Ending.returned (Value.bool z)) HE.out, rfl⟩
        · have HS := Lib.hid (hst (by omega) (by omega))
          have HX := Lib.hid hnx
          clear hst hno hnx hN
          generalize Sht.lastOf L k = y at *
          have c3 : ¬ x ≥ n := c2
          go_wp2_with fail
          go_roundw
          case rel => exact ⟨k + 1, by omega, by go_num, by rw [HX.out], HS.out, trivial⟩
          case measure => simp [intOf]; omega
    · have hkn : k = L.length := by omega
      subst hkn
      have HE := Lib.hid ((Sht.rise_end hall).symm.trans HR.out)
      clear hall
      generalize L.length = m at *
      go_wp2_with fail
      go_ret
      exact ⟨congrArg (fun z => Ending.returned (Value.bool z)) HE.out, rfl⟩

set_option maxHeartbeats 4000000 in
theorem slRising_any (A : Option Addr) (cap : Nat) (L : List Int) (n : Int) (s : List Nat) (w : World) (h : RowI w s A L) (hc : L.length ≤ cap) (hb : cap ≤ 9223372036854775807) :
    Calls Tryd.prog 23 #[.slice A L.length cap, .int .i64 n] w fun e w' => e = .returned (.bool (Sht.rising L n)) ∧ Below w.heap.size w w' := by
  obtain ⟨res, hres⟩ : ∃ r, Sht.rising L n = r := ⟨_, rfl⟩
  rw [hres]
  have HR := Lib.hid hres; clear hres
  go_enter Tryd.func23, Tryd.ntmps23
  go_wp2_with fail
  go_loopw [5] (fun v5 wr => ∃ k : Nat, k ≤ L.length ∧ v5 = .int .i64 (k : Int) ∧ Sht.riseTo L n k = true ∧ Below w.heap.size w wr) (fun v5 _ => L.length - (intOf v5).toNat)
  case atStart => exact ⟨0, Nat.zero_le _, rfl, rfl, Below.refl _ _⟩
  case round =>
    obtain ⟨k, hk, rfl, hall, hbw⟩ := hrel
    by_cases hlt : k < L.length
    · obtain ⟨b, off, rfl, hcell⟩ := RowI.get (RowC.below h hbw) k hlt
      have hst := fun h1 h2 => Sht.rise_step hlt hall h1 h2
      have hno := fun h1 => (Sht.rise_stop (n := n) hlt h1).symm.trans HR.out
      have hge := Sht.last_ge L n k hall
      by_cases h0 : k = 0
      · subst h0
        rw [Sht.lastOf_zero] at hst hno
        have hcell0 : wr.cell? ⟨b, off, none⟩ = some (.int .i64 (L[0]'hlt)) := hcell
        generalize L[0]'hlt = x at hcell hcell0 hst hno
        obtain ⟨m, hN⟩ : ∃ n, L.length = n := ⟨_, rfl⟩
        rw [hN] at hlt hk hc ⊢
        have HBW := Lib.hid hbw; clear hbw
        have z0 : ¬ ((0 : Nat) : Int) > 0 := by omega
        have z1 : (((0 : Nat) : Int) > 0) = False := by simp
        by_cases c1 : x < 0
        · have HE := Lib.hid (hno (Or.inl (by omega)))
          clear hst hno hN hall h
          go_upto_region 4 with (fail)
          go_quiet (fail)
          go_wp2_with fail
          go_ret
          exact ⟨congrArg (fun z => Ending.returned (Value.bool z)) HE.out, belowN HBW.out _⟩
        · by_cases c2 : x ≥ n
          · have HE := Lib.hid (hno (Or.inr c2))
            clear hst hno hN hall h
            go_upto_region 4 with (fail)
            go_quiet (fail)
            go_wp2_with fail
            go_ret
            exact ⟨congrArg (fun z => Ending.returned (Value.bool z)) HE.out, belowN HBW.out _⟩
          · have HS := Lib.hid (hst (by omega) (by omega))
            clear hst hno hN hall h
            go_upto_region 4 with (fail)
            go_quiet (fail)
            go_wp2_with fail
            go_roundw
            case rel => exact ⟨1, by omega, by go_num, HS.out, belowN HBW.out _⟩
            case measure => simp [intOf]; omega
      · obtain ⟨b', off', e', hcell'⟩ := RowI.get (RowC.below h hbw) (k - 1) (by omega)
        injection e' with e'
        injection e' with e1 e2
        subst e1; subst e2
        rw [Sht.lastOf_pos L k (by omega) hk] at hst hno hge
        have hk1 : k - 1 < L.length := by omega
        have hall2 : ∀ x y, L[k]'hlt = x → L[k - 1]'hk1 = y → -1 ≤ y ∧ (y < x → x < n → Sht.riseTo L n (k + 1) = true) ∧ (x ≤ y ∨ n ≤ x → false = res) ∧ wr.cell? ⟨b, off + k, none⟩ = some (.int .i64 x) ∧ wr.cell? ⟨b, off + (k - 1), none⟩ = some (.int .i64 y) := by
          rintro x y rfl rfl
          exact ⟨hge, hst, hno, hcell, hcell'⟩
        clear hst hno hcell hcell' hge
        obtain ⟨hge, hst, hno, hcell, hcell'⟩ := hall2 _ _ rfl rfl
        clear hall2
        revert hge hst hno hcell hcell'
        generalize L[k]'hlt = x
        generalize L[k - 1]'hk1 = y
        intro hge hst hno hcell hcell'
        obtain ⟨m, hN⟩ : ∃ n, L.length = n := ⟨_, rfl⟩
        rw [hN] at hlt hk hc ⊢
        have HBW := Lib.hid hbw; clear hbw
        have z0 : (k : Int) > 0 := by omega
        have z1 : ((k : Int) - 1).toNat = k - 1 := by omega
        have z2 : decide (0 < k) = true := decide_eq_true (by omega)
        by_cases c1 : x < 0
        · have HE := Lib.hid (hno (by
            by_cases q : x ≤ y
            · exact Or.inl q
            · right; omega))
          clear hst hno hN hall h
          go_upto_region 4 with (fail)
          go_quiet (fail)
          go_wp2_with fail
          go_ret
          exact ⟨congrArg (fun z => Ending.returned (Value.bool z)) HE.out, belowN HBW.out _⟩
        · by_cases c2 : x ≥ n
          · have HE := Lib.hid (hno (Or.inr c2))
            clear hst hno hN hall h
            go_upto_region 4 with (fail)
            go_quiet (fail)
            go_wp2_with fail
            go_ret
            exact ⟨congrArg (fun z => Ending.returned (Value.bool z)) HE.out, belowN HBW.out _⟩
          · by_cases c3 : y ≥ x
            · have HE := Lib.hid (hno (Or.inl c3))
              clear hst hno hN hall h
              go_upto_region 4 with (fail)
              go_quiet (fail)
              go_wp2_with fail
              go_ret
              exact ⟨congrArg (fun z => Ending.returned (Value.bool z)) HE.out, belowN HBW.out _⟩
            · have HS := Lib.hid (hst (by omega) (by omega))
              clear hst hno hN hall h
              go_upto_region 4 with (fail)
              go_quiet (fail)
              go_wp2_with fail
              go_roundw
              case rel => exact ⟨k + 1, by omega, by go_num, HS.out, belowN HBW.out _⟩
              case measure => simp [intOf]; omega
    · have hkn : k = L.length := by omega
      subst hkn
      have HE := Lib.hid ((Sht.rise_end hall).symm.trans HR.out)
      clear hall h
      generalize L.length = m at *
      go_wp2_with fail
      go_ret
      exact ⟨congrArg (fun z => Ending.returned (Value.bool z)) HE.out, hbw⟩

set_option maxHeartbeats 2000000 in
theorem shHashes_any (A : Option Addr) (cap : Nat) (L : List (List UInt8)) (s : List Nat) (w : World) (h : RowS w s A L) (hc : L.length ≤ cap) (hb : cap ≤ 9223372036854775807) :
    Calls Tryd.prog 38 #[.slice A L.length cap] w fun e w' => e = .returned (.bool (Mk.allSums L)) ∧ w' = w := by
  obtain ⟨res, hres⟩ : ∃ r, Mk.allSums L = r := ⟨_, rfl⟩
  rw [hres]
  have HR := Lib.hid hres; clear hres
  go_enter Tryd.func38, Tryd.ntmps38
  go_wp2_with fail
  go_loopw [7] (fun v7 wr => ∃ k : Nat, k ≤ L.length ∧ v7 = .int .i64 (k : Int) ∧ Mk.allSums (L.take k) = true ∧ wr = w) (fun v7 _ => L.length - (intOf v7).toNat)
  case atStart => exact ⟨0, Nat.zero_le _, rfl, rfl, rfl⟩
  case round =>
    obtain ⟨k, hk, rfl, hall, rfl⟩ := hrel
    by_cases hlt : k < L.length
    · obtain ⟨b, off, rfl, hbl, hn, hr⟩ := h (fun e => by rw [e] at hlt; exact absurd hlt (Nat.not_lt_zero _))
      have hcell := hr k hlt
      by_cases h32 : (L[k]'hlt).length = 32
      · have HA := Lib.hid (Mk.allSums_take hlt hall h32)
        generalize L[k]'hlt = x at hcell h32
        obtain ⟨n, hN⟩ : ∃ n, L.length = n := ⟨_, rfl⟩
        rw [hN] at hlt hk hc ⊢
        have hx : (x.length : Int) = 32 := by omega
        go_wp2_with fail
        go_roundw
        case rel => exact ⟨k + 1, by omega, by go_num, HA.out, trivial⟩
        case measure => simp [intOf]; omega
      · have HE := Lib.hid ((Mk.allSums_not hlt h32).symm.trans HR.out)
        clear HR hall
        generalize L[k]'hlt = x at hcell h32
        generalize L.length = n at hlt hk hc ⊢
        have hx : ((x.length : Int) != 32) = true := by simpa using (show ¬ (x.length : Int) = 32 by omega)
        go_wp2_with fail
        go_ret
        exact ⟨congrArg (fun z => Ending.returned (Value.bool z)) HE.out, rfl⟩
    · have hkn : k = L.length := by omega
      rw [hkn, List.take_length] at hall
      have HE := Lib.hid (hall.symm.trans HR.out)
      clear HR hall
      rw [hkn]
      generalize L.length = n at hc ⊢
      go_wp2_with fail
      go_ret
      exact ⟨congrArg (fun z => Ending.returned (Value.bool z)) HE.out, rfl⟩
end Go.Proofs.YtgjknfphmmlcdaaDoor
