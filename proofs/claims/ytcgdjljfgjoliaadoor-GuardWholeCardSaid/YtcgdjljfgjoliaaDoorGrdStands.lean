/-
  The statements' own stands: does a sector hold something that was put there whole?
-/
import Derived.Test.YtcgdjljfgjoliaaDoorGrdR
import Derived.Test.YtcgdjljfgjoliaaDoorGrdArg
namespace Go.Proofs.YtcgdjljfgjoliaaDoor
open Go.RowKit
set_option linter.unusedVariables false

namespace Grd
theorem ask_no {sc : List GOp} {i sure : Nat} {r : T × Nat × Int} {k : Nat} (h : asks sc i sure k = false) : later sc i sure (k + 1) = later sc i sure k ∧ okTo sc i sure r (k + 1) = okTo sc i sure r k := by
  constructor
  · show (later sc i sure k || (asks sc i sure k && decide (sure < k + 1))) = _
    rw [h, Bool.false_and, Bool.or_false]
  · show (okTo sc i sure r k || okBy sc i sure r k) = _
    unfold okBy
    rw [h, Bool.false_and, Bool.or_false]
theorem ask_yes {sc : List GOp} {i sure : Nat} {r : T × Nat × Int} {k : Nat} {o : GOp} (ho : sc[k]? = some o) (h : asks sc i sure k = true) :
    later sc i sure (k + 1) = (later sc i sure k || decide (sure < k + 1)) ∧ okTo sc i sure r (k + 1) = (okTo sc i sure r k || (if o.kind = 0 then decide (r.2.2 = 7) else decide (r.2.2 = 0) && decide (r.1 = o.s))) := by
  constructor
  · show (later sc i sure k || (asks sc i sure k && decide (sure < k + 1))) = _
    rw [h, Bool.true_and]
  · show (okTo sc i sure r k || okBy sc i sure r k) = _
    unfold okBy
    rw [h, ho, Bool.true_and]
theorem asks_eq {sc : List GOp} {i sure k : Nat} {o : GOp} (ho : sc[k]? = some o) : asks sc i sure k = (decide (o.i = (i : Int)) && decide (o.kind ≠ 1) && decide (sure ≤ k + 1)) := by
  unfold asks
  rw [ho]
end Grd
set_option maxRecDepth 100000 in
set_option maxHeartbeats 4000000 in
theorem stands_any {w : World} {g bd mb : Nat} {d : Dsk.St} (h : DiskAt w g bd mb d) {b off : Nat} {A : Option Addr} {cap : Nat} {L : List Grd.GOp} (hA : OpsAt w b off A L) (hlc : L.length ≤ cap) (hcm : cap ≤ 9223372036854775807)
    (i sure : Nat) (hi : i < 10) (hs : sure ≤ 40) (r : Grd.T × Nat × Int) (hr : Grd.read d (i : Int) = (r.1, (r.2.1 : Int), r.2.2)) :
    Calls Tryd.prog 30 #[.pointer (some ⟨g, 0, none⟩), .slice A L.length cap, .int .i64 (i : Int), .int .i64 (sure : Int)] w fun e w' =>
      e = .returned (.bool (Grd.okTo L i sure r (min L.length 40) || (decide (r.2.2 = 17) && Grd.later L i sure (min L.length 40)))) ∧ Below w.heap.size w w' := by
  have HR := Lib.hid (gread_any h (i : Int))
  rw [hr] at HR
  unfold GReadPost at HR
  clear h hr
  obtain ⟨t0, at0, e0⟩ := r
  dsimp only at HR
  obtain ⟨m, hm⟩ : ∃ m, min L.length 40 = m := ⟨_, rfl⟩
  rw [hm]
  have hm1 : m ≤ 40 := by omega
  have hm2 : m ≤ L.length := by omega
  have hm3 : m = L.length ∨ m = 40 := by omega
  have HAT := Lib.hid hA
  clear hA hm
  have h00 : Grd.okTo L i sure (t0, at0, e0) 0 = (decide (sure = 0) && decide (e0 = 7)) := rfl
  have hl0 : Grd.later L i sure 0 = false := rfl
  have HNO : Hid _ := fun k (hk : Grd.asks L i sure k = false) => Grd.ask_no (r := (t0, at0, e0)) hk
  have HYES : Hid _ := fun k (o : Grd.GOp) (ho : L[k]? = some o) (hk : Grd.asks L i sure k = true) => Grd.ask_yes (r := (t0, at0, e0)) ho hk
  dsimp only at HYES
  have HEQ : Hid _ := fun k (o : Grd.GOp) (ho : L[k]? = some o) => Grd.asks_eq (i := i) (sure := sure) ho
  generalize Grd.okTo L i sure (t0, at0, e0) = OK at h00 HNO HYES ⊢
  generalize Grd.later L i sure = LT at hl0 HNO HYES ⊢
  generalize Grd.asks L i sure = ASK at HNO HYES HEQ
  have H00 := Lib.hid (And.intro h00 hl0)
  clear h00 hl0
  have hls : ((L.length : Nat) : Int) ≤ 9223372036854775807 := by omega
  have ki0 : (0 : Int) ≤ (i : Int) := by omega
  have ks0 : (0 : Int) ≤ (sure : Int) := by omega
  have ks1 : (sure : Int) ≤ 40 := by omega
  have hst : ((sure : Int) == 0) = decide (sure = 0) := by
    by_cases h : sure = 0
    · rw [h]; rfl
    · rw [decide_eq_false h, beq_eq_false_iff_ne]; omega
  have he7 : (e0 == 7) = decide (e0 = 7) := rfl
  go_enter Tryd.func30, Tryd.ntmps30
  go_wp2_with fail
  refine HR.out.mono ?_
  rintro r w1 ⟨rfl, hb⟩
  have HB := Lib.hid hb
  clear hb
  go_upto_region 3 with (fail)
  go_cut [13] from 23 to 28 (fun v13 W => v13 = .bool (OK 0) ∧ W = w1)
  case first =>
    have hO := H00.out.1
    by_cases hz : sure = 0
    · have q0 : ((sure : Int) == 0) = true := by rw [hz]; rfl
      by_cases h7 : e0 = 7
      · have q2 : (e0 == 7) = true := by rw [h7]; rfl
        rw [decide_eq_true hz, decide_eq_true h7] at hO
        have HO := Lib.hid hO
        clear hz h7 hO hst he7
        go_wp2_with fail
        go_meet
        exact ⟨by rw [HO.out]; rfl, rfl⟩
      · have q2 : (e0 == 7) = false := by rw [beq_eq_false_iff_ne]; exact h7
        rw [decide_eq_true hz, decide_eq_false h7] at hO
        have HO := Lib.hid hO
        clear hz h7 hO hst he7
        go_wp2_with fail
        go_meet
        exact ⟨by rw [HO.out]; rfl, rfl⟩
    · have q0 : ((sure : Int) == 0) = false := by rw [beq_eq_false_iff_ne]; omega
      rw [decide_eq_false hz, Bool.false_and] at hO
      have HO := Lib.hid hO
      clear hz hO hst he7
      go_wp2_with fail
      go_meet
      exact ⟨by rw [HO.out], rfl⟩
  case rest =>
    obtain ⟨rfl, rfl⟩ := hcut
    clear hst he7
    go_wp2_with fail
    go_loopw [12, 13, 14] (fun v12 v13 v14 wr => ∃ k : Nat, k ≤ m ∧ v12 = .bool (LT k) ∧ v13 = .bool (OK k) ∧ v14 = .int .i64 (k : Int) ∧ Below w.heap.size w wr) (fun _ _ v14 _ => m - vI v14)
    case atStart => exact ⟨0, Nat.zero_le _, by rw [H00.out.2], rfl, rfl, HB.out⟩
    case round =>
      obtain ⟨k, hk, rfl, rfl, rfl, hb⟩ := hrel
      have hk0 : (0 : Int) ≤ (k : Int) := by omega
      by_cases hlt : k < m
      · have kl : k < L.length := by omega
        have kli : (k : Int) < (L.length : Int) := by omega
        have kci : (k : Int) < (cap : Int) := by omega
        have k40 : (k : Int) < 40 := by omega
        obtain ⟨hA, hbl, hat⟩ := (HAT.out.below hb (Nat.le_refl _)) (fun e => by rw [e] at kl; exact absurd kl (Nat.not_lt_zero _))
        have hx : L[k]? = some (L[k]'kl) := List.getElem?_eq_getElem kl
        have hg := hat k kl
        generalize L[k]'kl = x at hx hg
        clear hat
        subst hA
        obtain ⟨c0, c1, c2⟩ := hg
        have HB2 := Lib.hid (hb.alloc hb.size (.cells #[.int .i64 x.kind, .int .i64 x.i, .string (S x.s)] 53))
        clear hb
        by_cases e1 : x.i = (i : Int)
        · have p1 : (x.i == (i : Int)) = true := by rw [beq_iff_eq]; exact e1
          have p1' : (x.i != (i : Int)) = false := by rw [e1]; simp
          by_cases e2 : x.kind = 1
          · have hno := HNO.out k (by rw [HEQ.out k x hx]; simp only [Bool.and_eq_false_iff, decide_eq_false_iff_not]; exact Or.inl (Or.inr (fun h => h e2)))
            have HN := Lib.hid hno
            have p2 : (x.kind == 1) = true := by rw [beq_iff_eq]; exact e2
            clear e2
            clear hno hx e1
            generalize LT k = C at HN ⊢
            generalize OK k = B at HN ⊢
            go_wp2_with fail
            refine ⟨⟨k + 1, by omega, ?_, ?_, by go_num, HB2.out⟩, ?_⟩
            · rw [HN.out.1]
              try rfl
            · rw [HN.out.2]
              try rfl
            · simp only [vI]
              omega
          · have p2 : (x.kind == 1) = false := by rw [beq_eq_false_iff_ne]; exact e2
            by_cases e3 : sure ≤ k + 1
            · have p3 : ¬ (k : Int) + 1 < (sure : Int) := by omega
              have hy := HYES.out k x hx (by rw [HEQ.out k x hx]; simp only [Bool.and_eq_true, decide_eq_true_eq]; exact ⟨⟨e1, e2⟩, e3⟩)
              clear hx e1 e2 e3
              generalize LT k = C at hy ⊢
              generalize OK k = B at hy ⊢
              by_cases e4 : sure < k + 1
              · have p4 : (sure : Int) < (k : Int) + 1 := by omega
                rw [decide_eq_true e4, Bool.or_true] at hy
                clear e4
                by_cases e5 : x.kind = 0
                · have p5 : (x.kind == 0) = true := by rw [beq_iff_eq]; exact e5
                  rw [if_pos e5] at hy
                  clear e5
                  cases B
                  · by_cases e6 : e0 = 7
                    · have p6 : (e0 == 7) = true := by rw [beq_iff_eq]; exact e6
                      rw [decide_eq_true e6] at hy
                      clear e6
                      have HN := Lib.hid hy
                      clear hy
                      go_wp2_with fail
                      refine ⟨⟨k + 1, by omega, ?_, ?_, by go_num, HB2.out⟩, ?_⟩
                      · rw [HN.out.1]
                        try rfl
                      · rw [HN.out.2]
                        try rfl
                      · simp only [vI]
                        omega
                    · have p6 : (e0 == 7) = false := by rw [beq_eq_false_iff_ne]; exact e6
                      rw [decide_eq_false e6] at hy
                      clear e6
                      have HN := Lib.hid hy
                      clear hy
                      go_wp2_with fail
                      refine ⟨⟨k + 1, by omega, ?_, ?_, by go_num, HB2.out⟩, ?_⟩
                      · rw [HN.out.1]
                        try rfl
                      · rw [HN.out.2]
                        try rfl
                      · simp only [vI]
                        omega
                  · rw [Bool.true_or] at hy
                    have HN := Lib.hid hy
                    clear hy
                    go_wp2_with fail
                    refine ⟨⟨k + 1, by omega, ?_, ?_, by go_num, HB2.out⟩, ?_⟩
                    · rw [HN.out.1]
                      try rfl
                    · rw [HN.out.2]
                      try rfl
                    · simp only [vI]
                      omega
                · have p5 : (x.kind == 0) = false := by rw [beq_eq_false_iff_ne]; exact e5
                  rw [if_neg e5] at hy
                  clear e5
                  by_cases e6 : e0 = 0
                  · have p6 : (e0 == 0) = true := by rw [beq_iff_eq]; exact e6
                    by_cases e7 : t0 = x.s
                    · have p7 : (t0 == x.s) = true := by rw [beq_iff_eq]; exact e7
                      rw [decide_eq_true e6, decide_eq_true e7, Bool.true_and, Bool.or_true] at hy
                      clear e6 e7
                      have HN := Lib.hid hy
                      clear hy
                      go_wp2_with fail
                      refine ⟨⟨k + 1, by omega, ?_, ?_, by go_num, HB2.out⟩, ?_⟩
                      · rw [HN.out.1]
                        try rfl
                      · rw [HN.out.2]
                        try rfl
                      · simp only [vI]
                        omega
                    · have p7 : (t0 == x.s) = false := by rw [beq_eq_false_iff_ne]; exact e7
                      rw [decide_eq_true e6, decide_eq_false e7, Bool.true_and, Bool.or_false] at hy
                      clear e6 e7
                      have HN := Lib.hid hy
                      clear hy
                      go_wp2_with fail
                      refine ⟨⟨k + 1, by omega, ?_, ?_, by go_num, HB2.out⟩, ?_⟩
                      · rw [HN.out.1]
                        try rfl
                      · rw [HN.out.2]
                        try rfl
                      · simp only [vI]
                        omega
                  · have p6 : (e0 == 0) = false := by rw [beq_eq_false_iff_ne]; exact e6
                    rw [decide_eq_false e6, Bool.false_and, Bool.or_false] at hy
                    clear e6
                    have HN := Lib.hid hy
                    clear hy
                    go_wp2_with fail
                    refine ⟨⟨k + 1, by omega, ?_, ?_, by go_num, HB2.out⟩, ?_⟩
                    · rw [HN.out.1]
                      try rfl
                    · rw [HN.out.2]
                      try rfl
                    · simp only [vI]
                      omega
              · have p4 : ¬ (sure : Int) < (k : Int) + 1 := by omega
                rw [decide_eq_false e4, Bool.or_false] at hy
                clear e4
                by_cases e5 : x.kind = 0
                · have p5 : (x.kind == 0) = true := by rw [beq_iff_eq]; exact e5
                  rw [if_pos e5] at hy
                  clear e5
                  cases B
                  · by_cases e6 : e0 = 7
                    · have p6 : (e0 == 7) = true := by rw [beq_iff_eq]; exact e6
                      rw [decide_eq_true e6] at hy
                      clear e6
                      have HN := Lib.hid hy
                      clear hy
                      go_wp2_with fail
                      refine ⟨⟨k + 1, by omega, ?_, ?_, by go_num, HB2.out⟩, ?_⟩
                      · rw [HN.out.1]
                        try rfl
                      · rw [HN.out.2]
                        try rfl
                      · simp only [vI]
                        omega
                    · have p6 : (e0 == 7) = false := by rw [beq_eq_false_iff_ne]; exact e6
                      rw [decide_eq_false e6] at hy
                      clear e6
                      have HN := Lib.hid hy
                      clear hy
                      go_wp2_with fail
                      refine ⟨⟨k + 1, by omega, ?_, ?_, by go_num, HB2.out⟩, ?_⟩
                      · rw [HN.out.1]
                        try rfl
                      · rw [HN.out.2]
                        try rfl
                      · simp only [vI]
                        omega
                  · rw [Bool.true_or] at hy
                    have HN := Lib.hid hy
                    clear hy
                    go_wp2_with fail
                    refine ⟨⟨k + 1, by omega, ?_, ?_, by go_num, HB2.out⟩, ?_⟩
                    · rw [HN.out.1]
                      try rfl
                    · rw [HN.out.2]
                      try rfl
                    · simp only [vI]
                      omega
                · have p5 : (x.kind == 0) = false := by rw [beq_eq_false_iff_ne]; exact e5
                  rw [if_neg e5] at hy
                  clear e5
                  by_cases e6 : e0 = 0
                  · have p6 : (e0 == 0) = true := by rw [beq_iff_eq]; exact e6
                    by_cases e7 : t0 = x.s
                    · have p7 : (t0 == x.s) = true := by rw [beq_iff_eq]; exact e7
                      rw [decide_eq_true e6, decide_eq_true e7, Bool.true_and, Bool.or_true] at hy
                      clear e6 e7
                      have HN := Lib.hid hy
                      clear hy
                      go_wp2_with fail
                      refine ⟨⟨k + 1, by omega, ?_, ?_, by go_num, HB2.out⟩, ?_⟩
                      · rw [HN.out.1]
                        try rfl
                      · rw [HN.out.2]
                        try rfl
                      · simp only [vI]
                        omega
                    · have p7 : (t0 == x.s) = false := by rw [beq_eq_false_iff_ne]; exact e7
                      rw [decide_eq_true e6, decide_eq_false e7, Bool.true_and, Bool.or_false] at hy
                      clear e6 e7
                      have HN := Lib.hid hy
                      clear hy
                      go_wp2_with fail
                      refine ⟨⟨k + 1, by omega, ?_, ?_, by go_num, HB2.out⟩, ?_⟩
                      · rw [HN.out.1]
                        try rfl
                      · rw [HN.out.2]
                        try rfl
                      · simp only [vI]
                        omega
                  · have p6 : (e0 == 0) = false := by rw [beq_eq_false_iff_ne]; exact e6
                    rw [decide_eq_false e6, Bool.false_and, Bool.or_false] at hy
                    clear e6
                    have HN := Lib.hid hy
                    clear hy
                    go_wp2_with fail
                    refine ⟨⟨k + 1, by omega, ?_, ?_, by go_num, HB2.out⟩, ?_⟩
                    · rw [HN.out.1]
                      try rfl
                    · rw [HN.out.2]
                      try rfl
                    · simp only [vI]
                      omega
            · have hno := HNO.out k (by rw [HEQ.out k x hx]; simp only [Bool.and_eq_false_iff, decide_eq_false_iff_not]; exact Or.inr e3)
              have HN := Lib.hid hno
              have p3 : (k : Int) + 1 < (sure : Int) := by omega
              clear e2 e3
              clear hno hx e1
              generalize LT k = C at HN ⊢
              generalize OK k = B at HN ⊢
              go_wp2_with fail
              refine ⟨⟨k + 1, by omega, ?_, ?_, by go_num, HB2.out⟩, ?_⟩
              · rw [HN.out.1]
                try rfl
              · rw [HN.out.2]
                try rfl
              · simp only [vI]
                omega
        · have hno := HNO.out k (by rw [HEQ.out k x hx]; simp only [Bool.and_eq_false_iff, decide_eq_false_iff_not]; exact Or.inl (Or.inl e1))
          have HN := Lib.hid hno
          have p1 : (x.i == (i : Int)) = false := by rw [beq_eq_false_iff_ne]; exact e1
          have p1' : (x.i != (i : Int)) = true := by rw [bne_iff_ne]; exact e1
          clear hno hx e1
          generalize LT k = C at HN ⊢
          generalize OK k = B at HN ⊢
          go_wp2_with fail
          refine ⟨⟨k + 1, by omega, ?_, ?_, by go_num, HB2.out⟩, ?_⟩
          · rw [HN.out.1]
            try rfl
          · rw [HN.out.2]
            try rfl
          · simp only [vI]
            omega
      · have hkm : k = m := by omega
        subst hkm
        have HB2 := Lib.hid hb
        clear hb HNO HYES HEQ H00
        have hend : ¬ (k : Int) < (L.length : Int) ∨ ¬ (k : Int) < 40 := by omega
        obtain ⟨C, hC⟩ : ∃ C, LT k = C := ⟨_, rfl⟩
        obtain ⟨B, hB⟩ : ∃ B, OK k = B := ⟨_, rfl⟩
        rw [hC, hB]
        have HC := Lib.hid hC
        have HBB := Lib.hid hB
        clear hC hB
        rcases hend with he | he
        · cases B
          · by_cases e8 : e0 = 17
            · have p8 : (e0 == 17) = true := by rw [beq_iff_eq]; exact e8
              have E8 := Lib.hid (decide_eq_true e8)
              clear e8
              cases C
              all_goals (
                go_wp2_with fail
                go_ret
                exact ⟨by rw [HC.out, HBB.out, E8.out]; rfl, HB2.out⟩)
            · have p8 : (e0 == 17) = false := by rw [beq_eq_false_iff_ne]; exact e8
              have E8 := Lib.hid (decide_eq_false e8)
              clear e8
              go_wp2_with fail
              go_ret
              exact ⟨by rw [HBB.out, E8.out]; rfl, HB2.out⟩
          · go_wp2_with fail
            go_ret
            exact ⟨by rw [HBB.out]; rfl, HB2.out⟩
        · have hkl : (k : Int) < (L.length : Int) ∨ ¬ (k : Int) < (L.length : Int) := by omega
          rcases hkl with hkl | hkl
          all_goals (
            cases B
            · by_cases e8 : e0 = 17
              · have p8 : (e0 == 17) = true := by rw [beq_iff_eq]; exact e8
                have E8 := Lib.hid (decide_eq_true e8)
                clear e8
                cases C
                all_goals (
                  go_wp2_with fail
                  go_ret
                  exact ⟨by rw [HC.out, HBB.out, E8.out]; rfl, HB2.out⟩)
              · have p8 : (e0 == 17) = false := by rw [beq_eq_false_iff_ne]; exact e8
                have E8 := Lib.hid (decide_eq_false e8)
                clear e8
                go_wp2_with fail
                go_ret
                exact ⟨by rw [HBB.out, E8.out]; rfl, HB2.out⟩
            · go_wp2_with fail
              go_ret
              exact ⟨by rw [HBB.out]; rfl, HB2.out⟩)
end Go.Proofs.YtcgdjljfgjoliaaDoor
