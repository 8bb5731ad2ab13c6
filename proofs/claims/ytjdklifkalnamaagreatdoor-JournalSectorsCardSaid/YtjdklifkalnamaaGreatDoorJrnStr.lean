/-
  What the journal asks of packages strings and slices.
-/
import Derived.Test.YtjdklifkalnamaaGreatDoorJrnLays
import Derived.Test.YtjdklifkalnamaaGreatDoorJrnTxt
import Derived.Test.YtjdklifkalnamaaGreatDoorGrdB
import Derived.Test.YtjdklifkalnamaaGreatDoorDskW
namespace Go.Proofs.YtjdklifkalnamaaGreatDoor
open Go.RowKit
set_option linter.unusedVariables false

theorem hasPre_any (d p : List UInt8) (hd : d.length ≤ 1000000) (hp : p.length ≤ 1000000) (w : World) : Calls Tryz.prog 98 #[.string (S d), .string (S p)] w fun e w' => e = .returned (.bool (decide (d.take p.length = p))) ∧ w' = w := by
  by_cases h : p.length ≤ d.length
  · have h1 : (p.length : Int) ≤ (d.length : Int) := by omega
    have q : (d.take p.length == p) = decide (d.take p.length = p) := by rw [Bool.eq_iff_iff]; simp
    have hb := q
    generalize decide (d.take p.length = p) = b at hb ⊢
    clear q hd hp h
    cases b
    · go_enter Tryz.func98, Tryz.ntmps98
      go_wp2_with fail
      go_ret
      exact ⟨rfl, rfl⟩
    · go_enter Tryz.func98, Tryz.ntmps98
      go_wp2_with fail
      go_ret
      exact ⟨rfl, rfl⟩
  · have h1 : ¬ (p.length : Int) ≤ (d.length : Int) := by omega
    have e : decide (d.take p.length = p) = false := by
      rw [decide_eq_false_iff_not]
      intro e
      have := congrArg List.length e
      rw [List.length_take] at this
      omega
    rw [e]
    clear hd hp h e
    go_enter Tryz.func98, Tryz.ntmps98
    go_wp2_with fail
    go_ret
    exact ⟨rfl, rfl⟩
theorem cutPreL_any (d p : List UInt8) (hd : d.length ≤ 1000000) (hp : p.length ≤ 1000000) (w : World) : Calls Tryz.prog 93 #[.string (S d), .string (S p)] w fun e w' => e = .returned (.tuple #[.string (S (if d.take p.length = p then d.drop p.length else d)), .bool (decide (d.take p.length = p))]) ∧ w' = w := by
  have HH := Lib.hid (hasPre_any d p hd hp w)
  by_cases e : d.take p.length = p
  · rw [if_pos e, decide_eq_true e]
    rw [decide_eq_true e] at HH
    have h1 : (p.length : Int) ≤ (d.length : Int) := by
      have := congrArg List.length e
      rw [List.length_take] at this
      omega
    have etk : d.take d.length = d := List.take_length
    clear e hd hp
    go_enter Tryz.func93, Tryz.ntmps93
    go_wp2_with fail
    refine HH.out.mono ?_
    rintro r w1 ⟨rfl, rfl⟩
    go_wp2_with fail
    go_ret2
    exact ⟨rfl, rfl⟩
  · rw [if_neg e, decide_eq_false e]
    rw [decide_eq_false e] at HH
    clear e hd hp
    go_enter Tryz.func93, Tryz.ntmps93
    go_wp2_with fail
    refine HH.out.mono ?_
    rintro r w1 ⟨rfl, rfl⟩
    go_wp2_with fail
    go_ret2
    exact ⟨rfl, rfl⟩
theorem cutPre_any (d p : List UInt8) (hd : d.length ≤ 1000000) (hp : p.length ≤ 1000000) (w : World) : Calls Tryz.prog 78 #[.string (S d), .string (S p)] w fun e w' => e = .returned (.tuple #[.string (S (if d.take p.length = p then d.drop p.length else d)), .bool (decide (d.take p.length = p))]) ∧ w' = w := by
  have HH := Lib.hid (cutPreL_any d p hd hp w)
  generalize (if d.take p.length = p then d.drop p.length else d) = x at HH ⊢
  generalize decide (d.take p.length = p) = b at HH ⊢
  clear hd hp
  go_enter Tryz.func78, Tryz.ntmps78
  go_wp2_with fail
  refine HH.out.mono ?_
  rintro r w1 ⟨rfl, rfl⟩
  go_wp2_with fail
  go_ret2
  exact ⟨rfl, rfl⟩
theorem bxJoin : Builder.Extra Tryz.prog lJoin_ren := { sizeBuilder := by kernel_rfl, liesBuilder := by kernel_rfl, t5 := Tryz.underlying5, a5 := Tryz.isAgg5, z5 := Tryz.sizeOf5, v5 := Tryz.zeroValue5, infoByte := by kernel_rfl, cellsByte := by kernel_rfl, sizeByte := by kernel_rfl, neB5 := by decide }
theorem join_flat (L : List (List UInt8)) : Lib.join ((L.map S).map (·.data.toList)) (S []).data.toList = L.flatten := by
  rw [List.map_map]
  have e : (L.map ((·.data.toList) ∘ S)) = L := by
    have : ((·.data.toList) ∘ S) = (id : List UInt8 → List UInt8) := funext fun l => rfl
    rw [this, List.map_id]
  rw [e]
  cases L with
  | nil => rfl
  | cons x r =>
    rw [Lib.join_cons]
    unfold Lib.joinTail
    have : (S []).data.toList = [] := rfl
    rw [this]
    simp
theorem join_any {w : World} {v : Value} {L : List (List UInt8)} (h : JRow w v L) (hl : L.length ≤ 100000) (hf : L.flatten.length ≤ 10000000) : Calls Tryz.prog 60 #[v, .string (S [])] w fun e w' => e = .returned (.string (S L.flatten)) ∧ Below w.heap.size w w' := by
  rcases h.open_ with ⟨rfl, rfl⟩ | ⟨g, cap, rfl, h1, h2, h3⟩
  · exact (Any.strings_Join_none lJoin bxJoin none 0 (S []) w).mono fun e w' hq => ⟨hq.1, by rw [hq.2]; exact Below.refl _ _⟩
  · have hlt := h.lt g rfl
    have hj := Any.strings_Join lJoin bxJoin g 0 cap (L.map S) (S []) w (by
      intro j x hx
      rw [List.getElem?_map] at hx
      have hjl : j < L.length := by
        cases hq : L[j]? with
        | none => rw [hq] at hx; cases hx
        | some y => exact (List.getElem?_eq_some_iff.1 hq).1
      rw [List.getElem?_eq_getElem hjl] at hx
      injection hx with hx
      rw [← hx, Nat.zero_add]
      exact h3 j hjl) hlt (by rw [List.length_map]; omega) (by rw [List.length_map]; exact h1) (by rw [join_flat]; omega)
    rw [join_flat, List.length_map] at hj
    exact hj
/-- The same as texts. -/
theorem map_S_inj {A B : List (List UInt8)} : A.map S = B.map S ↔ A = B := by
  constructor
  · intro h
    have := congrArg (List.map fun b : ByteArray => b.data.toList) h
    have e : ((fun b : ByteArray => b.data.toList) ∘ S) = (id : List UInt8 → List UInt8) := funext fun l => rfl
    rw [List.map_map, List.map_map, e, List.map_id, List.map_id] at this
    exact this
  · rintro rfl; rfl
theorem getD_S {L : List (List UInt8)} {j : Nat} (h : j < L.length) : (L.map S).getD j ByteArray.empty = S (L[j]'h) := by
  rw [List.getD_eq_getElem?_getD, List.getElem?_map, List.getElem?_eq_getElem h]
  rfl
theorem equalT_any {w : World} {v u : Value} {A B : List (List UInt8)} (h : JRow w v A) (k : JRow w u B) (hA : A ≠ []) (hB : B ≠ []) : Calls Tryz.prog 61 #[v, u] w fun e w' => e = .returned (.bool (decide (A = B))) ∧ Below w.heap.size w w' := by
  rcases h.open_ with ⟨rfl, rfl⟩ | ⟨g, cap, rfl, h1, h2, h3⟩
  · exact absurd rfl hA
  rcases k.open_ with ⟨rfl, rfl⟩ | ⟨g2, cap2, rfl, k1, k2, k3⟩
  · exact absurd rfl hB
  have h2' : cap ≤ 9223372036854775807 := by simpa only [maxLen] using h2
  have k2' : cap2 ≤ 9223372036854775807 := by simpa only [maxLen] using k2
  have hq := Any.slices_Equal_string lEqual g 0 A.length cap g2 0 B.length cap2 (A.map S) (B.map S) w (by rw [List.length_map]; omega) (by rw [List.length_map]; omega) (by omega) (by omega)
    (by
      intro j hj
      rw [List.length_map] at hj
      rw [getD_S hj, Nat.zero_add]
      exact h3 j hj)
    (by
      intro j hj
      rw [List.length_map] at hj
      rw [getD_S hj, Nat.zero_add]
      exact k3 j hj)
  have e : (decide ((A.map S).take A.length = (B.map S).take B.length)) = decide (A = B) := by
    rw [List.take_of_length_le (by rw [List.length_map]; omega), List.take_of_length_le (by rw [List.length_map]; omega)]
    exact decide_eq_decide.2 map_S_inj
  rw [e] at hq
  exact hq.mono fun e w' ⟨he, q, hw⟩ => ⟨he, by rw [hw]; exact (Below.refl _ w).trans ⟨rfl, rfl, rfl, Nat.le_refl _, fun _ _ => rfl⟩⟩
theorem cloneT_any {w : World} {v : Value} {L : List (List UInt8)} (h : JRow w v L) (hl : L.length ≤ 100000) : Calls Tryz.prog 46 #[v] w fun e w' => ∃ u, e = .returned u ∧ JOwn w.heap.size w' u L ∧ Below w.heap.size w w' := by
  rcases h.open_ with ⟨rfl, rfl⟩ | ⟨g, cap, rfl, h1, h2, h3⟩
  · exact (Any.slices_Clone_string_nil lClone 0 0 w).mono fun e w' hq => ⟨_, hq.1, by rw [hq.2]; exact JOwn.nil _ _, by rw [hq.2]; exact Below.refl _ _⟩
  · have hq := Any.slices_Clone_string lClone g 0 L.length cap (L.map S) w (by rw [List.length_map]; omega) (by omega)
      (by
        intro j hj
        rw [List.length_map] at hj
        rw [getD_S hj, Nat.zero_add]
        exact h3 j hj)
    refine hq.mono fun e w' ⟨u, he, hr, _, hb⟩ => ⟨u, he, ⟨jrow_low (B := w.heap.size) ?_ rfl, fun k hk => (hr.lt k hk).1⟩, hb⟩
    · have e2 : ((L.map S).take L.length).map Value.string = jtv L := by
        rw [List.take_of_length_le (by rw [List.length_map]; omega), List.map_map]
        rfl
      rw [e2] at hr
      exact hr
/-- Is a place among those that wait? -/
theorem containsK_any {w : World} {B : Nat} {v : Value} {ks : List Nat} (h : KeyRow w B v ks) (hk : ks.length ≤ 10000) (x : Nat) : Calls Tryz.prog 67 #[v, .int .i64 (x : Int)] w fun e w' => e = .returned (.bool (ks.contains x)) ∧ w' = w := by
  unfold KeyRow at h
  rcases h.2 with ⟨rfl, h0⟩ | ⟨g, cap, cur, rfl, _, hh, h1, h2, h3, h4⟩
  · have hn : ks = [] := List.eq_nil_of_length_eq_zero h0
    subst hn
    exact Any.slices_Contains_int_empty lCont none 0 (x : Int) w
  · have hc : ∀ j (hj : j < ks.length), w.cell? ⟨g, j, none⟩ = some (.int .i64 ((ks[j]'hj : Nat) : Int)) := by
      intro j hj
      have := h.cells (g := g) rfl j (.int .i64 ((ks[j]'hj : Nat) : Int)) (by rw [List.getElem?_map, List.getElem?_eq_getElem hj]; rfl)
      have hadd : (⟨g, 0, none⟩ : Addr).add j = ⟨g, j, none⟩ := by
        have := Addr.add_mid g 0 j
        rw [Nat.zero_add] at this
        exact this
      rw [hadd] at this
      exact this
    have hq := Any.slices_Contains_int lCont g 0 ks.length cap (ks.map fun n : Nat => (n : Int)) (x : Int) w (by rw [List.length_map]; omega) (by omega)
      (by
        intro j hj
        rw [List.length_map] at hj
        rw [List.getD_eq_getElem?_getD, List.getElem?_map, List.getElem?_eq_getElem hj, Nat.zero_add]
        exact hc j hj)
    have e : ((ks.map fun n : Nat => (n : Int)).take ks.length).contains (x : Int) = ks.contains x := by
      rw [List.take_of_length_le (by rw [List.length_map]; omega), Bool.eq_iff_iff, List.contains_iff_mem, List.contains_iff_mem, List.mem_map]
      constructor
      · rintro ⟨y, hy, e⟩
        have : y = x := by omega
        rw [← this]; exact hy
      · intro hx; exact ⟨x, hx, rfl⟩
    rw [e] at hq
    exact hq
end Go.Proofs.YtjdklifkalnamaaGreatDoor
