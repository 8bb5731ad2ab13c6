/-
  slices.Sorted of numbers, slices.SortedFunc of dues, over slices.Values.
-/
import Derived.Test.YtjmdpepghnhpkaaFeedI
import Derived.Test.YtjmdpepghnhpkaaFeedD
import Derived.Test.YtjmdpepghnhpkaaAppI
import Derived.Test.YtjmdpepghnhpkaaAppD
import Derived.Test.YtjmdpepghnhpkaaPolLays
import Derived.Test.YtjmdpepghnhpkaaOrd
import Derived.Lib.SlKeysI
namespace Go.Proofs.Ytjmdpepghnhpkaa
open Go.RowKit Go.Shelf Go.Lib Go.Sort
set_option linter.unusedVariables false

instance : Inhabited Du := ⟨Du.zero⟩
/-- Numbers in order. -/
def leZ (x y : Int) : Bool := decide (x ≤ y)
def zvs (L : List Int) : List Value := L.map (Value.int .i64)
set_option maxRecDepth 100000 in
theorem valuesI_any (A : Option Addr) (len cap : Nat) (w : World) : Calls Try.prog 29 #[.slice A len cap] w fun r w' => r = .returned (.func (.func 45) #[] #[.pointer (some ⟨w.heap.size, 0, none⟩)]) ∧ w' = w.alloc (.cells #[.slice A len cap] 47) := by
  go_enter Try.func29, Try.ntmps29
  go_wp2_with fail
  go_ret
  exact ⟨rfl, rfl⟩
set_option maxRecDepth 100000 in
theorem valuesD_any (A : Option Addr) (len cap : Nat) (w : World) : Calls Try.prog 26 #[.slice A len cap] w fun r w' => r = .returned (.func (.func 40) #[] #[.pointer (some ⟨w.heap.size, 0, none⟩)]) ∧ w' = w.alloc (.cells #[.slice A len cap] 30) := by
  go_enter Try.func26, Try.ntmps26
  go_wp2_with fail
  go_ret
  exact ⟨rfl, rfl⟩
/-! numbers -/
theorem sortI_any {W : World} {B : Nat} {v : Value} {L : List Int} (hrow : W.ownsRow B 3 1 v L.length (zvs L)) (hl : L.length ≤ 1000000) :
    Calls Try.prog 44 #[v] W fun r w' => r = .returned (.tuple #[]) ∧ w'.ownsRow B 3 1 v L.length (zvs (L.mergeSort leZ)) ∧ (Below B W W → B ≤ W.heap.size → Below B W w') := by
  rcases hrow.2 with ⟨rfl, hz⟩ | ⟨g, cap, cur, rfl, hbase, hgb, r1, r2, r3, r4⟩
  · obtain rfl : L = [] := List.eq_nil_of_length_eq_zero hz
    refine (AnyM.slices_Sort_int_none lSort none 0 W).mono ?_
    rintro e w' ⟨rfl, rfl⟩
    exact ⟨rfl, by simpa [zvs] using hrow, fun h _ => h⟩
  · have hH : Holds encZ W g 0 L.toArray := holds_of_block_i hgb (by rw [Nat.mul_one] at r4; exact r4)
    have hgl : g < W.heap.size := (Array.getElem?_eq_some_iff.1 hgb).1
    refine (AnyM.slices_Sort_int lSort g 0 cap L W hH hgl (by omega)).mono ?_
    rintro e w' ⟨rfl, n, os, rfl⟩
    refine ⟨rfl, ownsRow_sorted_i (ts := L.mergeSort leZ) (by simp) hbase hgb r1 r2 r3, fun h hB => ?_⟩
    exact h.grown (grownBy_sorted_i _) hB (fun j hj => by cases hj; exact hbase)
set_option maxRecDepth 100000 in
theorem sortedI_any {w : World} {Bs : Nat} {L : List Int} (hl : L.length ≤ 1000000) (hseq : Feeds Fence.wide 2 Try.prog 45 #[.pointer (some ⟨Bs, 0, none⟩)] (zvs L) w.heap.size w) :
    Calls Try.prog 28 #[.func (.func 45) #[] #[.pointer (some ⟨Bs, 0, none⟩)]] w fun r w' => ∃ v, r = .returned v ∧ w'.ownsRow w.heap.size 3 1 v L.length (zvs (L.mergeSort leZ)) ∧ Below w.heap.size w w' := by
  have HC := Lib.hid (collectI_any 45 #[.pointer (some ⟨Bs, 0, none⟩)] (enters_of Try.func45 (by kernel_rfl) rfl) L hl w hseq)
  have HL := Lib.hid hl
  clear hseq hl
  go_enter Try.func28, Try.ntmps28
  go_wp2_with fail
  refine HC.out.mono ?_
  rintro r w1 ⟨v, rfl, h1, h2, h3⟩
  have HS := Lib.hid (sortI_any h1 HL.out)
  have HB := Lib.hid h3
  clear h1 h2 h3 HC
  go_wp2_with fail
  refine HS.out.mono ?_
  rintro r w2 ⟨rfl, h4, h5⟩
  have HF := Lib.hid (And.intro h4 (HB.out.trans (h5 (Below.refl _ _) HB.out.size)))
  clear h4 h5
  go_wp2_with fail
  go_ret
  exact ⟨v, rfl, HF.out.1, HF.out.2⟩
/-! dues -/
theorem flat_dvs (L : List Du) : flatK Du.cs 2 L.toArray = (dvs L).toArray := by
  apply Array.ext
  · rw [size_flatK, List.size_toArray, List.size_toArray, dvs_len]
  · intro t h1 h2
    rw [size_flatK, List.size_toArray] at h1
    have e1 := get_flatK Du.cs 2 L.toArray t (by rw [List.size_toArray]; exact h1)
    rw [getElem!_pos _ t (by rw [size_flatK, List.size_toArray]; exact h1)] at e1
    rw [e1]
    have hq : L.toArray[t / 2]! = L[t / 2]'(by omega) := by
      rw [getElem!_pos L.toArray (t / 2) (by rw [List.size_toArray]; omega)]; simp
    rw [hq]
    have hg := flat_get Du.cs 2 Du.cs_len L (t / 2) (by omega) (t % 2) (Nat.mod_lt _ (by decide))
    rw [show t / 2 * 2 + t % 2 = t by omega] at hg
    have h6 : t % 2 < (L[t / 2]'(by omega)).cs.length := by rw [Du.cs_len]; exact Nat.mod_lt _ (by decide)
    rw [getElem!_pos (L[t / 2]'(by omega)).cs (t % 2) h6]
    rw [List.getElem?_eq_getElem h6] at hg
    have hd : (dvs L)[t]? = some ((L[t / 2]'(by omega)).cs[t % 2]) := hg
    rw [List.getElem_toArray]
    exact ((List.getElem?_eq_some_iff.1 hd).2).symm
theorem Du.swo : SWO (ltOf Du.cf) := by
  have e : ∀ x y, ltOf Du.cf x y = Du.lt x y := fun x y => Du.cf_lt x y
  refine ⟨fun x => ?_, fun x y z h1 h2 => ?_, fun x y z h1 h2 => ?_⟩
  · rw [e]; exact Du.le_refl x
  · rw [e] at *; rw [Du.lt_iff] at *; omega
  · rw [e] at *; rw [Du.nlt_iff] at *; omega
theorem Du.csOne (x : Du) : ∀ v ∈ x.cs, v.oneCell' = true := by
  intro v hv
  simp [Du.cs] at hv
  rcases hv with rfl | rfl <;> rfl
/-- All dues in order, as the library's sort leaves them. -/
theorem Du.merge_ord (L : List Du) : (L.mergeSort fun x y => !(ltOf Du.cf) y x) = Du.ord L := by
  refine Du.ord_eq (List.mergeSort_perm _ _) ?_
  have h := List.pairwise_mergeSort (le := fun x y : Du => !(ltOf Du.cf) y x) (fun a b c h1 h2 => ?_) (fun a b => ?_) L
  · refine h.imp ?_
    intro a b hab
    have e : ltOf Du.cf b a = Du.lt b a := Du.cf_lt b a
    unfold Du.le
    rw [← e]
    simpa using hab
  · have e : ∀ x y, ltOf Du.cf x y = Du.lt x y := fun x y => Du.cf_lt x y
    simp only [e, Bool.not_eq_true'] at *
    exact Du.le_trans h1 h2
  · have e : ∀ x y, ltOf Du.cf x y = Du.lt x y := fun x y => Du.cf_lt x y
    simp only [e, Bool.or_eq_true, Bool.not_eq_true']
    exact Du.le_total a b
theorem sortD_any {W : World} {B : Nat} {v : Value} {L : List Du} (hrow : W.ownsRow B 34 2 v L.length (dvs L)) (hl : L.length ≤ 1000000) :
    Calls Try.prog 39 #[v, .func (.func 27) #[] #[]] W fun r w' => r = .returned (.tuple #[]) ∧ (∃ A cap, v = .slice A L.length cap ∧ L.length ≤ cap ∧ cap ≤ 9223372036854775807 ∧ ∀ t : List Nat, (∀ x ∈ t, x < B) → RowD w' t A (Du.ord L)) ∧ (B ≤ W.heap.size → Below B W w') := by
  rcases hrow.2 with ⟨rfl, hz⟩ | ⟨g, cap, cur, rfl, hbase, hgb, r1, r2, r3, r4⟩
  · obtain rfl : L = [] := List.eq_nil_of_length_eq_zero hz
    refine (AnyF.slices_SortFunc_none lSortF none 0 _ W).mono ?_
    rintro e w' ⟨rfl, rfl⟩
    exact ⟨rfl, ⟨none, 0, rfl, Nat.le_refl _, by omega, fun t _ => RowC.nil _ _ _⟩, fun _ => Below.refl _ _⟩
  · have hgl : g < W.heap.size := (Array.getElem?_eq_some_iff.1 hgb).1
    have hH : HoldsK Du.cs 2 W g 0 L.toArray := by
      unfold HoldsK
      rw [flat_dvs]
      intro j hj
      rw [List.size_toArray, dvs_len] at hj
      rw [Nat.zero_add]
      refine ⟨?_, hrow.frozenAt j⟩
      rw [hrow.cellAt j hj]
      have hj2 : j < (dvs L).length := by rw [dvs_len]; exact hj
      rw [getElem!_pos (dvs L).toArray j (by rw [List.size_toArray]; exact hj2), List.getElem?_eq_getElem hj2]
      simp
    have hcmp : CmpLays Try.prog 27 #[] Du.cs 2 Du.cf g 0 L.toArray.size W := fun m os dk _ x y =>
      (order_grown x y (sortWorldK Du.cs 2 W g 0 m dk os)).mono fun _ _ ⟨he, hb⟩ => ⟨he, 1, hb.eq⟩
    have hsz : L.toArray.size < 4611686018427387904 := by rw [List.size_toArray]; omega
    have aE : ∀ w, (isAgg (lSortF_ren.t 24)).run Try.prog w = .ok true w := Try.isAgg34
    have zE : ∀ w, (Go.sizeOf (lSortF_ren.t 24)).run Try.prog w = .ok 2 w := Try.sizeOf34
    have hT : ∀ x y, ltOf Du.cf x y = false → ltOf Du.cf y x = false → x = y := fun x y h1 h2 => Du.cf_zero ((Du.cf_lt x y).symm.trans h1) ((Du.cf_lt y x).symm.trans h2)
    have hS := AnyQ.slices_SortFunc_total lSortF 2 aE zE Du.cs Du.cs_len Du.csOne Du.cf Du.swo 27 #[] g 0 cap L.toArray W (enters_of Try.func27 (by kernel_rfl) rfl) hcmp hH hgl hsz hT
    rw [List.size_toArray] at hS
    refine hS.mono ?_
    rintro e w' ⟨rfl, n, os, rfl⟩
    rw [List.toList_toArray, Du.merge_ord]
    have hK := Go.Proofs.holdsK_sortWorldK_c Du.cs 2 W g 0 L.toArray (Du.ord L).toArray n os hH hgl (by rw [List.size_toArray, List.size_toArray, Du.ord_len])
    have hsw := Go.Proofs.size_sortWorldK_c Du.cs 2 W g 0 n (Du.ord L).toArray os
    unfold HoldsK at hK
    rw [flat_dvs] at hK
    refine ⟨rfl, ⟨some ⟨g, 0, none⟩, cap, rfl, r1, r2, fun t ht => fun _ => ⟨g, 0, rfl, Nat.lt_of_lt_of_le hgl hsw, fun hx => by have := ht g hx; omega, fun j u hu => ?_⟩⟩, fun hB => ⟨rfl, rfl, rfl, hsw, fun i hi => ?_⟩⟩
    · obtain ⟨hj, he⟩ := List.getElem?_eq_some_iff.1 hu
      have := (hK j (by rw [List.size_toArray]; exact hj)).1
      rw [this, getElem!_pos (dvs (Du.ord L)).toArray j (by rw [List.size_toArray]; exact hj), ← he]
      simp
    · show (grow (putRowK Du.cs 2 (Sort.ahead W n) g 0 (Du.ord L).toArray) os).heap[i]? = W.heap[i]?
      rw [heap_grow_old _ _ (by rw [size_putRowK]; show i < W.heap.size; omega)]
      show (W.heap.modify g _)[i]? = W.heap[i]?
      rw [Array.getElem?_modify, if_neg (by omega)]
set_option maxRecDepth 100000 in
theorem sortedD_any {w : World} {Bs : Nat} {L : List Du} (hl : L.length ≤ 1000000) (hseq : Feeds Fence.wide 2 Try.prog 40 #[.pointer (some ⟨Bs, 0, none⟩)] (L.map Du.val) w.heap.size w) :
    Calls Try.prog 25 #[.func (.func 40) #[] #[.pointer (some ⟨Bs, 0, none⟩)], .func (.func 27) #[] #[]] w fun r w' => (∃ A cap, r = .returned (.slice A L.length cap) ∧ L.length ≤ cap ∧ cap ≤ 9223372036854775807 ∧ ∀ t : List Nat, (∀ x ∈ t, x < w.heap.size) → RowD w' t A (Du.ord L)) ∧ Below w.heap.size w w' := by
  have HC := Lib.hid (collectD_any 40 #[.pointer (some ⟨Bs, 0, none⟩)] (enters_of Try.func40 (by kernel_rfl) rfl) L hl w hseq)
  have HL := Lib.hid hl
  clear hseq hl
  go_enter Try.func25, Try.ntmps25
  go_wp2_with fail
  refine HC.out.mono ?_
  rintro r w1 ⟨v, rfl, h1, h2, h3⟩
  have HS := Lib.hid (sortD_any h1 HL.out)
  have HB := Lib.hid h3
  clear h1 h2 h3 HC
  go_wp2_with fail
  refine HS.out.mono ?_
  rintro r w2 ⟨rfl, ⟨A, cap, rfl, h4, h5, h6⟩, h7⟩
  have HF := Lib.hid (And.intro h4 (And.intro h5 (And.intro h6 (HB.out.trans (h7 HB.out.size)))))
  clear h4 h5 h6 h7
  go_wp2_with fail
  go_ret
  exact ⟨⟨A, cap, rfl, HF.out.1, HF.out.2.1, HF.out.2.2.1⟩, HF.out.2.2.2⟩
end Go.Proofs.Ytjmdpepghnhpkaa
