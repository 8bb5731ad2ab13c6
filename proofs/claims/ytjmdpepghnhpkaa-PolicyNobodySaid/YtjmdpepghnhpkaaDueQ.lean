/-
  A queue in memory: Ready.
-/
import Derived.Test.YtjmdpepghnhpkaaQueAll
import Derived.Deep.Slices
namespace Go.Proofs.Ytjmdpepghnhpkaa
open Go.RowKit Go.Shelf
set_option linter.unusedVariables false

def Du.ready (now : Int) (bar : List Int) (d : Du) : Bool := decide (d.due ≤ now) && !decide (d.seq ∈ bar)
theorem Du.find_min {p : Du → Bool} {e : Du} : ∀ {l : List Du}, Du.Sorted l → l.find? p = some e → ∀ d ∈ l, p d = true → Du.le e d
  | [], _, h, _, _, _ => by cases h
  | x :: l, hs, h, d, hd, hp => by
    have h2 := List.pairwise_cons.1 hs
    rw [List.find?_cons] at h
    cases hx : p x with
    | true =>
      rw [hx] at h
      injection h with h
      subst h
      rcases List.mem_cons.1 hd with rfl | hd
      · exact Du.le_refl _
      · exact h2.1 d hd
    | false =>
      rw [hx] at h
      rcases List.mem_cons.1 hd with rfl | hd
      · rw [hx] at hp; cases hp
      · exact Du.find_min h2.2 h d hd hp
theorem Du.find_of {p : Du → Bool} {l : List Du} {d : Du} (hs : Du.Sorted l) (hd : d ∈ l) (hp : p d = true) (hm : ∀ x ∈ l, p x = true → Du.le d x) : l.find? p = some d := by
  cases h : l.find? p with
  | none => have := List.find?_eq_none.1 h d hd; rw [hp] at this; simp at this
  | some e =>
    rw [Du.le_antisymm (hm e (List.mem_of_find?_eq_some h) (List.find?_some h)) (Du.find_min hs h d hd hp)]
/-! numbers looked for -/
set_option maxRecDepth 100000 in
theorem search_none (x : Int) (w : World) : Calls Try.prog 32 #[.slice none 0 0, .int .i64 x] w fun r w' => r = .returned (.tuple #[.int .i64 0, .bool false]) ∧ w' = w := by
  go_enter Try.func32, Try.ntmps32
  go_wp2_with fail
  refine wp_loop_rounds 1 ?_
  rw [rounds_succ]
  go_wp2_with fail
  go_ret2
  exact ⟨rfl, rfl⟩
theorem search_any {W : World} {B : Nat} {v : Value} {L : List Int} (hrow : W.ownsRow B 3 1 v L.length (zvs L)) (hl : L.length ≤ 1000000) (hs : L.Pairwise (· ≤ ·)) (x : Int) :
    Calls Try.prog 32 #[v, .int .i64 x] W fun r w' => (∃ i : Int, r = .returned (.tuple #[.int .i64 i, .bool (decide (x ∈ L))])) ∧ Below W.heap.size W w' := by
  rcases hrow.2 with ⟨rfl, hz⟩ | ⟨g, cap, cur, rfl, hbase, hgb, r1, r2, r3, r4⟩
  · obtain rfl : L = [] := List.eq_nil_of_length_eq_zero hz
    refine (search_none x W).mono ?_
    rintro r w' ⟨rfl, rfl⟩
    exact ⟨⟨0, rfl⟩, Below.refl _ _⟩
  · have hc : ∀ j, j < L.length → W.cell? ⟨g, 0 + j, none⟩ = some (.int .i64 (L.getD j 0)) := fun j hj => by
      rw [Nat.zero_add]
      have h1 := hrow.cellAt j (by omega)
      rw [h1]
      unfold zvs
      rw [List.getElem?_map, List.getElem?_eq_getElem hj, List.getD_eq_getElem?_getD, List.getElem?_eq_getElem hj]
      rfl
    refine (AnyG.slices_BinarySearch_int lFind g 0 L.length cap L x W (Nat.le_refl _) (by omega) hc (by rw [List.take_of_length_le (Nat.le_refl _)]; exact hs)).mono ?_
    rintro r w' ⟨rfl, n, rfl⟩
    rw [List.take_of_length_le (Nat.le_refl _)]
    have e : L.contains x = decide (x ∈ L) := by rw [Bool.eq_iff_iff, List.contains_iff_mem, decide_eq_true_iff]
    rw [e]
    exact ⟨⟨_, rfl⟩, ⟨rfl, rfl, rfl, Nat.le_refl _, fun _ _ => rfl⟩⟩
theorem rising_sorted (L : List Int) : (L.mergeSort leZ).Pairwise (· ≤ ·) := by
  have h := List.pairwise_mergeSort (le := leZ) (fun a b c h1 h2 => by unfold leZ at *; simp at *; omega) (fun a b => by unfold leZ; simp; omega) L
  exact h.imp (fun {a b} hab => by unfold leZ at hab; simpa using hab)
set_option maxRecDepth 100000 in
theorem readyIs_any (a b : Int) (c : Nat) (v : Value) (f : Bool) (w : World) (hc : w.cell? ⟨c, 0, none⟩ = some v) (hB : c < w.heap.size)
    (hs : ∀ W, Below w.heap.size w W → Calls Try.prog 32 #[v, .int .i64 a] W fun r w' => (∃ i : Int, r = .returned (.tuple #[.int .i64 i, .bool f])) ∧ Below W.heap.size W w') :
    Calls Try.prog 31 #[.agg #[.int .i64 a, .int .i64 b], .pointer (some ⟨c, 0, none⟩)] w fun r w' => r = .returned (.bool (!f)) ∧ Below w.heap.size w w' := by
  have hb : Below w.heap.size w (w.alloc (.cells #[.int .i64 a, .int .i64 b] 34)) := (Below.refl _ w).alloc (Nat.le_refl _) _
  have hz := Has.made w 34 #[.int .i64 a, .int .i64 b]
  have hc1 := (hb.cell (p := ⟨c, 0, none⟩) hB).trans hc
  have HS := Lib.hid (hs _ hb)
  have HB := Lib.hid hb
  clear hs hb
  go_enter Try.func31, Try.ntmps31
  go_upto_region 1 with fail
  generalize w.alloc (.cells #[.int .i64 a, .int .i64 b] 34) = W0 at hz hc1 HS HB ⊢
  generalize w.heap.size = b0 at hz ⊢
  have z0 : W0.cell? ⟨b0, 0, none⟩ = some (.int .i64 a) := hz.cell 0
  clear hz hc
  go_wp2_with fail
  refine HS.out.mono ?_
  rintro r w1 ⟨⟨i, rfl⟩, hb1⟩
  have HB1 := Lib.hid (HB.out.trans (hb1.mono HB.out.size))
  clear hb1 HS z0 hc1
  cases f
  all_goals
    go_wp2_with fail
    go_ret
    exact ⟨rfl, HB1.out⟩
set_option maxRecDepth 100000 in
set_option maxHeartbeats 4000000 in
theorem qready_any {w : World} {q : Nat} {s : List Nat} {l : List Du} (h : QAt w q s l) (hl : l.length ≤ 1000) (now : Int) {B : Option Addr} {bar : List Int} {cb : Nat} (hb : RowI w [] B bar) (hbl : bar.length ≤ cb) (hcb : cb ≤ 9223372036854775807) (hb1 : bar.length ≤ 1000) :
    Calls Try.prog 18 #[.pointer (some ⟨q, 0, none⟩), .int .i64 now, .slice B bar.length cb] w fun r w' => r = .returned (dueR (l.find? (Du.ready now bar))) ∧ Below w.heap.size w w' := by
  obtain ⟨hp, g1, g2, g3⟩ := h.rep
  have hba : Below w.heap.size w (w.alloc (.cells #[.int .i64 0, .int .i64 0] 34)) := (Below.refl _ w).alloc (Nat.le_refl _) _
  have hz := Has.made w 34 #[.int .i64 0, .int .i64 0]
  obtain ⟨o, ho⟩ : ∃ o, dueR (l.find? (Du.ready now bar)) = o := ⟨_, rfl⟩
  rw [ho]
  have HNO : Hid ((∀ d ∈ hp, Du.ready now bar d = false) → o = .tuple #[.agg #[.int .i64 0, .int .i64 0], .bool false]) := Lib.hid (fun hn => by
    rw [← ho, List.find?_eq_none.2 (fun x hx => by rw [hn x (g1.symm.subset hx)]; simp)]; rfl)
  have HYES : Hid (∀ d ∈ hp, Du.ready now bar d = true → (∀ x ∈ hp, Du.ready now bar x = true → Du.le d x) → o = .tuple #[.agg #[.int .i64 d.seq, .int .i64 d.due], .bool true]) := Lib.hid (fun d hd hpd hm => by
    rw [← ho, Du.find_of h.sorted (g1.subset hd) hpd (fun x hx => hm x (g1.symm.subset hx))]; rfl)
  have HQ := Lib.hid (g3.below hba)
  have HHP := Lib.hid g2
  have HL : Hid (hp.length ≤ 1000000) := Lib.hid (by rw [g1.length_eq]; omega)
  have HBR := Lib.hid (hb.below hba)
  have HBL := Lib.hid (And.intro hbl hb1)
  clear ho h g1 g2 g3 hb hbl hb1 hl
  have HV := Lib.hid (fun W => valuesI_any B bar.length cb W)
  go_enter Try.func18, Try.ntmps18
  go_upto_region 1 with fail
  generalize w.alloc (.cells #[.int .i64 0, .int .i64 0] 34) = W0 at hba hz HQ HBR ⊢
  obtain ⟨b0, hq0⟩ : ∃ b0, w.heap.size = b0 := ⟨_, rfl⟩
  rw [hq0] at hz ⊢
  have HLE : Hid (w.heap.size ≤ b0) := Lib.hid (by omega)
  have HZ := Lib.hid hz
  have HB := Lib.hid hba
  clear hz hba hq0
  go_wp2_with fail
  refine (HV.out W0).mono ?_
  rintro r w1 ⟨rfl, e1⟩
  rw [e1]
  clear e1 w1
  have hbx : Below W0.heap.size W0 (W0.alloc (.cells #[.slice B bar.length cb] 47)) := (Below.refl _ _).alloc (Nat.le_refl _) _
  have hx := Has.made W0 47 #[.slice B bar.length cb]
  have HBR1 := Lib.hid (HBR.out.below hbx)
  have HQ1 := Lib.hid (HQ.out.below hbx)
  have HZ1 := Lib.hid (HZ.out.below hbx HZ.out.lt)
  have HB1 := Lib.hid (HB.out.trans (hbx.mono HB.out.size))
  clear hbx HBR HQ HZ HB
  generalize W0.alloc (.cells #[.slice B bar.length cb] 47) = W1 at hx HBR1 HQ1 HZ1 HB1 ⊢
  generalize W0.heap.size = bx at hx ⊢
  have HSO := Lib.hid (sortedI_any (L := bar) (by have := HBL.out; omega) (feedsI Fence.wide 2 trivial rfl (by omega) (hx.cell 0) hx.lt (fun k hk => by
    obtain ⟨b, off, hA, hlt, _, hr⟩ := HBR1.out (fun e => by have := congrArg List.length e; unfold ivs at this; rw [List.length_map, List.length_nil] at this; omega)
    refine ⟨b, off, hA, hlt, hr k _ ?_⟩
    unfold ivs
    rw [List.getElem?_map, List.getElem?_eq_getElem hk]; rfl) (by have := HBL.out; omega) HBL.out.1))
  clear hx
  go_wp2_with fail
  refine HSO.out.mono ?_
  rintro r w2 ⟨v, rfl, hown, hb2⟩
  obtain ⟨A5, n5, c5, rfl⟩ : ∃ A n c, v = .slice A n c := by
    rcases hown.2 with ⟨rfl, _⟩ | ⟨g, cap, cur, rfl, _⟩
    · exact ⟨_, _, _, rfl⟩
    · exact ⟨_, _, _, rfl⟩
  have hml : (bar.mergeSort leZ).length = bar.length := by simp
  rw [← hml] at hown
  have hmm : ∀ x, decide (x ∈ bar.mergeSort leZ) = decide (x ∈ bar) := fun x => decide_eq_decide.2 (List.mergeSort_perm bar leZ).mem_iff
  have hmp := rising_sorted bar
  have hmk : (bar.mergeSort leZ).length ≤ 1000000 := by rw [hml]; have := HBL.out; omega
  generalize bar.mergeSort leZ = M at hown hmm hmp hmk
  have hb3 : Below w2.heap.size w2 (w2.alloc (.cells #[.slice A5 n5 c5] 47)) := (Below.refl _ _).alloc (Nat.le_refl _) _
  have hx3 := Has.made w2 47 #[.slice A5 n5 c5]
  have hown3 := hown.alloc (.cells #[.slice A5 n5 c5] 47)
  have HQ3 := Lib.hid ((HQ1.out.below hb2).below hb3)
  have HZ3 := Lib.hid ((HZ1.out.below hb2 HZ1.out.lt).below hb3 (HZ1.out.below hb2 HZ1.out.lt).lt)
  have HB2 := Lib.hid (HB1.out.trans (hb2.mono HB1.out.size))
  have HB3 := Lib.hid (HB2.out.trans (hb3.mono HB2.out.size))
  clear hown hb2 hb3 HSO HQ1 HZ1 HB1 HBR1 hml
  go_upto_region 2 with fail
  generalize w2.alloc (.cells #[.slice A5 n5 c5] 47) = W3 at hx3 hown3 HQ3 HZ3 HB3 ⊢
  generalize w2.heap.size = c at hx3 ⊢
  have hX : ∀ (a b : Int) (W : World), Below W3.heap.size W3 W → Calls Try.prog 31 (#[.agg #[.int .i64 a, .int .i64 b]] ++ #[.pointer (some ⟨c, 0, none⟩)]) W fun r w' => r = .returned (.bool ((fun d : Du => !decide (d.seq ∈ bar)) ⟨a, b⟩)) ∧ Below W.heap.size W w' := fun a b W hW => by
    have hoW : ∀ W', Below W.heap.size W W' → W'.ownsRow W1.heap.size 3 1 (.slice A5 n5 c5) M.length (zvs M) := fun W' hW' => by
      have hbb := hW.trans (hW'.mono hW.size)
      refine ⟨hown3.1, ?_⟩
      rcases hown3.2 with hn | ⟨g, cap, cur, e, hge, hg, rest⟩
      · exact .inl hn
      · exact .inr ⟨g, cap, cur, e, hge, (hbb.block g (Array.getElem?_eq_some_iff.1 hg).1).trans hg, rest⟩
    exact readyIs_any a b c (.slice A5 n5 c5) (decide (a ∈ bar)) W ((hW.cell (p := ⟨c, 0, none⟩) hx3.lt).trans (hx3.cell 0)) (Nat.lt_of_lt_of_le hx3.lt hW.size) (fun W' hW' => by
      have := search_any (hoW W' hW') hmk hmp a
      rwa [hmm a] at this)
  have HFI := Lib.hid (find_any HQ3.out HHP.out HL.out now (fun d => !decide (d.seq ∈ bar)) 31 #[.pointer (some ⟨c, 0, none⟩)] (enters_of Try.func31 (by kernel_rfl) rfl) hX)
  clear hX hx3 hown3 hmm hmp hmk
  go_wp2_with fail
  refine HFI.out.mono ?_
  rintro r w4 ⟨⟨v4, rfl, hf⟩, hb4⟩
  have HB4 := Lib.hid (HB3.out.trans (hb4.mono HB3.out.size))
  have HQ4 := Lib.hid (HQ3.out.below hb4)
  have HZ4 := Lib.hid (HZ3.out.below hb4 HZ3.out.lt)
  clear hb4 HFI HB3 HQ3 HZ3
  have d0 : w4.cell? ⟨b0, 0, none⟩ = some (.int .i64 0) := HZ4.out.cell 0
  have d1 : w4.cell? ⟨b0, 1, none⟩ = some (.int .i64 0) := HZ4.out.cell 1
  have f0 := HZ4.out.free 0
  have f1 := HZ4.out.free 1
  rcases hf with ⟨rfl, hn⟩ | ⟨k, hk, rfl, hs, hm⟩
  · obtain rfl := HNO.out hn
    clear hn HYES
    go_wp2_with fail
    exact ret_dueR (p := 6) (u := 7) rfl b0 #[.int .i64 0, .int .i64 0] (.bool false) rfl rfl rfl ((HZ4.out.set 0 _).set 1 _) rfl ⟨rfl, (HB4.out.setCell (p := ⟨b0, 0, none⟩) HLE.out _).setCell (p := ⟨b0, 1, none⟩) HLE.out _⟩
  · have he := HYES.out hp[k] (List.getElem_mem hk) hs hm
    clear hs hm HYES HNO
    obtain ⟨B4, cap4, rfl, hat⟩ : ∃ B cap, s = [B] ∧ HAt w4 q B hp cap := by
      rcases HQ4.out with ⟨rfl, _, _⟩ | ⟨B, cap, e, hat⟩
      · cases hk
      · exact ⟨B, cap, e, hat⟩
    have hneg : ¬ (k : Int) < 0 := by omega
    have hk0 : (0 : Int) ≤ (k : Int) := by omega
    have hki : (k : Int) < (hp.length : Int) := by omega
    have hsl := hat.slice
    obtain ⟨c0, c1⟩ := hat.cells k hk
    generalize hp[k]'hk = x at c0 c1 he
    obtain ⟨xs, xd⟩ := x
    dsimp only at c0 c1 he
    subst he
    clear hat hk
    go_wp2_with fail
    exact ret_dueR (p := 6) (u := 7) rfl b0 #[.int .i64 xs, .int .i64 xd] (.bool true) rfl rfl rfl ((HZ4.out.set 0 _).set 1 _) rfl ⟨rfl, (HB4.out.setCell (p := ⟨b0, 0, none⟩) HLE.out _).setCell (p := ⟨b0, 1, none⟩) HLE.out _⟩
end Go.Proofs.Ytjmdpepghnhpkaa
