/-
  Event's readEntry.
-/
import Derived.Test.YtihhgingdgepcaaEvR
import Derived.Test.YtihhgingdgepcaaEvRefD
import Derived.Deep.AppendLies
namespace Go.Proofs.Ytihhgingdgepcaa
open Go.RowKit
set_option linter.unusedVariables false

section
variable {P : Program} {ops : Array Oper} {Q : Exit → Act → World → Prop} {md : Region.Mode} {S : World → Prop}
theorem rdOne {i : Nat} {oi : Oper} {fuel : Nat} {listed : Array Bool} {a : Act} {w : World} (hr : Region.ready md ops listed = [i]) (hi : ops[i]? = some oi) (hwi : Region.wanted oi (yielded ops a.tmps) = true)
    (h1 : ∀ K : Act → World → Prop, Shut (∀ a w, S w → (S w → wpAnyH P md ops Q S fuel (listed.setIfInBounds i true) a w) → K a w) → Oper.wp P oi a w K Q) : wpAnyH P md ops Q S (fuel + 1) listed a w :=
  wpAnyH_ready hr (by simp) (AllReadyH.cons hi (fun K hK => by rw [if_pos hwi]; exact h1 K hK) AllReadyH.nil)
theorem rdTwo {i j : Nat} {oi oj : Oper} {fuel : Nat} {listed : Array Bool} {a : Act} {w : World} (hr : Region.ready md ops listed = [i, j]) (hi : ops[i]? = some oi) (hj : ops[j]? = some oj)
    (hwi : Region.wanted oi (yielded ops a.tmps) = true) (hwj : Region.wanted oj (yielded ops a.tmps) = true)
    (h1 : ∀ K : Act → World → Prop, Shut (∀ a w, S w → (S w → wpAnyH P md ops Q S fuel (listed.setIfInBounds i true) a w) → K a w) → Oper.wp P oi a w K Q)
    (h2 : ∀ K : Act → World → Prop, Shut (∀ a w, S w → (S w → wpAnyH P md ops Q S fuel (listed.setIfInBounds j true) a w) → K a w) → Oper.wp P oj a w K Q) : wpAnyH P md ops Q S (fuel + 1) listed a w :=
  wpAnyH_ready hr (by simp) (AllReadyH.cons hi (fun K hK => by rw [if_pos hwi]; exact h1 K hK) (AllReadyH.cons hj (fun K hK => by rw [if_pos hwj]; exact h2 K hK) AllReadyH.nil))
end
theorem rdSlInfo : (Try.prog.info? 60).map (fun i => (i.zero, i.size, i.bytes)) = some (some (.agg #[.string ⟨#[]⟩, .string ⟨#[]⟩, .string ⟨#[]⟩, .bool false]), 4, 56) := by kernel_rfl
theorem rdMadeSlip (w : World) (n p c : List UInt8) (e : Bool) : ∀ (j : Nat) (u : Value), (⟨n, p, c, e⟩ : Slp).cs[j]? = some u → (w.alloc (.cells #[.string (S n), .string (S p), .string (S c), .bool e] 60)).cell? ((⟨w.heap.size, 0, none⟩ : Addr).add j) = some u := by
  intro j u hu
  rw [add_flat', Nat.zero_add, (Has.made w 60 #[.string (S n), .string (S p), .string (S c), .bool e]).cell j]
  rw [← hu]
  unfold Slp.cs
  exact List.getElem?_toArray ..
theorem RowC.fresh {w : World} {s t : List Nat} {A : Option Addr} {cs : List Value} (h : RowC w s A cs) (ht : ∀ x ∈ t, x ∈ s ∨ w.heap.size ≤ x) : RowC w t A cs := fun hl => by
  obtain ⟨b, off, hA, hb, hn, hr⟩ := h hl
  exact ⟨b, off, hA, hb, fun hx => by rcases ht b hx with h1 | h1; exact hn h1; omega, hr⟩
theorem onlyMv {w W W' : World} {g t : Nat} (h : Only w W g) (hm : Mv W W' [g, t]) (ht : w.heap.size ≤ t) : Only w W' g :=
  ⟨hm.os.trans h.os, hm.tape.trans h.tape, hm.output.trans h.output, Nat.le_trans h.size hm.size, fun i hi hne => (hm.block i (Nat.lt_of_lt_of_le hi h.size) (fun e => by
    rcases List.mem_cons.1 e with e | e
    · exact hne (by rw [e])
    · have := List.mem_singleton.1 e; omega)).trans (h.block i hi hne)⟩
namespace Ev
theorem textsK_rest : ∀ (k : Nat) (m : Int) (st : R.St) (acc : List (List UInt8)), (R.textsK k m st acc).2.1.length ≤ st.1.length
  | 0, m, st, acc => Nat.le_refl _
  | k + 1, m, st, acc => by
    unfold R.textsK
    have h := text_rest m st
    split
    · have := textsK_rest k m (R.text m st).2 (acc ++ [(R.text m st).1]); omega
    · exact h
theorem texts_rest (many m : Int) (st : R.St) : (R.texts many m st).2.1.length ≤ st.1.length := by
  have h1 := R.num_rest many st
  have h2 := textsK_rest (R.num many st).1.toNat m (R.num many st).2 []
  unfold R.texts
  omega
theorem num_le (m : Int) (hm : 0 ≤ m) (st : R.St) : 0 ≤ (R.num m st).1 ∧ (R.num m st).1 ≤ m := by
  show 0 ≤ (if (if m < ((R.fold _ : Nat) : Int) then R.fail 3 _ else _ : R.St).2 = 0 then ((R.fold _ : Nat) : Int) else 0) ∧ (if (if m < ((R.fold _ : Nat) : Int) then R.fail 3 _ else _ : R.St).2 = 0 then ((R.fold _ : Nat) : Int) else 0) ≤ m
  generalize R.fold _ = n
  generalize R.lead _ _ = st3
  by_cases h : m < (n : Int)
  · rw [if_pos h]
    have hne : ¬ (R.fail 3 st3).2 = 0 := by
      show ¬ (if st3.2 = 0 then (3 : Int) else st3.2) = 0
      split <;> omega
    rw [if_neg hne]
    omega
  · rw [if_neg h]
    split <;> omega
end Ev
set_option maxRecDepth 100000 in
set_option maxHeartbeats 16000000 in
theorem rentry_any (g b : Nat) (st : R.St) (w : World) (h : Rd w g b st) (hcap : st.1.length ≤ 4000000000) (hb : b < w.heap.size) (s0 : List Nat) (hs0 : ∀ x ∈ s0, x < w.heap.size) :
    Calls Try.prog 27 #[.pointer (some ⟨g, 0, none⟩)] w fun r w' => ∃ (A B : Option Addr) (ca cb : Nat), r = .returned (.agg #[.string (S (Ev.rE st).1.id), .int .i64 (Ev.rE st).1.cls, .int .i64 (Ev.rE st).1.born, .int .i64 (Ev.rE st).1.slot, .slice A (Ev.rE st).1.L.length ca, .bool (Ev.rE st).1.gone, .slice B (Ev.rE st).1.H.length cb]) ∧
      EntIn w' s0 (Ev.rE st).1 A ca B cb ∧ Rd w' g b (Ev.rE st).2 ∧ Only w w' g := by
  obtain ⟨i, hi⟩ : ∃ i, R.text 24 st = i := ⟨_, rfl⟩
  obtain ⟨c, hc⟩ : ∃ x, R.num 7 i.2 = x := ⟨_, rfl⟩
  obtain ⟨bo, hbo⟩ : ∃ x, R.num 1099511627776 c.2 = x := ⟨_, rfl⟩
  obtain ⟨sl, hsl⟩ : ∃ x, R.num 63 bo.2 = x := ⟨_, rfl⟩
  obtain ⟨go, hgo⟩ : ∃ x, R.flag sl.2 = x := ⟨_, rfl⟩
  obtain ⟨ho, hho⟩ : ∃ x, R.texts 4 16 go.2 = x := ⟨_, rfl⟩
  obtain ⟨n, hn⟩ : ∃ x, R.num 12 ho.2 = x := ⟨_, rfl⟩
  have hE : Ev.rE st = (⟨i.1, c.1, bo.1, sl.1, (Ev.rSs n.1.toNat n.2 []).1, go.1, ho.1⟩, (Ev.rSs n.1.toNat n.2 []).2) := by
    rw [← hn, ← hho, ← hgo, ← hsl, ← hbo, ← hc, ← hi]; rfl
  have r1 := Ev.text_rest 24 st
  rw [hi] at r1
  have r2 := R.num_rest 7 i.2
  rw [hc] at r2
  have r3 := R.num_rest 1099511627776 c.2
  rw [hbo] at r3
  have r4 := R.num_rest 63 bo.2
  rw [hsl] at r4
  have r5 := Ev.flag_rest sl.2
  rw [hgo] at r5
  have r6 := Ev.texts_rest 4 16 go.2
  rw [hho] at r6
  have r7 := R.num_rest 12 ho.2
  rw [hn] at r7
  have hn12 := Ev.num_le 12 (by decide) ho.2
  have hnn := R.num_nat 12 ho.2
  rw [hn] at hn12 hnn
  have H1 := Lib.hid (fun W hW => text_rd 24 g b st W hW (by omega))
  have H2 := Lib.hid (fun W hW => num_rd 7 g b i.2 W hW (by omega))
  have H3 := Lib.hid (fun W hW => num_rd 1099511627776 g b c.2 W hW (by omega))
  have H4 := Lib.hid (fun W hW => num_rd 63 g b bo.2 W hW (by omega))
  have H5 := Lib.hid (fun W hW => flag_rd g b sl.2 W hW (by omega))
  have H6 := Lib.hid (fun W hW hbW => texts_rd 4 16 g b go.2 W hW (by omega) hbW)
  have H7 := Lib.hid (fun W hW => num_rd 12 g b ho.2 W hW (by omega))
  have hcap7 : n.2.1.length ≤ 4000000000 := by omega
  rw [hi] at H1
  rw [hc] at H2
  rw [hbo] at H3
  rw [hsl] at H4
  rw [hgo] at H5
  rw [hho] at H6
  rw [hn] at H7
  clear hi hc hbo hsl hgo hho hn r1 r2 r3 r4 r5 r6 r7
  obtain ⟨id, st1⟩ := i
  obtain ⟨cls, st2⟩ := c
  obtain ⟨born, st3⟩ := bo
  obtain ⟨slot, st4⟩ := sl
  obtain ⟨gone, st5⟩ := go
  obtain ⟨H, st6⟩ := ho
  obtain ⟨N, st7⟩ := n
  dsimp only at *
  obtain ⟨N, rfl⟩ := Int.eq_ofNat_of_zero_le hnn
  rw [Int.toNat_natCast] at hE
  obtain ⟨⟨e, est⟩, he⟩ : ∃ x, Ev.rE st = x := ⟨_, rfl⟩
  rw [he] at hE ⊢
  clear he
  have HE := Lib.hid hE
  dsimp only
  obtain ⟨i0, hi0, hz0, hz1, hz2⟩ := info_parts rdSlInfo
  have HI := Lib.hid (And.intro hi0 (And.intro hz0 (And.intro hz1 hz2)))
  clear hi0 hz0 hz1 hz2 hE
  have hb0 : Below w.heap.size w (w.alloc (.cells #[.string ⟨#[]⟩, .int .i64 0, .int .i64 0, .int .i64 0, .slice none 0 0, .bool false, .slice none 0 0] 25)) := (Below.refl _ w).alloc (Nat.le_refl _) _
  have hr0 := h.below hb0 (Nat.le_refl _)
  have hq0 := Has.made w 25 #[.string ⟨#[]⟩, .int .i64 0, .int .i64 0, .int .i64 0, .slice none 0 0, .bool false, .slice none 0 0]
  have hglt := h.lt
  have HO0 := Lib.hid (Only.of_below hb0 g)
  have hsz0 : (w.alloc (.cells #[.string ⟨#[]⟩, .int .i64 0, .int .i64 0, .int .i64 0, .slice none 0 0, .bool false, .slice none 0 0] 25)).heap.size = w.heap.size + 1 := asize _ _
  have HS0 := Lib.hid hs0
  have hgb := h.1
  clear hb0 h hs0
  go_enter Try.func27, Try.ntmps27
  go_upto_region 1 with fail
  generalize w.alloc (.cells #[.string ⟨#[]⟩, .int .i64 0, .int .i64 0, .int .i64 0, .slice none 0 0, .bool false, .slice none 0 0] 25) = W0 at hr0 hq0 HO0 hsz0 ⊢
  obtain ⟨q, hq⟩ : ∃ q, w.heap.size = q := ⟨_, rfl⟩
  rw [hq] at hq0 hglt hb hsz0 HS0 ⊢
  have HQ := Lib.hid hq0
  have HSZ := Lib.hid hsz0
  have HWQ := Lib.hid hq
  clear hq0 hsz0 hq
  go_wp2_with fail
  refine (H1.out _ hr0).mono ?_
  rintro r w1 ⟨rfl, hr1, ho1⟩
  go_wp2_with fail
  refine (H2.out _ hr1).mono ?_
  rintro r w2 ⟨rfl, hr2, ho2⟩
  have HO2 := Lib.hid (ho1.trans ho2)
  clear hr0 hr1 ho1 ho2 H1 H2
  go_wp2_with fail
  refine (H3.out _ hr2).mono ?_
  rintro r w3 ⟨rfl, hr3, ho3⟩
  have HO3 := Lib.hid (HO2.out.trans ho3)
  clear hr2 ho3 H3 HO2
  go_wp2_with fail
  refine (H4.out _ hr3).mono ?_
  rintro r w4 ⟨rfl, hr4, ho4⟩
  have HO4 := Lib.hid (HO3.out.trans ho4)
  clear hr3 ho4 H4 HO3
  go_wp2_with fail
  refine (H5.out _ hr4).mono ?_
  rintro r w5 ⟨rfl, hr5, ho5⟩
  have HO5 := Lib.hid (HO4.out.trans ho5)
  have hsz5 : q < w5.heap.size := by have h1 := HO5.out.size; have := HSZ.out; omega
  clear hr4 ho5 H5 HO4
  go_wp2_with fail
  refine (H6.out _ hr5 (by omega)).mono ?_
  rintro r w6 ⟨vH, rfl, hown6, hr6, ho6⟩
  dsimp only at hown6 hr6
  obtain ⟨B, cb, rfl, hlb, hmb, -, -, hrowH⟩ := own_rowC (s := g :: q :: s0) hown6 (by
    intro x hx
    rcases List.mem_cons.1 hx with rfl | hx
    · omega
    rcases List.mem_cons.1 hx with rfl | hx
    · omega
    have := HS0.out x hx
    omega) (by decide)
  have HRH : Hid (RowC w6 (g :: q :: s0) B (tvs H)) := Lib.hid hrowH
  have HLB := Lib.hid (And.intro hlb hmb)
  have HO6 := Lib.hid (HO5.out.trans ho6)
  have hsz6 : q < w6.heap.size := Nat.lt_of_lt_of_le hsz5 ho6.size
  clear hr5 ho6 H6 HO5 hown6 hrowH hlb hmb hsz5
  go_upto_region 2 with fail
  have hb7 : Below w6.heap.size w6 (w6.alloc (.cells #[.string (S id), .int .i64 cls, .int .i64 born, .int .i64 slot, .slice none 0 0, .bool gone, .slice B H.length cb] 25)) := (Below.refl _ w6).alloc (Nat.le_refl _) _
  have hr7 := hr6.below hb7 (Nat.le_refl _)
  have ht7 := Has.made w6 25 #[.string (S id), .int .i64 cls, .int .i64 born, .int .i64 slot, .slice none 0 0, .bool gone, .slice B H.length cb]
  have hq7 := (HO6.out.has HQ.out (by omega : q ≠ g)).below hb7 hsz6
  have HO7 := Lib.hid ((HO0.out.trans HO6.out).trans (Only.of_below hb7 g))
  have hgt : g < w6.heap.size := hr6.lt
  have hbt : b < w6.heap.size := by omega
  have hrh7 := (HRH.out.fresh (t := g :: q :: w6.heap.size :: s0) (by
    intro x hx
    rcases List.mem_cons.1 hx with rfl | hx
    · exact Or.inl (List.mem_cons_self ..)
    rcases List.mem_cons.1 hx with rfl | hx
    · exact Or.inl (List.mem_cons_of_mem _ (List.mem_cons_self ..))
    rcases List.mem_cons.1 hx with rfl | hx
    · exact Or.inr (Nat.le_refl _)
    · exact Or.inl (List.mem_cons_of_mem _ (List.mem_cons_of_mem _ hx)))).below hb7
  have hs7 : (w6.alloc (.cells #[.string (S id), .int .i64 cls, .int .i64 born, .int .i64 slot, .slice none 0 0, .bool gone, .slice B H.length cb] 25)).heap.size = w6.heap.size + 1 := asize _ _
  clear hb7 hr6 HO6 HO0 HSZ HQ HRH
  generalize w6.alloc (.cells #[.string (S id), .int .i64 cls, .int .i64 born, .int .i64 slot, .slice none 0 0, .bool gone, .slice B H.length cb] 25) = W7 at hr7 ht7 hq7 HO7 hrh7 hs7 ⊢
  generalize w6.heap.size = t at ht7 hsz6 hgt hbt hrh7 hs7 ⊢
  go_wp2_with fail
  refine (H7.out _ hr7).mono ?_
  rintro r w8 ⟨rfl, hr8, ho8⟩
  have HT8 := Lib.hid (ho8.has ht7 (by omega : t ≠ g))
  have HQ8 := Lib.hid (ho8.has hq7 (by omega : q ≠ g))
  have HO8 := Lib.hid (HO7.out.trans ho8)
  have HRH := Lib.hid (hrh7.mv (Mv.of_only ho8 (s := [g]) (List.mem_singleton.2 rfl)) (by simp))
  have hs8 : t < w8.heap.size := by have := ho8.size; omega
  clear hr7 ht7 hq7 HO7 hrh7 hs7 ho8 H7
  go_wp2_with fail
  go_loopg [19] N (fun n v19 wr => ∃ (k : Nat) (stk : R.St) (acc : List Slp) (v : Value), k + n = N ∧ v19 = .int .i64 (k : Int) ∧ Hid (Ev.rSs N st7 [] = Ev.rSs n stk acc ∧ acc.length = k ∧ stk.1.length ≤ 4000000000) ∧ Rd wr g b stk ∧
      wr.ownsRow w8.heap.size 60 4 v k (svs acc) ∧ Has wr t 25 #[.string (S id), .int .i64 cls, .int .i64 born, .int .i64 slot, v, .bool gone, .slice B H.length cb] ∧ Mv w8 wr [g, t])
  case atStart => exact ⟨0, st7, [], .slice none 0 0, Nat.zero_add _, rfl, Lib.hid ⟨rfl, rfl, hcap7⟩, hr8, World.ownsRow_nil _ _ _ _, HT8.out, Mv.refl _ _⟩
  case round =>
    clear hr8
    obtain ⟨k, stk, acc, v, hkn, rfl, HK, hrk, hown, hTk, hmk⟩ := hrel
    cases gk with
    | zero =>
      obtain rfl : k = N := by omega
      have hlt : ¬ (k : Int) < (k : Int) := by omega
      have hfin : Ev.rSs k st7 [] = (acc, stk) := HK.out.1
      have hacc := HK.out.2.1
      have hres := HE.out
      rw [hfin] at hres
      obtain ⟨A, ca, rfl, hla, hma, -, -, hrowL⟩ := own_rowC (s := q :: s0) hown (by
        intro x hx
        rcases List.mem_cons.1 hx with rfl | hx
        · omega
        have := HS0.out x hx
        omega) (by decide)
      have hrh := HRH.out.mv hmk (by simp)
      have hqk := hmk.has HQ8.out (by simp; omega)
      have hOk := onlyMv HO8.out hmk (by have := HWQ.out; omega)
      have HEI : Hid (EntIn wr (q :: s0) ⟨id, cls, born, slot, acc, gone, H⟩ A ca B cb) := Lib.hid ⟨hrowL, hrh.sub (by
        intro x hx
        rcases List.mem_cons.1 hx with rfl | hx
        · exact List.mem_cons_of_mem _ (List.mem_cons_self ..)
        · exact List.mem_cons_of_mem _ (List.mem_cons_of_mem _ (List.mem_cons_of_mem _ hx))), by show acc.length ≤ _; omega, by simpa only [maxLen] using hma, HLB.out.1, by simpa only [maxLen] using HLB.out.2⟩
      have HTK := Lib.hid hTk
      have HQK := Lib.hid hqk
      have HOK := Lib.hid hOk
      injection hres with e1 e2
      subst e1
      subst e2
      clear hTk hqk hOk hrh hrowL hma hla hmk hown hfin HK HE HQ8 HT8 HO8 HRH
      go_upto_region 6 with fail
      refine wp_region_lit ?_
      refine wpList_load_row rfl 25 (.tmp 3) rfl t ?e1 _ _ _ _ HTK.out Try.underlying25 rfl entSize ?_
      case e1 => rfl
      refine wpList_store_row rfl 25 (.tmp 2) (.tmp 29) rfl q #[.string (S id), .int .i64 cls, .int .i64 born, .int .i64 slot, .slice A k ca, .bool gone, .slice B H.length cb] ?e2 ?e3 _ _ HQK.out entSize rfl (by simp [Value.oneCell']) ?_
      case e2 => rfl
      case e3 => rfl
      go_wp2_with fail
      refine ret_ent (p := 2) rfl q #[.string (S id), .int .i64 cls, .int .i64 born, .int .i64 slot, .slice A k ca, .bool gone, .slice B H.length cb] rfl rfl (setRow_heap _ _ _ _ _ _ HQK.out) rfl ⟨A, B, ca, cb, by rw [← hacc], ?_, ?_, ?_⟩
      · exact (HEI.out.mv (Mv.of_only (evOnlyRow _ _ _) (s := [q]) (by simp)) (by simp)).sub (fun x hx => List.mem_cons_of_mem _ hx)
      · exact hrk.only (evOnlyRow _ _ _) (by omega) (by omega)
      · exact HOK.out.fresh (evOnlyRow _ _ _) (by have := HWQ.out; omega)
    | succ n =>
      have hlt : (k : Int) < (N : Int) := by omega
      have hinc : IntKind.i64.wrap ((k : Int) + 1) = (k : Int) + 1 := by rw [IntKind.wrap_i64]; omega
      have hk12 : k ≤ 12 := by omega
      have HN := Lib.hid hkn
      have HRS := Lib.hid (fun W hW hbW => rslip_any g b stk W hW HK.out.2.2 hbW)
      have hrest := Ev.rS_rest stk
      have HST : Hid (Ev.rSs (n + 1) stk acc = Ev.rSs n (Ev.rS stk).2 (acc ++ [(Ev.rS stk).1])) := Lib.hid rfl
      generalize Ev.rS stk = z at HRS hrest HST
      obtain ⟨⟨zn, zp, zc, ze⟩, zst⟩ := z
      dsimp only at HRS hrest HST
      have HKN : Hid (Ev.rSs N st7 [] = Ev.rSs n zst (acc ++ [⟨zn, zp, zc, ze⟩]) ∧ (acc ++ [(⟨zn, zp, zc, ze⟩ : Slp)]).length = k + 1 ∧ zst.1.length ≤ 4000000000) := Lib.hid ⟨by rw [HK.out.1, HST.out], by rw [List.length_append, HK.out.2.1]; rfl, Nat.le_trans hrest HK.out.2.2⟩
      clear HK HST hrest hkn
      go_upto_region 4 with fail
      have hrd : Rd wr.drew g b stk := hrk.below (Below.refl _ wr).drew (Nat.le_refl _)
      have H3 : Hid (wr.drew.ownsRow w8.heap.size 60 4 v k (svs acc) ∧ Has wr.drew t 25 #[.string (S id), .int .i64 cls, .int .i64 born, .int .i64 slot, v, .bool gone, .slice B H.length cb] ∧ Mv w8 wr.drew [g, t]) := Lib.hid ⟨own_mv hown (Mv.of_below (Below.refl wr.heap.size wr).drew []) (by simp), hTk, hmk.drew⟩
      have c34 : wr.drew.cell? ⟨t, 4, none⟩ = some v := H3.out.2.1.cell 4
      have HGT : Hid (∀ W, Mv w8 W [g, t] → b < W.heap.size) := Lib.hid (fun W hW => by have := hW.size; omega)
      clear hrk hown hTk hmk
      refine wp_region_held_drew (S := fun _ => True) (by kernel_rfl) trivial (fun hHeld => ?_)
      generalize wr.drew = WD at hrd H3 c34 hHeld ⊢
      first
      | (refine take_wanted (i := 0) (v := ?_) rfl rfl (by kernel_rfl) (by kernel_rfl) (by kernel_rfl) (fun _ _ _ h => h) (by rfl) (by assumption) ?_ ?_; rotate_left; (focus (intro w hSw; (try dsimp only at hSw); go_simp; first | done | with_reducible rfl)); (simp only [Act.at, List.setIfInBounds_toArray, List.set_cons_zero, List.set_cons_succ]))
      | (refine take_unwanted (i := 0) rfl rfl (by kernel_rfl) (by kernel_rfl) (by kernel_rfl) (fun _ _ _ h => h) (by rfl) (by assumption) ?_; (simp only [Act.at, List.setIfInBounds_toArray, List.set_cons_zero, List.set_cons_succ]))
      first
      | (refine take_wanted (i := 2) (v := ?_) rfl rfl (by kernel_rfl) (by kernel_rfl) (by kernel_rfl) (fun _ _ _ h => h) (by rfl) (by assumption) ?_ ?_; rotate_left; (focus (intro w hSw; (try dsimp only at hSw); go_simp; first | done | with_reducible rfl)); (simp only [Act.at, List.setIfInBounds_toArray, List.set_cons_zero, List.set_cons_succ]))
      | (refine take_unwanted (i := 2) rfl rfl (by kernel_rfl) (by kernel_rfl) (by kernel_rfl) (fun _ _ _ h => h) (by rfl) (by assumption) ?_; (simp only [Act.at, List.setIfInBounds_toArray, List.set_cons_zero, List.set_cons_succ]))
      refine rdTwo (i := 1) (j := 3) (by kernel_rfl) rfl rfl (by rfl) (by rfl) (fun K hK => ?_) (fun K hK => ?_)
      · go_simp
        refine hK.out _ _ trivial (fun hHeld => ?_)
        clear hK K
        try simp only [Act.put, List.setIfInBounds_toArray, List.set_cons_zero, List.set_cons_succ]
        refine rdOne (i := 3) (by kernel_rfl) rfl (by rfl) (fun K hK => ?_)
        go_simp
        refine (HRS.out _ hrd (HGT.out _ H3.out.2.2)).mono ?_
        rintro r w4 ⟨rfl, hr4, ho4⟩
        have H4 : Hid (w4.ownsRow w8.heap.size 60 4 v k (svs acc) ∧ Has w4 t 25 #[.string (S id), .int .i64 cls, .int .i64 born, .int .i64 slot, v, .bool gone, .slice B H.length cb] ∧ Mv w8 w4 [g, t]) := Lib.hid ⟨own_mv H3.out.1 (Mv.of_only ho4 (s := [g]) (List.mem_singleton.2 rfl)) (by intro x hx; rw [List.mem_singleton.1 hx]; omega), ho4.has H3.out.2.1 (by omega : t ≠ g), H3.out.2.2.trans (Mv.of_only ho4 (by simp))⟩
        clear c34
        have c34 : w4.cell? ⟨t, 4, none⟩ = some v := H4.out.2.1.cell 4
        refine hK.out _ _ trivial (fun hHeld => ?_)
        clear hK K H3 ho4 hrd HRS
        try simp only [Act.put, List.setIfInBounds_toArray, List.set_cons_zero, List.set_cons_succ]
        refine rdOne (i := 4) (by kernel_rfl) rfl (by rfl) (fun K hK => ?_)
        go_simp
        have hba := (Below.refl w4.heap.size w4).alloc (Nat.le_refl _) (.cells #[.string (S zn), .string (S zp), .string (S zc), .bool ze] 60)
        have hr5 := hr4.below hba (Nat.le_refl _)
        have HM := Lib.hid (rdMadeSlip w4 zn zp zc ze)
        have H5 := Lib.hid (And.intro (own_mv H4.out.1 (Mv.of_below hba []) (by simp)) (And.intro (H4.out.2.1.below hba H4.out.2.1.lt) (H4.out.2.2.trans (Mv.of_below hba [g, t]))))
        clear c34
        have c34 : (w4.alloc (.cells #[.string (S zn), .string (S zp), .string (S zc), .bool ze] 60)).cell? ⟨t, 4, none⟩ = some v := H5.out.2.1.cell 4
        refine hK.out _ _ trivial (fun hHeld => ?_)
        clear hK K hba H4 hr4
        try simp only [Act.put, List.setIfInBounds_toArray, List.set_cons_zero, List.set_cons_succ]
        generalize w4.heap.size = ab at HM ⊢
        generalize w4.alloc (.cells #[.string (S zn), .string (S zp), .string (S zc), .bool ze] 60) = W8 at HM H5 hr5 c34 hHeld ⊢
        refine rdOne (i := 5) (by kernel_rfl) rfl (by rfl) (fun K hK => ?_)
        refine wp_append_lies W8 (.tmp 22) (.tmp 25) 22 rfl w8.heap.size 60 i0 (.agg #[.string ⟨#[]⟩, .string ⟨#[]⟩, .string ⟨#[]⟩, .bool false]) 4 56 Try.underlying22 HI.out.1 HI.out.2.1 HI.out.2.2.1 HI.out.2.2.2 rfl (by decide) v k (svs acc) rfl H5.out.1 ⟨ab, 0, none⟩ 1 1 (⟨zn, zp, zc, ze⟩ : Slp).cs rfl rfl HM.out (by intro u hu; simp [Slp.cs] at hu; rcases hu with rfl | rfl | rfl | rfl <;> rfl) (by decide) (by simp only [maxLen]; omega) (by omega) H5.out.2.2.size _ rfl ?_
        intro g9 cp9 W9 hown9 hg9 _ hlt9
        rw [svs_snoc] at hown9
        have hrow : ∀ q, v.ownBlock = some q → w8.heap.size ≤ q := fun q hq => (H5.out.1.lt q hq).1
        have hT9 : Has W9 t 25 #[.string (S id), .int .i64 cls, .int .i64 born, .int .i64 slot, v, .bool gone, .slice B H.length cb] := (hg9.block _ H5.out.2.1.lt (fun e => by have := hrow _ e.symm; omega)).trans H5.out.2.1
        have hm9 : Mv w8 W9 [g, t] := H5.out.2.2.own hg9 hrow
        have hr9 := hr5.grown hg9 (fun e => by have := hrow _ e.symm; omega) (fun e => by have := hrow _ e.symm; omega)
        refine hK.out _ _ trivial (fun hHeld => ?_)
        clear hK K
        try simp only [Act.put, List.setIfInBounds_toArray]
        first
        | (refine take_wanted (i := 6) (v := ?_) rfl rfl (by kernel_rfl) (by kernel_rfl) (by kernel_rfl) (fun _ _ _ h => h) (by rfl) (by assumption) ?_ ?_; rotate_left; (focus (intro w hSw; (try dsimp only at hSw); go_simp; first | done | with_reducible rfl)); (simp only [Act.at]))
        | (refine take_unwanted (i := 6) rfl rfl (by kernel_rfl) (by kernel_rfl) (by kernel_rfl) (fun _ _ _ h => h) (by rfl) (by assumption) ?_; (simp only [Act.at, List.setIfInBounds_toArray, List.set_cons_zero, List.set_cons_succ]))
        have d4 : W9.cell? ⟨t, 4, none⟩ = some v := hT9.cell 4
        have f4 := hT9.free 4
        have hs9 : Only W9 (W9.setCell ⟨t, 4, none⟩ (.slice (some ⟨g9, 0, none⟩) (k + 1) cp9)) t := Only.set _ _ _ _
        have HREL : Hid (Rd (W9.setCell ⟨t, 4, none⟩ (.slice (some ⟨g9, 0, none⟩) (k + 1) cp9)) g b zst ∧ (W9.setCell ⟨t, 4, none⟩ (.slice (some ⟨g9, 0, none⟩) (k + 1) cp9)).ownsRow w8.heap.size 60 4 (.slice (some ⟨g9, 0, none⟩) (k + 1) cp9) (k + 1) (svs (acc ++ [⟨zn, zp, zc, ze⟩])) ∧
            Has (W9.setCell ⟨t, 4, none⟩ (.slice (some ⟨g9, 0, none⟩) (k + 1) cp9)) t 25 #[.string (S id), .int .i64 cls, .int .i64 born, .int .i64 slot, (.slice (some ⟨g9, 0, none⟩) (k + 1) cp9), .bool gone, .slice B H.length cb] ∧ Mv w8 (W9.setCell ⟨t, 4, none⟩ (.slice (some ⟨g9, 0, none⟩) (k + 1) cp9)) [g, t]) := Lib.hid ⟨hr9.only hs9 (by omega) (by omega), own_mv hown9 (Mv.of_only hs9 (s := [t]) (by simp)) (by intro x hx; rw [List.mem_singleton.1 hx]; exact hs8), by simpa using hT9.set 4 (.slice (some ⟨g9, 0, none⟩) (k + 1) cp9), hm9.trans (Mv.of_only hs9 (by simp))⟩
        clear hs9 hr9 hm9 hT9 hown9 hg9 hrow hlt9 hr5 H5 c34
        refine rdOne (i := 7) (by kernel_rfl) rfl (by rfl) (fun K hK => ?_)
        go_simp
        refine hK.out _ _ trivial (fun hHeld => ?_)
        clear hK K d4 f4
        try simp only [Act.put, List.setIfInBounds_toArray, List.set_cons_zero, List.set_cons_succ]
        refine wpAnyH_done (by kernel_rfl) ?_ _
        go_wp2_with fail
        go_roundg n
        case measure => omega
        case rel => exact ⟨k + 1, zst, acc ++ [⟨zn, zp, zc, ze⟩], (.slice (some ⟨g9, 0, none⟩) (k + 1) cp9), by have := HN.out; omega, by go_num, HKN, HREL.out.1, HREL.out.2.1, HREL.out.2.2.1, HREL.out.2.2.2⟩
      · go_simp
        refine (HRS.out _ hrd (HGT.out _ H3.out.2.2)).mono ?_
        rintro r w4 ⟨rfl, hr4, ho4⟩
        have H4 : Hid (w4.ownsRow w8.heap.size 60 4 v k (svs acc) ∧ Has w4 t 25 #[.string (S id), .int .i64 cls, .int .i64 born, .int .i64 slot, v, .bool gone, .slice B H.length cb] ∧ Mv w8 w4 [g, t]) := Lib.hid ⟨own_mv H3.out.1 (Mv.of_only ho4 (s := [g]) (List.mem_singleton.2 rfl)) (by intro x hx; rw [List.mem_singleton.1 hx]; omega), ho4.has H3.out.2.1 (by omega : t ≠ g), H3.out.2.2.trans (Mv.of_only ho4 (by simp))⟩
        clear c34
        have c34 : w4.cell? ⟨t, 4, none⟩ = some v := H4.out.2.1.cell 4
        refine hK.out _ _ trivial (fun hHeld => ?_)
        clear hK K H3 ho4 hrd HRS
        try simp only [Act.put, List.setIfInBounds_toArray, List.set_cons_zero, List.set_cons_succ]
        refine rdTwo (i := 1) (j := 4) (by kernel_rfl) rfl rfl (by rfl) (by rfl) (fun K hK => ?_) (fun K hK => ?_)
        · go_simp
          refine hK.out _ _ trivial (fun hHeld => ?_)
          clear hK K
          try simp only [Act.put, List.setIfInBounds_toArray, List.set_cons_zero, List.set_cons_succ]
          refine rdOne (i := 4) (by kernel_rfl) rfl (by rfl) (fun K hK => ?_)
          go_simp
          have hba := (Below.refl w4.heap.size w4).alloc (Nat.le_refl _) (.cells #[.string (S zn), .string (S zp), .string (S zc), .bool ze] 60)
          have hr5 := hr4.below hba (Nat.le_refl _)
          have HM := Lib.hid (rdMadeSlip w4 zn zp zc ze)
          have H5 := Lib.hid (And.intro (own_mv H4.out.1 (Mv.of_below hba []) (by simp)) (And.intro (H4.out.2.1.below hba H4.out.2.1.lt) (H4.out.2.2.trans (Mv.of_below hba [g, t]))))
          clear c34
          have c34 : (w4.alloc (.cells #[.string (S zn), .string (S zp), .string (S zc), .bool ze] 60)).cell? ⟨t, 4, none⟩ = some v := H5.out.2.1.cell 4
          refine hK.out _ _ trivial (fun hHeld => ?_)
          clear hK K hba H4 hr4
          try simp only [Act.put, List.setIfInBounds_toArray, List.set_cons_zero, List.set_cons_succ]
          generalize w4.heap.size = ab at HM ⊢
          generalize w4.alloc (.cells #[.string (S zn), .string (S zp), .string (S zc), .bool ze] 60) = W8 at HM H5 hr5 c34 hHeld ⊢
          refine rdOne (i := 5) (by kernel_rfl) rfl (by rfl) (fun K hK => ?_)
          refine wp_append_lies W8 (.tmp 22) (.tmp 25) 22 rfl w8.heap.size 60 i0 (.agg #[.string ⟨#[]⟩, .string ⟨#[]⟩, .string ⟨#[]⟩, .bool false]) 4 56 Try.underlying22 HI.out.1 HI.out.2.1 HI.out.2.2.1 HI.out.2.2.2 rfl (by decide) v k (svs acc) rfl H5.out.1 ⟨ab, 0, none⟩ 1 1 (⟨zn, zp, zc, ze⟩ : Slp).cs rfl rfl HM.out (by intro u hu; simp [Slp.cs] at hu; rcases hu with rfl | rfl | rfl | rfl <;> rfl) (by decide) (by simp only [maxLen]; omega) (by omega) H5.out.2.2.size _ rfl ?_
          intro g9 cp9 W9 hown9 hg9 _ hlt9
          rw [svs_snoc] at hown9
          have hrow : ∀ q, v.ownBlock = some q → w8.heap.size ≤ q := fun q hq => (H5.out.1.lt q hq).1
          have hT9 : Has W9 t 25 #[.string (S id), .int .i64 cls, .int .i64 born, .int .i64 slot, v, .bool gone, .slice B H.length cb] := (hg9.block _ H5.out.2.1.lt (fun e => by have := hrow _ e.symm; omega)).trans H5.out.2.1
          have hm9 : Mv w8 W9 [g, t] := H5.out.2.2.own hg9 hrow
          have hr9 := hr5.grown hg9 (fun e => by have := hrow _ e.symm; omega) (fun e => by have := hrow _ e.symm; omega)
          refine hK.out _ _ trivial (fun hHeld => ?_)
          clear hK K
          try simp only [Act.put, List.setIfInBounds_toArray]
          first
          | (refine take_wanted (i := 6) (v := ?_) rfl rfl (by kernel_rfl) (by kernel_rfl) (by kernel_rfl) (fun _ _ _ h => h) (by rfl) (by assumption) ?_ ?_; rotate_left; (focus (intro w hSw; (try dsimp only at hSw); go_simp; first | done | with_reducible rfl)); (simp only [Act.at]))
          | (refine take_unwanted (i := 6) rfl rfl (by kernel_rfl) (by kernel_rfl) (by kernel_rfl) (fun _ _ _ h => h) (by rfl) (by assumption) ?_; (simp only [Act.at, List.setIfInBounds_toArray, List.set_cons_zero, List.set_cons_succ]))
          have d4 : W9.cell? ⟨t, 4, none⟩ = some v := hT9.cell 4
          have f4 := hT9.free 4
          have hs9 : Only W9 (W9.setCell ⟨t, 4, none⟩ (.slice (some ⟨g9, 0, none⟩) (k + 1) cp9)) t := Only.set _ _ _ _
          have HREL : Hid (Rd (W9.setCell ⟨t, 4, none⟩ (.slice (some ⟨g9, 0, none⟩) (k + 1) cp9)) g b zst ∧ (W9.setCell ⟨t, 4, none⟩ (.slice (some ⟨g9, 0, none⟩) (k + 1) cp9)).ownsRow w8.heap.size 60 4 (.slice (some ⟨g9, 0, none⟩) (k + 1) cp9) (k + 1) (svs (acc ++ [⟨zn, zp, zc, ze⟩])) ∧
              Has (W9.setCell ⟨t, 4, none⟩ (.slice (some ⟨g9, 0, none⟩) (k + 1) cp9)) t 25 #[.string (S id), .int .i64 cls, .int .i64 born, .int .i64 slot, (.slice (some ⟨g9, 0, none⟩) (k + 1) cp9), .bool gone, .slice B H.length cb] ∧ Mv w8 (W9.setCell ⟨t, 4, none⟩ (.slice (some ⟨g9, 0, none⟩) (k + 1) cp9)) [g, t]) := Lib.hid ⟨hr9.only hs9 (by omega) (by omega), own_mv hown9 (Mv.of_only hs9 (s := [t]) (by simp)) (by intro x hx; rw [List.mem_singleton.1 hx]; exact hs8), by simpa using hT9.set 4 (.slice (some ⟨g9, 0, none⟩) (k + 1) cp9), hm9.trans (Mv.of_only hs9 (by simp))⟩
          clear hs9 hr9 hm9 hT9 hown9 hg9 hrow hlt9 hr5 H5 c34
          refine rdOne (i := 7) (by kernel_rfl) rfl (by rfl) (fun K hK => ?_)
          go_simp
          refine hK.out _ _ trivial (fun hHeld => ?_)
          clear hK K d4 f4
          try simp only [Act.put, List.setIfInBounds_toArray, List.set_cons_zero, List.set_cons_succ]
          refine wpAnyH_done (by kernel_rfl) ?_ _
          go_wp2_with fail
          go_roundg n
          case measure => omega
          case rel => exact ⟨k + 1, zst, acc ++ [⟨zn, zp, zc, ze⟩], (.slice (some ⟨g9, 0, none⟩) (k + 1) cp9), by have := HN.out; omega, by go_num, HKN, HREL.out.1, HREL.out.2.1, HREL.out.2.2.1, HREL.out.2.2.2⟩
        · go_simp
          have hba := (Below.refl w4.heap.size w4).alloc (Nat.le_refl _) (.cells #[.string (S zn), .string (S zp), .string (S zc), .bool ze] 60)
          have hr5 := hr4.below hba (Nat.le_refl _)
          have HM := Lib.hid (rdMadeSlip w4 zn zp zc ze)
          have H5 := Lib.hid (And.intro (own_mv H4.out.1 (Mv.of_below hba []) (by simp)) (And.intro (H4.out.2.1.below hba H4.out.2.1.lt) (H4.out.2.2.trans (Mv.of_below hba [g, t]))))
          clear c34
          have c34 : (w4.alloc (.cells #[.string (S zn), .string (S zp), .string (S zc), .bool ze] 60)).cell? ⟨t, 4, none⟩ = some v := H5.out.2.1.cell 4
          refine hK.out _ _ trivial (fun hHeld => ?_)
          clear hK K hba H4 hr4
          try simp only [Act.put, List.setIfInBounds_toArray, List.set_cons_zero, List.set_cons_succ]
          generalize w4.heap.size = ab at HM ⊢
          generalize w4.alloc (.cells #[.string (S zn), .string (S zp), .string (S zc), .bool ze] 60) = W8 at HM H5 hr5 c34 hHeld ⊢
          refine rdOne (i := 1) (by kernel_rfl) rfl (by rfl) (fun K hK => ?_)
          go_simp
          refine hK.out _ _ trivial (fun hHeld => ?_)
          clear hK K
          try simp only [Act.put, List.setIfInBounds_toArray, List.set_cons_zero, List.set_cons_succ]
          refine rdOne (i := 5) (by kernel_rfl) rfl (by rfl) (fun K hK => ?_)
          refine wp_append_lies W8 (.tmp 22) (.tmp 25) 22 rfl w8.heap.size 60 i0 (.agg #[.string ⟨#[]⟩, .string ⟨#[]⟩, .string ⟨#[]⟩, .bool false]) 4 56 Try.underlying22 HI.out.1 HI.out.2.1 HI.out.2.2.1 HI.out.2.2.2 rfl (by decide) v k (svs acc) rfl H5.out.1 ⟨ab, 0, none⟩ 1 1 (⟨zn, zp, zc, ze⟩ : Slp).cs rfl rfl HM.out (by intro u hu; simp [Slp.cs] at hu; rcases hu with rfl | rfl | rfl | rfl <;> rfl) (by decide) (by simp only [maxLen]; omega) (by omega) H5.out.2.2.size _ rfl ?_
          intro g9 cp9 W9 hown9 hg9 _ hlt9
          rw [svs_snoc] at hown9
          have hrow : ∀ q, v.ownBlock = some q → w8.heap.size ≤ q := fun q hq => (H5.out.1.lt q hq).1
          have hT9 : Has W9 t 25 #[.string (S id), .int .i64 cls, .int .i64 born, .int .i64 slot, v, .bool gone, .slice B H.length cb] := (hg9.block _ H5.out.2.1.lt (fun e => by have := hrow _ e.symm; omega)).trans H5.out.2.1
          have hm9 : Mv w8 W9 [g, t] := H5.out.2.2.own hg9 hrow
          have hr9 := hr5.grown hg9 (fun e => by have := hrow _ e.symm; omega) (fun e => by have := hrow _ e.symm; omega)
          refine hK.out _ _ trivial (fun hHeld => ?_)
          clear hK K
          try simp only [Act.put, List.setIfInBounds_toArray]
          first
          | (refine take_wanted (i := 6) (v := ?_) rfl rfl (by kernel_rfl) (by kernel_rfl) (by kernel_rfl) (fun _ _ _ h => h) (by rfl) (by assumption) ?_ ?_; rotate_left; (focus (intro w hSw; (try dsimp only at hSw); go_simp; first | done | with_reducible rfl)); (simp only [Act.at]))
          | (refine take_unwanted (i := 6) rfl rfl (by kernel_rfl) (by kernel_rfl) (by kernel_rfl) (fun _ _ _ h => h) (by rfl) (by assumption) ?_; (simp only [Act.at, List.setIfInBounds_toArray, List.set_cons_zero, List.set_cons_succ]))
          have d4 : W9.cell? ⟨t, 4, none⟩ = some v := hT9.cell 4
          have f4 := hT9.free 4
          have hs9 : Only W9 (W9.setCell ⟨t, 4, none⟩ (.slice (some ⟨g9, 0, none⟩) (k + 1) cp9)) t := Only.set _ _ _ _
          have HREL : Hid (Rd (W9.setCell ⟨t, 4, none⟩ (.slice (some ⟨g9, 0, none⟩) (k + 1) cp9)) g b zst ∧ (W9.setCell ⟨t, 4, none⟩ (.slice (some ⟨g9, 0, none⟩) (k + 1) cp9)).ownsRow w8.heap.size 60 4 (.slice (some ⟨g9, 0, none⟩) (k + 1) cp9) (k + 1) (svs (acc ++ [⟨zn, zp, zc, ze⟩])) ∧
              Has (W9.setCell ⟨t, 4, none⟩ (.slice (some ⟨g9, 0, none⟩) (k + 1) cp9)) t 25 #[.string (S id), .int .i64 cls, .int .i64 born, .int .i64 slot, (.slice (some ⟨g9, 0, none⟩) (k + 1) cp9), .bool gone, .slice B H.length cb] ∧ Mv w8 (W9.setCell ⟨t, 4, none⟩ (.slice (some ⟨g9, 0, none⟩) (k + 1) cp9)) [g, t]) := Lib.hid ⟨hr9.only hs9 (by omega) (by omega), own_mv hown9 (Mv.of_only hs9 (s := [t]) (by simp)) (by intro x hx; rw [List.mem_singleton.1 hx]; exact hs8), by simpa using hT9.set 4 (.slice (some ⟨g9, 0, none⟩) (k + 1) cp9), hm9.trans (Mv.of_only hs9 (by simp))⟩
          clear hs9 hr9 hm9 hT9 hown9 hg9 hrow hlt9 hr5 H5 c34
          refine rdOne (i := 7) (by kernel_rfl) rfl (by rfl) (fun K hK => ?_)
          go_simp
          refine hK.out _ _ trivial (fun hHeld => ?_)
          clear hK K d4 f4
          try simp only [Act.put, List.setIfInBounds_toArray, List.set_cons_zero, List.set_cons_succ]
          refine wpAnyH_done (by kernel_rfl) ?_ _
          go_wp2_with fail
          go_roundg n
          case measure => omega
          case rel => exact ⟨k + 1, zst, acc ++ [⟨zn, zp, zc, ze⟩], (.slice (some ⟨g9, 0, none⟩) (k + 1) cp9), by have := HN.out; omega, by go_num, HKN, HREL.out.1, HREL.out.2.1, HREL.out.2.2.1, HREL.out.2.2.2⟩
end Go.Proofs.Ytihhgingdgepcaa
