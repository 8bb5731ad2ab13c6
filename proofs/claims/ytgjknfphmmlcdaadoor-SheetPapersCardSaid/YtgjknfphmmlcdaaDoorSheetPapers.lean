/-
  The contract of SheetPapers.
-/
import Derived.Test.YtgjknfphmmlcdaaDoorShtEntry
import Derived.Test.YtgjknfphmmlcdaaDoorShtFew
import Derived.Test.YtgjknfphmmlcdaaDoorShtArg
import Derived.Test.YtgjknfphmmlcdaaDoorShtAwake
import Derived.Test.YtgjknfphmmlcdaaDoorLaw
import Derived.Test.YtgjknfphmmlcdaaDoorRows
namespace Go.Proofs.YtgjknfphmmlcdaaDoor
open Go.ChangeShapes Go.WideShapes Go.ChangeAt Go.RowKit
open Go.ChangeMaps (open_string shut_string)
set_option linter.unusedVariables false

theorem MkW.turn8 {w w' : World} {g nb gp : Nat} {l : List Mill.En} {st : Mill.St} (h : MkW w g nb none l st) (ho : Only w w' gp) (h1 : gp ≠ g) (h2 : gp ≠ nb) (h3 : 2 ≤ gp) : MkW w' g nb none l st := by
  have hv := Mv.of_only ho (s := [gp]) (by simp)
  refine ⟨h.m.mv hv ?_ ?_ (fun b hb => by cases hb), hv.tabs h.t (fun x hx => ?_), h.g2, h.n2⟩
  · simp only [List.mem_cons, List.not_mem_nil, or_false]; exact fun e => h1 e.symm
  · simp only [List.mem_cons, List.not_mem_nil, or_false]; exact fun e => h2 e.symm
  · simp only [List.mem_cons, List.not_mem_nil, or_false] at hx; omega
/-- A stored paper in block w.heap.size, and a mill behind it. -/
structure EtW (w W : World) (st : Mill.St) (id : List UInt8) (cls born slot : Int) (A : Option Addr) (R : List Slp) (cap : Nat) (gone : Bool) (hd : Value) : Prop where
  m : MkW W (w.heap.size + 2) (w.heap.size + 1) none [] st
  h : Has W w.heap.size 37 #[.string (S id), .int .i64 cls, .int .i64 born, .int .i64 slot, .slice A R.length cap, .bool gone, hd]
  b : Below w.heap.size w W
  r : RowP W [w.heap.size + 2, w.heap.size + 1, w.heap.size] A R
theorem EtW.step {w W W' : World} {st st' : Mill.St} {id : List UInt8} {cls born slot : Int} {A : Option Addr} {R : List Slp} {cap : Nat} {gone : Bool} {hd : Value} (h : EtW w W st id cls born slot A R cap gone hd) (hm : MkW W' (w.heap.size + 2) (w.heap.size + 1) none [] st') (hv : Mv W W' [w.heap.size + 2, w.heap.size + 1]) : EtW w W' st' id cls born slot A R cap gone hd :=
  ⟨hm, hv.has h.h (by simp only [List.mem_cons, List.not_mem_nil, or_false]; omega), slip_tied hv (by omega) (by omega) h.b.size h.b, RowC.mv h.r hv (fun x hx => by simp only [List.mem_cons, List.not_mem_nil, or_false] at hx ⊢; omega)⟩
theorem EtW.below {w W W' : World} {st : Mill.St} {id : List UInt8} {cls born slot : Int} {A : Option Addr} {R : List Slp} {cap : Nat} {gone : Bool} {hd : Value} (h : EtW w W st id cls born slot A R cap gone hd) (hb : Below W.heap.size W W') : EtW w W' st id cls born slot A R cap gone hd := h.step (h.m.below hb) (Mv.of_below hb _)
theorem EtW.awake {w W : World} {st : Mill.St} {id : List UInt8} {cls born slot : Int} {A : Option Addr} {R : List Slp} {cap : Nat} {gone : Bool} {hd : Value} (h : EtW w W st id cls born slot A R cap gone hd) : Calls Tryd.prog 15 #[] W fun e w' => e = .returned (.bool true) ∧ Below w.heap.size w w' :=
  (slAwake_any W h.m.t).mono fun e w' ⟨he, hb⟩ => ⟨he, h.b.trans (hb.mono h.b.size)⟩
theorem paper_few (L : List Slp) : Sht.Short (Sht.few L) := fun x hx => by have := Sht.few_short L x hx; omega
abbrev NumFn (g : Int) (W : World) : Prop := Calls Tryd.prog 17 #[.int .i64 g] W fun e w' => e = .returned (.string (S (M.encL g))) ∧ Below W.heap.size W w'

set_option maxHeartbeats 8000000 in
set_option maxRecDepth 100000 in
theorem sheetPapers_any (id : List UInt8) (cls born slot : Int) (A : Option Addr) (L : List Slp) (cap : Nat) (gone : Bool) (hd : Value) (w : World) (hcap : L.length ≤ cap) (hcm : cap ≤ 9223372036854775807) (hrow : RowP w [] A L) (hT : Tabs w) :
    Calls Tryd.prog 4 #[.agg #[.string (S id), .int .i64 cls, .int .i64 born, .int .i64 slot, .slice A L.length cap, .bool gone, hd]] w fun e w' => e = .returned (.bool true) ∧ Below w.heap.size w w' := by
  have hT2 := hT.2.2
  have HF := Lib.hid (fun W (hb : Below w.heap.size w W) => slFew_any A L cap W hcap hcm (RowC.below hrow hb))
  unfold SlpPost at HF
  have hfl := Sht.few_len L
  have hsh := paper_few L
  have hb0 : Below w.heap.size w (w.alloc (.cells #[.string (S id), .int .i64 cls, .int .i64 born, .int .i64 slot, .slice A L.length cap, .bool gone, hd] 37)) := (Below.refl _ _).alloc (Nat.le_refl _) _
  have hH0 : Has (w.alloc (.cells #[.string (S id), .int .i64 cls, .int .i64 born, .int .i64 slot, .slice A L.length cap, .bool gone, hd] 37)) w.heap.size 37 #[.string (S id), .int .i64 cls, .int .i64 born, .int .i64 slot, .slice A L.length cap, .bool gone, hd] := Has.made _ _ _
  have hs0 : (w.alloc (.cells #[.string (S id), .int .i64 cls, .int .i64 born, .int .i64 slot, .slice A L.length cap, .bool gone, hd] 37)).heap.size = w.heap.size + 1 := by simp
  have hT0 := hT.below hb0 hT2
  generalize L.length = n0 at *
  generalize Sht.few L = R at *
  have H0 := Lib.hid (And.intro hb0 (And.intro hH0 hT0)); clear hb0 hH0 hT0 hT hrow hcap hcm
  have hsum32 := Sht.root_32' [] rfl _ (Sht.leaves_sums [] rfl R)
  have hrl := Sht.rootT_len [] R
  have HRT := Lib.hid (fun A3 cap3 W st (hc : R.length ≤ cap3) (hm' : cap3 ≤ 9223372036854775807) (hr : RowP W [w.heap.size + 2, w.heap.size + 1] A3 R) (hs : st.sums ≤ 1000000) hM => shRoot_any (w.heap.size + 2) (w.heap.size + 1) none [] rfl A3 R cap3 st W (by omega) hc hm' hr hsh (by omega) hM)
  have HPA0 := Lib.hid (fun (id1 : List UInt8) (hl : id1.length ≤ 100) W st (hs : st.sums ≤ 1000000) hM => shPaper_any (w.heap.size + 2) (w.heap.size + 1) none [] rfl st W id1 cls born (R.length : Int) (Mk.root [] (Sht.leaves [] R)) hM (by omega) (by omega) (by omega))
  have HEN0 := Lib.hid (fun (id1 : List UInt8) (hl : id1.length ≤ 100) A3 cap3 W st (hc : R.length ≤ cap3) (hm' : cap3 ≤ 9223372036854775807) (hr : RowP W [w.heap.size + 2, w.heap.size + 1] A3 R) (hs : st.sums ≤ 1000000) hM => shEntry_any (w.heap.size + 2) (w.heap.size + 1) none [] rfl st W id1 cls born slot A3 R cap3 gone hd hM (by omega) (by omega) hc hm' hr hsh (by omega))
  have HLF0 := Lib.hid (fun (id1 : List UInt8) (hl : id1.length ≤ 100) W st (hs : st.sums ≤ 1000000) hM => mkLeaf_any (w.heap.size + 2) (w.heap.size + 1) none [] rfl st W (Sht.paperB id1 cls born (R.length : Int) (Mk.root [] (Sht.leaves [] R))) hM (by have := Sht.paperB_len id1 cls born (R.length : Int) (Mk.root [] (Sht.leaves [] R)); omega) (by omega))
  have hen : ¬ M.encL (R.length : Int) = [] := by
    unfold M.encL
    rw [if_pos (by omega)]
    intro e; cases e
  have HQ0 : Hid (∀ id1 : List UInt8, (M.encL cls = [] ∧ Sht.paperV [] id1 cls born (R.length : Int) (Mk.root [] (Sht.leaves [] R)) = []) ∨ ((M.encL cls == []) = false ∧ M.encL born = [] ∧ Sht.paperV [] id1 cls born (R.length : Int) (Mk.root [] (Sht.leaves [] R)) = []) ∨
      ((M.encL cls == []) = false ∧ (M.encL born == []) = false ∧ Sht.paperV [] id1 cls born (R.length : Int) (Mk.root [] (Sht.leaves [] R)) = Mill.hash [] (0 :: Sht.paperB id1 cls born (R.length : Int) (Mk.root [] (Sht.leaves [] R))))) := fun id1 => by
    unfold Sht.paperV Sht.paperBad
    by_cases h1 : M.encL cls = []
    · exact Or.inl ⟨h1, by rw [if_pos (by rw [decide_eq_true h1]; rfl)]⟩
    · have h1' : (M.encL cls == []) = false := by simpa using h1
      by_cases h2 : M.encL born = []
      · exact Or.inr (Or.inl ⟨h1', h2, by rw [if_pos (by rw [decide_eq_true h2, Bool.or_true]; rfl)]⟩)
      · exact Or.inr (Or.inr ⟨h1', by simpa using h2, by rw [if_neg (by rw [decide_eq_false h1, decide_eq_false h2, decide_eq_false hen]; decide)]⟩)
  have htyl := Sht.txt_len (Mk.root [] (Sht.leaves [] R))
  have HTY := Lib.hid (fun W => stxt_any (Mk.root [] (Sht.leaves [] R)) W (by omega))
  have HNU := Lib.hid (And.intro (fun W => num_any cls W) (And.intro (fun W => num_any born W) (fun W => num_any (R.length : Int) W)))
  have e1 := M.encL_len cls
  have e2 := M.encL_len born
  have e3 := M.encL_len (R.length : Int)
  unfold MkPost at HRT HPA0 HEN0 HLF0
  unfold Sht.paperB at HLF0 HQ0
  simp only [List.append_assoc] at HLF0 HQ0
  generalize Mk.root [] (Sht.leaves [] R) = y at *
  generalize Sht.rootT [] R = tq at *
  generalize Sht.txt y = ty at *
  generalize M.encL cls = ec at *
  generalize M.encL born = eb at *
  generalize M.encL (R.length : Int) = en at *
  go_enter Tryd.func4, Tryd.ntmps4
  go_upto_region 1 with (fail)
  generalize w.alloc (.cells #[.string (S id), .int .i64 cls, .int .i64 born, .int .i64 slot, .slice A n0 cap, .bool gone, hd] 37) = W0 at H0 hs0 ⊢
  go_wp2_with fail
  refine (newMill_tv W0).mono ?_
  rintro r1 w1 ⟨rfl, hM1, hb1, hs1⟩
  rw [hs0] at hM1 ⊢
  have hm1 : MkW w1 (w.heap.size + 2) (w.heap.size + 1) none [] Mill.fresh := ⟨hM1, H0.out.2.2.below hb1 (by omega), by omega, by omega⟩
  have hh1 := H0.out.2.1.below hb1 H0.out.2.1.lt
  have hb1' := H0.out.1.trans (hb1.mono (by omega))
  have hf0 : Mill.fresh.sums = 0 := rfl
  generalize Mill.fresh = s0 at hm1 hf0
  have hz1 : w.heap.size + 3 ≤ w1.heap.size := by omega
  clear hM1 hb1 H0 hs0 hs1 W0
  rw [show w.heap.size + 1 + 1 = w.heap.size + 2 from rfl]
  rcases cut_or id with h100 | ⟨h100, ht⟩
  case' inl =>
    have c0 := hh1.cell 0
    have f0 := hh1.free 0
    have hgl := hh1.lt
    go_upto_region 4 with (fail)
    have hh2 : Has (w1.setCell ⟨w.heap.size, 0, none⟩ (.string (S (id.take 100)))) w.heap.size 37 #[.string (S (id.take 100)), .int .i64 cls, .int .i64 born, .int .i64 slot, .slice A n0 cap, .bool gone, hd] := by simpa using hh1.set 0 (.string (S (id.take 100)))
    have ho := Only.set w1 w.heap.size 0 (.string (S (id.take 100)))
    have hm2 := hm1.turn8 ho (by omega) (by omega) (by omega)
    have hb2 := ho.below hb1' (by omega) (Nat.le_refl _)
    have hz2 : w.heap.size + 3 ≤ (w1.setCell ⟨w.heap.size, 0, none⟩ (.string (S (id.take 100)))).heap.size := by have := ho.size; omega
    have hl0 : (id.take 100).length ≤ 100 := by rw [List.length_take]; omega
    generalize hw2 : w1.setCell ⟨w.heap.size, 0, none⟩ (.string (S (id.take 100))) = w2 at *
    clear ho c0 f0 hgl hh1 hm1 hb1' hw2
    generalize id.take 100 = id1 at hh2 hl0
  case' inr =>
    have c0 := hh1.cell 0
    go_upto_region 4 with (fail)
    clear c0
    have hl0 : id.length ≤ 100 := by omega
    obtain ⟨id1, hl0, hh2⟩ : ∃ id1, id1.length ≤ 100 ∧ Has w1 w.heap.size 37 #[.string (S id1), .int .i64 cls, .int .i64 born, .int .i64 slot, .slice A n0 cap, .bool gone, hd] := ⟨id, hl0, hh1⟩
    have hm2 := hm1
    have hb2 := hb1'
    have hz2 := hz1
    clear ht hh1 hm1 hb1'
    generalize w1 = w2 at *
  all_goals
    have H2 := Lib.hid (And.intro hm2 (And.intro hh2 hb2)); clear hm2 hh2 hb2 h100
    have HPA := Lib.hid (HPA0.out id1 hl0)
    have HEN := Lib.hid (HEN0.out id1 hl0)
    have HLF := Lib.hid (HLF0.out id1 hl0)
    have HQ := Lib.hid (HQ0.out id1)
    have HTX := Lib.hid (fun W => stxt_any id1 W (by omega))
    have hlt := Sht.txt_len id1
    clear HPA0 HEN0 HLF0 HQ0
    generalize Sht.paperV [] id1 cls born (R.length : Int) y = v at *
    have htp := Sht.paperTs_len id1 cls born (R.length : Int) y
    generalize Sht.paperTs id1 cls born (R.length : Int) y = tp at *
    generalize Sht.txt id1 = ti at *
    have c4 := H2.out.2.1.cell 4
    go_wp2_with fail
    refine (HF.out _ H2.out.2.2).mono ?_
    rintro e w3 ⟨v3, rfl, hown, hb3⟩
    obtain ⟨A3, cap3, rfl, hc3, hcm3, _, _, hR3⟩ := own_rowC (s := [w.heap.size + 2, w.heap.size + 1, w.heap.size]) hown (fun x hx => by simp only [List.mem_cons, List.not_mem_nil, or_false] at hx; omega) (by decide)
    have hcm3' : cap3 ≤ 9223372036854775807 := by simpa only [maxLen] using hcm3
    have hh3 := H2.out.2.1.below hb3 H2.out.2.1.lt
    have hm3 := H2.out.1.below hb3
    have hb3' := H2.out.2.2.trans (hb3.mono (by omega))
    have hz3 : w.heap.size + 3 ≤ w3.heap.size := by have := hb3.size; omega
    clear c4 H2 hown hb3 hcm3 HF
    have c4 := hh3.cell 4
    have f4 := hh3.free 4
    have hgl := hh3.lt
    go_upto_region 5 with (fail)
    have hh4 : Has (w3.setCell ⟨w.heap.size, 4, none⟩ (.slice A3 R.length cap3)) w.heap.size 37 #[.string (S id1), .int .i64 cls, .int .i64 born, .int .i64 slot, .slice A3 R.length cap3, .bool gone, hd] := by simpa using hh3.set 4 (.slice A3 R.length cap3)
    have ho := Only.set w3 w.heap.size 4 (.slice A3 R.length cap3)
    have hm4 := hm3.turn8 ho (by omega) (by omega) (by omega)
    have hb4 := ho.below hb3' (by omega) (Nat.le_refl _)
    have hR4 : RowP (w3.setCell ⟨w.heap.size, 4, none⟩ (.slice A3 R.length cap3)) [w.heap.size + 2, w.heap.size + 1, w.heap.size] A3 R := RowC.mv hR3 (Mv.of_only ho (s := [w.heap.size]) (by simp)) (fun x hx => by simp only [List.mem_cons, List.not_mem_nil, or_false] at hx ⊢; omega)
    have H4 := Lib.hid (⟨hm4, hh4, hb4, hR4⟩ : EtW w (w3.setCell ⟨w.heap.size, 4, none⟩ (.slice A3 R.length cap3)) s0 id1 cls born slot A3 R cap3 gone hd)
    generalize w3.setCell ⟨w.heap.size, 4, none⟩ (.slice A3 R.length cap3) = w4 at H4 ⊢
    clear hm4 hh4 hb4 hR4 ho hm3 hh3 hb3' hR3 c4 f4 hgl hz3
    have c4 := H4.out.h.cell 4
    go_wp2_with fail
    refine (HRT.out A3 cap3 w4 s0 hc3 hcm3' (RowC.sub H4.out.r (fun x hx => by simp only [List.mem_cons, List.not_mem_nil, or_false] at hx ⊢; omega)) (by omega) H4.out.m).mono ?_
    rintro e w5 ⟨rfl, hm5, hv5⟩
    have q5 : (Mill.steps [] tq s0).sums ≤ 100 := by rw [Mill.steps_sums]; omega
    generalize Mill.steps [] tq s0 = s5 at hm5 q5
    have H5 := Lib.hid (H4.out.step hm5 hv5); clear hm5 hv5 H4 c4
    have c0 := H5.out.h.cell 0
    have c1 := H5.out.h.cell 1
    have c2 := H5.out.h.cell 2
    have c4 := H5.out.h.cell 4
    go_wp2_with fail
    refine (HPA.out w5 s5 (by omega) H5.out.m).mono ?_
    rintro e w6 ⟨rfl, hm6, hv6⟩
    have q6 : (Mill.steps [] tp s5).sums ≤ 200 := by rw [Mill.steps_sums]; omega
    generalize Mill.steps [] tp s5 = s6 at hm6 q6
    have H6 := Lib.hid (H5.out.step hm6 hv6); clear hm6 hv6 H5 c0 c1 c2 c4 HPA HRT
    have c1 := H6.out.h.cell 1
    have c2 := H6.out.h.cell 2
    generalize Mill.hash [] (0 :: (ti ++ (ec ++ (eb ++ (en ++ ty))))) = hv at HLF HQ
    have hql : [0 :: (ti ++ (ec ++ (eb ++ (en ++ ty))))].length = 1 := rfl
    generalize [0 :: (ti ++ (ec ++ (eb ++ (en ++ ty))))] = qs at HLF hql
    rcases HQ.out with ⟨rfl, rfl⟩ | ⟨h1, rfl, rfl⟩ | ⟨h1, h2, rfl⟩
    case' inl =>
      go_wp2_with fail
      refine (HNU.out.1 _).mono ?_
      rintro e w7 ⟨rfl, hb7⟩
      have H7 := Lib.hid (H6.out.below hb7); clear hb7 H6 c1 c2
      have c0 := H7.out.h.cell 0
      have c1 := H7.out.h.cell 1
      have c2 := H7.out.h.cell 2
      have c3 := H7.out.h.cell 3
      have c4 := H7.out.h.cell 4
      have c5 := H7.out.h.cell 5
      have c6 := H7.out.h.cell 6
      go_wp2_with fail
      refine (HEN.out A3 cap3 _ _ hc3 hcm3' (RowC.sub H7.out.r (fun x hx => by simp only [List.mem_cons, List.not_mem_nil, or_false] at hx ⊢; omega)) (by omega) H7.out.m).mono ?_
      rintro e w8 ⟨rfl, hm8, hv8⟩
      have H8 := Lib.hid (H7.out.step hm8 hv8); clear hm8 hv8 H7 c0 c1 c2 c3 c4 c5 c6
      go_wp2_with fail
      refine (H8.out.awake).mono ?_
      rintro e w9 ⟨rfl, hb9⟩
      go_wp2_with fail
      go_ret
      exact ⟨rfl, hb9⟩
    case' inr.inl =>
      go_wp2_with fail
      refine (HNU.out.1 _).mono ?_
      rintro e w7 ⟨rfl, hb7⟩
      replace H6 := Lib.hid (H6.out.below hb7); clear hb7 c1 c2
      have c2 := H6.out.h.cell 2
      go_wp2_with fail
      refine (HNU.out.2.1 _).mono ?_
      rintro e w7' ⟨rfl, hb7⟩
      have H7 := Lib.hid (H6.out.below hb7); clear hb7 H6 c2
      have c0 := H7.out.h.cell 0
      have c1 := H7.out.h.cell 1
      have c2 := H7.out.h.cell 2
      have c3 := H7.out.h.cell 3
      have c4 := H7.out.h.cell 4
      have c5 := H7.out.h.cell 5
      have c6 := H7.out.h.cell 6
      go_wp2_with fail
      refine (HEN.out A3 cap3 _ _ hc3 hcm3' (RowC.sub H7.out.r (fun x hx => by simp only [List.mem_cons, List.not_mem_nil, or_false] at hx ⊢; omega)) (by omega) H7.out.m).mono ?_
      rintro e w8 ⟨rfl, hm8, hv8⟩
      have H8 := Lib.hid (H7.out.step hm8 hv8); clear hm8 hv8 H7 c0 c1 c2 c3 c4 c5 c6
      go_wp2_with fail
      refine (H8.out.awake).mono ?_
      rintro e w9 ⟨rfl, hb9⟩
      go_wp2_with fail
      go_ret
      exact ⟨rfl, hb9⟩
    case' inr.inr =>
      go_wp2_with fail
      refine (HNU.out.1 _).mono ?_
      rintro e w7 ⟨rfl, hb7⟩
      replace H6 := Lib.hid (H6.out.below hb7); clear hb7 c1 c2
      have c2 := H6.out.h.cell 2
      go_wp2_with fail
      refine (HNU.out.2.1 _).mono ?_
      rintro e w7' ⟨rfl, hb7⟩
      replace H6 := Lib.hid (H6.out.below hb7); clear hb7 c2
      go_upto_region 9 with (fail)
      have hx10 : EntS w.heap.size id1 cls born A3 R.length cap3 w7'.drew := ⟨H6.out.h.cell 0, H6.out.h.cell 1, H6.out.h.cell 2, H6.out.h.cell 4⟩
      replace H6 := Lib.hid (H6.out.below (Below.drew (Below.refl w7'.heap.size w7')))
      have g1 : ¬ 9223372036854775807 < ti.length + ec.length := by omega
      have g2 : ¬ 9223372036854775807 < ti.length + ec.length + eb.length := by omega
      have g3 : ¬ 9223372036854775807 < ti.length + (ec.length + eb.length) + en.length := by omega
      have g4 : ¬ 9223372036854775807 < ti.length + (ec.length + (eb.length + en.length)) + ty.length := by omega
      refine wp_region_held_drew (S := EntS w.heap.size id1 cls born A3 R.length cap3) (by kernel_rfl) hx10 (fun hHeld => ?_)
      first
      | (refine take_wanted (i := 0) (v := ?_) rfl rfl (by kernel_rfl) (by kernel_rfl) (by kernel_rfl) (fun _ _ _ h => h) (by rfl) (by assumption) ?_ ?_; rotate_left; (focus (intro w hSw; (try dsimp only at hSw); go_simp; first | done | with_reducible rfl)); (simp only [Act.at, List.setIfInBounds_toArray, List.set_cons_zero, List.set_cons_succ]))
      | (refine take_unwanted (i := 0) rfl rfl (by kernel_rfl) (by kernel_rfl) (by kernel_rfl) (fun _ _ _ h => h) (by rfl) (by assumption) ?_; (simp only [Act.at, List.setIfInBounds_toArray, List.set_cons_zero, List.set_cons_succ]))
      first
      | (refine take_wanted (i := 1) (v := ?_) rfl rfl (by kernel_rfl) (by kernel_rfl) (by kernel_rfl) (fun _ _ _ h => h) (by rfl) (by assumption) ?_ ?_; rotate_left; (focus (intro w hSw; (try dsimp only at hSw); go_simp; first | done | with_reducible rfl)); (simp only [Act.at, List.setIfInBounds_toArray, List.set_cons_zero, List.set_cons_succ]))
      | (refine take_unwanted (i := 1) rfl rfl (by kernel_rfl) (by kernel_rfl) (by kernel_rfl) (fun _ _ _ h => h) (by rfl) (by assumption) ?_; (simp only [Act.at, List.setIfInBounds_toArray, List.set_cons_zero, List.set_cons_succ]))
      first
      | (refine take_wanted (i := 2) (v := ?_) rfl rfl (by kernel_rfl) (by kernel_rfl) (by kernel_rfl) (fun _ _ _ h => h) (by rfl) (by assumption) ?_ ?_; rotate_left; (focus (intro w hSw; (try dsimp only at hSw); go_simp; first | done | with_reducible rfl)); (simp only [Act.at, List.setIfInBounds_toArray, List.set_cons_zero, List.set_cons_succ]))
      | (refine take_unwanted (i := 2) rfl rfl (by kernel_rfl) (by kernel_rfl) (by kernel_rfl) (fun _ _ _ h => h) (by rfl) (by assumption) ?_; (simp only [Act.at, List.setIfInBounds_toArray, List.set_cons_zero, List.set_cons_succ]))
      first
      | (refine take_wanted (i := 4) (v := ?_) rfl rfl (by kernel_rfl) (by kernel_rfl) (by kernel_rfl) (fun _ _ _ h => h) (by rfl) (by assumption) ?_ ?_; rotate_left; (focus (intro w hSw; (try dsimp only at hSw); go_simp; first | done | with_reducible rfl)); (simp only [Act.at, List.setIfInBounds_toArray, List.set_cons_zero, List.set_cons_succ]))
      | (refine take_unwanted (i := 4) rfl rfl (by kernel_rfl) (by kernel_rfl) (by kernel_rfl) (fun _ _ _ h => h) (by rfl) (by assumption) ?_; (simp only [Act.at, List.setIfInBounds_toArray, List.set_cons_zero, List.set_cons_succ]))
      first
      | (refine take_wanted (i := 5) (v := ?_) rfl rfl (by kernel_rfl) (by kernel_rfl) (by kernel_rfl) (fun _ _ _ h => h) (by rfl) (by assumption) ?_ ?_; rotate_left; (focus (intro w hSw; (try dsimp only at hSw); go_simp; first | done | with_reducible rfl)); (simp only [Act.at, List.setIfInBounds_toArray, List.set_cons_zero, List.set_cons_succ]))
      | (refine take_unwanted (i := 5) rfl rfl (by kernel_rfl) (by kernel_rfl) (by kernel_rfl) (fun _ _ _ h => h) (by rfl) (by assumption) ?_; (simp only [Act.at, List.setIfInBounds_toArray, List.set_cons_zero, List.set_cons_succ]))
      first
      | (refine take_wanted (i := 8) (v := ?_) rfl rfl (by kernel_rfl) (by kernel_rfl) (by kernel_rfl) (fun _ _ _ h => h) (by rfl) (by assumption) ?_ ?_; rotate_left; (focus (intro w hSw; (try dsimp only at hSw); go_simp; first | done | with_reducible rfl)); (simp only [Act.at, List.setIfInBounds_toArray, List.set_cons_zero, List.set_cons_succ]))
      | (refine take_unwanted (i := 8) rfl rfl (by kernel_rfl) (by kernel_rfl) (by kernel_rfl) (fun _ _ _ h => h) (by rfl) (by assumption) ?_; (simp only [Act.at, List.setIfInBounds_toArray, List.set_cons_zero, List.set_cons_succ]))
      first
      | (refine take_wanted (i := 9) (v := ?_) rfl rfl (by kernel_rfl) (by kernel_rfl) (by kernel_rfl) (fun _ _ _ h => h) (by rfl) (by assumption) ?_ ?_; rotate_left; (focus (intro w hSw; (try dsimp only at hSw); go_simp; first | done | with_reducible rfl)); (simp only [Act.at, List.setIfInBounds_toArray, List.set_cons_zero, List.set_cons_succ]))
      | (refine take_unwanted (i := 9) rfl rfl (by kernel_rfl) (by kernel_rfl) (by kernel_rfl) (fun _ _ _ h => h) (by rfl) (by assumption) ?_; (simp only [Act.at, List.setIfInBounds_toArray, List.set_cons_zero, List.set_cons_succ]))
      first
      | (refine take_wanted (i := 12) (v := ?_) rfl rfl (by kernel_rfl) (by kernel_rfl) (by kernel_rfl) (fun _ _ _ h => h) (by rfl) (by assumption) ?_ ?_; rotate_left; (focus (intro w hSw; (try dsimp only at hSw); go_simp; first | done | with_reducible rfl)); (simp only [Act.at, List.setIfInBounds_toArray, List.set_cons_zero, List.set_cons_succ]))
      | (refine take_unwanted (i := 12) rfl rfl (by kernel_rfl) (by kernel_rfl) (by kernel_rfl) (fun _ _ _ h => h) (by rfl) (by assumption) ?_; (simp only [Act.at, List.setIfInBounds_toArray, List.set_cons_zero, List.set_cons_succ]))
      first
      | (refine take_wanted (i := 13) (v := ?_) rfl rfl (by kernel_rfl) (by kernel_rfl) (by kernel_rfl) (fun _ _ _ h => h) (by rfl) (by assumption) ?_ ?_; rotate_left; (focus (intro w hSw; (try dsimp only at hSw); go_simp; first | done | with_reducible rfl)); (simp only [Act.at, List.setIfInBounds_toArray, List.set_cons_zero, List.set_cons_succ]))
      | (refine take_unwanted (i := 13) rfl rfl (by kernel_rfl) (by kernel_rfl) (by kernel_rfl) (fun _ _ _ h => h) (by rfl) (by assumption) ?_; (simp only [Act.at, List.setIfInBounds_toArray, List.set_cons_zero, List.set_cons_succ]))
      first
      | (refine take_wanted (i := 14) (v := ?_) rfl rfl (by kernel_rfl) (by kernel_rfl) (by kernel_rfl) (fun _ _ _ h => h) (by rfl) (by assumption) ?_ ?_; rotate_left; (focus (intro w hSw; (try dsimp only at hSw); go_simp; first | done | with_reducible rfl)); (simp only [Act.at, List.setIfInBounds_toArray, List.set_cons_zero, List.set_cons_succ]))
      | (refine take_unwanted (i := 14) rfl rfl (by kernel_rfl) (by kernel_rfl) (by kernel_rfl) (fun _ _ _ h => h) (by rfl) (by assumption) ?_; (simp only [Act.at, List.setIfInBounds_toArray, List.set_cons_zero, List.set_cons_succ]))
      first
      | (refine take_wanted (i := 17) (v := ?_) rfl rfl (by kernel_rfl) (by kernel_rfl) (by kernel_rfl) (fun _ _ _ h => h) (by rfl) (by assumption) ?_ ?_; rotate_left; (focus (intro w hSw; (try dsimp only at hSw); go_simp; first | done | with_reducible rfl)); (simp only [Act.at, List.setIfInBounds_toArray, List.set_cons_zero, List.set_cons_succ]))
      | (refine take_unwanted (i := 17) rfl rfl (by kernel_rfl) (by kernel_rfl) (by kernel_rfl) (fun _ _ _ h => h) (by rfl) (by assumption) ?_; (simp only [Act.at, List.setIfInBounds_toArray, List.set_cons_zero, List.set_cons_succ]))
      refine take_call (i := 3) (by kernel_rfl) rfl rfl (by rfl) (fun K hK => ?_)
      go_simp
      refine (HTX.out _).mono ?_
      rintro e x11 ⟨rfl, hb11⟩
      have hx11 : EntS w.heap.size id1 cls born A3 R.length cap3 x11 := EntS.keep hx10 (hb11.block _ H6.out.h.lt)
      replace H6 := Lib.hid (H6.out.below hb11)
      clear hx10 hHeld hb11
      refine hK.out _ _ hx11 (fun hHeld => ?_)
      clear hK K
      try simp only [Act.put, List.setIfInBounds_toArray, List.set_cons_zero, List.set_cons_succ]
      refine take_call (i := 6) (by kernel_rfl) rfl rfl (by rfl) (fun K hK => ?_)
      go_simp
      refine (HNU.out.1 _).mono ?_
      rintro e x12 ⟨rfl, hb12⟩
      have hx12 : EntS w.heap.size id1 cls born A3 R.length cap3 x12 := EntS.keep hx11 (hb12.block _ H6.out.h.lt)
      replace H6 := Lib.hid (H6.out.below hb12)
      clear hx11 hHeld hb12
      refine hK.out _ _ hx12 (fun hHeld => ?_)
      clear hK K
      try simp only [Act.put, List.setIfInBounds_toArray, List.set_cons_zero, List.set_cons_succ]
      first
      | (refine take_wanted (i := 7) (v := ?_) rfl rfl (by kernel_rfl) (by kernel_rfl) (by kernel_rfl) (fun _ _ _ h => h) (by rfl) (by assumption) ?_ ?_; rotate_left; (focus (intro w hSw; (try dsimp only at hSw); go_simp; (try simp only [g1, if_true, if_false, Result.andThen_ok]); first | done | with_reducible rfl)); (simp only [Act.at, List.setIfInBounds_toArray, List.set_cons_zero, List.set_cons_succ]))
      | (refine take_unwanted (i := 7) rfl rfl (by kernel_rfl) (by kernel_rfl) (by kernel_rfl) (fun _ _ _ h => h) (by rfl) (by assumption) ?_; (simp only [Act.at, List.setIfInBounds_toArray, List.set_cons_zero, List.set_cons_succ]))
      refine take_call (i := 10) (by kernel_rfl) rfl rfl (by rfl) (fun K hK => ?_)
      go_simp
      refine (HNU.out.2.1 _).mono ?_
      rintro e x13 ⟨rfl, hb13⟩
      have hx13 : EntS w.heap.size id1 cls born A3 R.length cap3 x13 := EntS.keep hx12 (hb13.block _ H6.out.h.lt)
      replace H6 := Lib.hid (H6.out.below hb13)
      clear hx12 hHeld hb13
      refine hK.out _ _ hx13 (fun hHeld => ?_)
      clear hK K
      try simp only [Act.put, List.setIfInBounds_toArray, List.set_cons_zero, List.set_cons_succ]
      first
      | (refine take_wanted (i := 11) (v := ?_) rfl rfl (by kernel_rfl) (by kernel_rfl) (by kernel_rfl) (fun _ _ _ h => h) (by rfl) (by assumption) ?_ ?_; rotate_left; (focus (intro w hSw; (try dsimp only at hSw); go_simp; (try simp only [g2, if_true, if_false, Result.andThen_ok]); first | done | with_reducible rfl)); (simp only [Act.at, List.setIfInBounds_toArray, List.set_cons_zero, List.set_cons_succ]))
      | (refine take_unwanted (i := 11) rfl rfl (by kernel_rfl) (by kernel_rfl) (by kernel_rfl) (fun _ _ _ h => h) (by rfl) (by assumption) ?_; (simp only [Act.at, List.setIfInBounds_toArray, List.set_cons_zero, List.set_cons_succ]))
      refine take_call (i := 15) (by kernel_rfl) rfl rfl (by rfl) (fun K hK => ?_)
      go_simp
      refine (HNU.out.2.2 _).mono ?_
      rintro e x14 ⟨rfl, hb14⟩
      have hx14 : EntS w.heap.size id1 cls born A3 R.length cap3 x14 := EntS.keep hx13 (hb14.block _ H6.out.h.lt)
      replace H6 := Lib.hid (H6.out.below hb14)
      clear hx13 hHeld hb14
      refine hK.out _ _ hx14 (fun hHeld => ?_)
      clear hK K
      try simp only [Act.put, List.setIfInBounds_toArray, List.set_cons_zero, List.set_cons_succ]
      first
      | (refine take_wanted (i := 16) (v := ?_) rfl rfl (by kernel_rfl) (by kernel_rfl) (by kernel_rfl) (fun _ _ _ h => h) (by rfl) (by assumption) ?_ ?_; rotate_left; (focus (intro w hSw; (try dsimp only at hSw); go_simp; (try simp only [g3, if_true, if_false, Result.andThen_ok]); first | done | with_reducible rfl)); (simp only [Act.at, List.setIfInBounds_toArray, List.set_cons_zero, List.set_cons_succ]))
      | (refine take_unwanted (i := 16) rfl rfl (by kernel_rfl) (by kernel_rfl) (by kernel_rfl) (fun _ _ _ h => h) (by rfl) (by assumption) ?_; (simp only [Act.at, List.setIfInBounds_toArray, List.set_cons_zero, List.set_cons_succ]))
      refine take_call (i := 18) (by kernel_rfl) rfl rfl (by rfl) (fun K hK => ?_)
      go_simp
      refine (HTY.out _).mono ?_
      rintro e x15 ⟨rfl, hb15⟩
      have hx15 : EntS w.heap.size id1 cls born A3 R.length cap3 x15 := EntS.keep hx14 (hb15.block _ H6.out.h.lt)
      replace H6 := Lib.hid (H6.out.below hb15)
      clear hx14 hHeld hb15
      refine hK.out _ _ hx15 (fun hHeld => ?_)
      clear hK K
      try simp only [Act.put, List.setIfInBounds_toArray, List.set_cons_zero, List.set_cons_succ]
      first
      | (refine take_wanted (i := 19) (v := ?_) rfl rfl (by kernel_rfl) (by kernel_rfl) (by kernel_rfl) (fun _ _ _ h => h) (by rfl) (by assumption) ?_ ?_; rotate_left; (focus (intro w hSw; (try dsimp only at hSw); go_simp; (try simp only [g4, if_true, if_false, Result.andThen_ok]); first | done | with_reducible rfl)); (simp only [Act.at, List.setIfInBounds_toArray, List.set_cons_zero, List.set_cons_succ]))
      | (refine take_unwanted (i := 19) rfl rfl (by kernel_rfl) (by kernel_rfl) (by kernel_rfl) (fun _ _ _ h => h) (by rfl) (by assumption) ?_; (simp only [Act.at, List.setIfInBounds_toArray, List.set_cons_zero, List.set_cons_succ]))
      refine take_call (i := 20) (by kernel_rfl) rfl rfl (by rfl) (fun K hK => ?_)
      go_simp
      refine (HLF.out _ s6 (by omega) H6.out.m).mono ?_
      rintro e w20 ⟨rfl, hm20, hv20⟩
      have hx20 : EntS w.heap.size id1 cls born A3 R.length cap3 w20 := EntS.keep hx15 (hv20.block _ H6.out.h.lt (by simp only [List.mem_cons, List.not_mem_nil, or_false]; omega))
      have q20 : (Mill.steps [] qs s6).sums ≤ 300 := by rw [Mill.steps_sums]; omega
      generalize Mill.steps [] qs s6 = s20 at hm20 q20
      have H7 := Lib.hid (H6.out.step hm20 hv20)
      clear hx15 hHeld hm20 hv20 H6
      refine hK.out _ _ hx20 (fun hHeld => ?_)
      clear hK K
      try simp only [Act.put, List.setIfInBounds_toArray, List.set_cons_zero, List.set_cons_succ]
      first
      | (refine take_wanted (i := 21) (v := ?_) rfl rfl (by kernel_rfl) (by kernel_rfl) (by kernel_rfl) (fun _ _ _ h => h) (by rfl) (by assumption) ?_ ?_; rotate_left; (focus (intro w hSw; (try dsimp only at hSw); go_simp; first | done | with_reducible rfl)); (simp only [Act.at, List.setIfInBounds_toArray, List.set_cons_zero, List.set_cons_succ]))
      | (refine take_unwanted (i := 21) rfl rfl (by kernel_rfl) (by kernel_rfl) (by kernel_rfl) (fun _ _ _ h => h) (by rfl) (by assumption) ?_; (simp only [Act.at, List.setIfInBounds_toArray, List.set_cons_zero, List.set_cons_succ]))
      refine wpAnyH_done (by kernel_rfl) ?_ _
      clear g1 g2 g3 g4 hx20
      have c0 := H7.out.h.cell 0
      have c1 := H7.out.h.cell 1
      have c2 := H7.out.h.cell 2
      have c3 := H7.out.h.cell 3
      have c4 := H7.out.h.cell 4
      have c5 := H7.out.h.cell 5
      have c6 := H7.out.h.cell 6
      have hvv : (v == v) = true := by simp
      go_wp2_with fail
      refine (HEN.out A3 cap3 _ _ hc3 hcm3' (RowC.sub H7.out.r (fun x hx => by simp only [List.mem_cons, List.not_mem_nil, or_false] at hx ⊢; omega)) (by omega) H7.out.m).mono ?_
      rintro e w8 ⟨rfl, hm8, hv8⟩
      have H8 := Lib.hid (H7.out.step hm8 hv8); clear hm8 hv8 H7 c0 c1 c2 c3 c4 c5 c6
      go_wp2_with fail
      refine (H8.out.awake).mono ?_
      rintro e w9 ⟨rfl, hb9⟩
      go_wp2_with fail
      go_ret
      exact ⟨rfl, hb9⟩
set_option maxRecDepth 100000 in
theorem sheetPapers_contract {H : Type} (enc : TypeId × Value → H) (W : World) (base : Nat) (args : Array Value) (ds gs : List (DataW H)) (before : List MemPlace)
    (hval : ∀ (j : Nat) t v, Tryd.f4.params[j]? = some t → args[j]? = some v → Value.okWide Tryd.prog W .any base t v)
    (hW : DataW.Whole enc Tryd.prog Tryd.f4.params.toList Rows.sheetPapersSpec.vars false W args.toList ds gs before)
    (hsz : (DataW.weightsEach Tryd.prog (Tryd.f4.params.toList ++ Rows.sheetPapersSpec.plain.varTypes Tryd.prog) (ds ++ gs)).all (· ≤ reachBytes) = true) (hT : Tabs W) :
    Calls Tryd.prog 4 args W fun e W' =>
      ((Rows.sheetPapersSpec.fn H (ds ++ gs)).results = [.lit (.bool true)] ∧ (Rows.sheetPapersSpec.fn H (ds ++ gs)).args = ds ∧ (Rows.sheetPapersSpec.fn H (ds ++ gs)).vars = []) ∧ e = .returned (.bool true) ∧ Below W.heap.size W W' := by
  obtain ⟨p, q, hA0, hV, rfl, hfz, hnd⟩ := hW
  have hA : DataW.TrodAll enc Tryd.prog W 0 (fun _ => true) true Tryd.f4.params.toList args.toList ds p := hA0
  rw [Tryd.params4] at hA hval hsz
  obtain ⟨v0, d0, rfl, rfl, h0⟩ := trodAll_one hA
  obtain ⟨rfl, rfl⟩ := trodVars_none hV
  obtain ⟨id_e, cls_e, born_e, slot_e, A_e, l_e, cap_e, gone_e, hd_e, rfl, h1_e, hR_e, lc_e, cm_e⟩ := entry_open (hval 0 37 v0 rfl rfl) h0
  exact (sheetPapers_any id_e cls_e born_e slot_e A_e l_e cap_e gone_e hd_e W lc_e cm_e hR_e hT).mono fun e W' h => ⟨⟨rfl, rfl, rfl⟩, h⟩

end Go.Proofs.YtgjknfphmmlcdaaDoor
