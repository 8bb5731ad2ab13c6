/-
  Event's writeSlip, writeEntry.
-/
import Derived.Test.YtihhgingdgepcaaEvMem
import Derived.Test.YtihhgingdgepcaaWriteT
import Derived.Deep.LoopGhost
import Derived.Deep.QuietTactic
import Derived.Deep.DeepCutAuto
import Derived.Deep.CutBlock
namespace Go.Proofs.Ytihhgingdgepcaa
open Go.RowKit
set_option linter.unusedVariables false

/-- A call has laid these bytes. -/
def WPost (w : World) (g : Nat) (st : Wt.St) (x : List UInt8) (r : Ending) (w' : World) : Prop :=
  r = .returned (.tuple #[]) ∧ ∃ st' : Wt.St, Wr w' g st' ∧ Wt.flat st' = Wt.flat st ++ x ∧ (Wt.flat st').length = (Wt.flat st).length + x.length ∧ st'.2 = st.2 ∧ Only w w' g
theorem wpost {w : World} {g : Nat} {st st' : Wt.St} {x : List UInt8} {r : Ending} {w' : World} (hr : r = .returned (.tuple #[])) (hw : Wr w' g st') (hf : Wt.flat st' = Wt.flat st ++ x) (hb : st'.2 = st.2) (ho : Only w w' g) : WPost w g st x r w' :=
  ⟨hr, st', hw, hf, by rw [hf, List.length_append], hb, ho⟩
theorem encL_ne {n : Int} (h0 : 0 ≤ n) (h1 : n < 72057594037927936) : M.encL n ≠ [] := by
  rw [M.encL, if_pos ⟨h0, h1⟩]
  exact List.cons_ne_nil _ _
theorem Wt.good_num {n : Int} {st : Wt.St} (h0 : 0 ≤ n) (h1 : n < 72057594037927936) : (Wt.num n st).2 = st.2 := by
  rw [Wt.bad_num, decide_eq_false (encL_ne h0 h1), Bool.or_false]
theorem Wt.good_text {s : List UInt8} {st : Wt.St} (h : s.length ≤ 1000000) : (Wt.text s st).2 = st.2 := by
  unfold Wt.text
  rw [Wt.bad_raw, Wt.good_num (by omega) (by omega)]
theorem Wt.good_foldl : ∀ (l : List (List UInt8)) (st : Wt.St), (∀ x ∈ l, x.length ≤ 1000000) → (l.foldl (fun st s => Wt.text s st) st).2 = st.2
  | [], st, _ => rfl
  | x :: l, st, h => by
    rw [List.foldl_cons, Wt.good_foldl l _ (fun y hy => h y (List.mem_cons_of_mem _ hy)), Wt.good_text (h x (List.mem_cons_self ..))]
theorem Wt.good_texts {l : List (List UInt8)} {st : Wt.St} (hl : l.length ≤ 1000000) (h : ∀ x ∈ l, x.length ≤ 1000000) : (Wt.texts l st).2 = st.2 := by
  unfold Wt.texts
  rw [Wt.good_foldl l _ h, Wt.good_num (by omega) (by omega)]
theorem wnum_p (n : Int) (g : Nat) (st : Wt.St) (w : World) (h : Wr w g st) (h0 : 0 ≤ n) (h1 : n < 72057594037927936) (hcap : (Wt.flat st).length ≤ 1000000000) :
    Calls Try.prog 19 #[.pointer (some ⟨g, 0, none⟩), .int .i64 n] w (WPost w g st (M.encL n)) :=
  (wnum_wr n g st w h (by omega)).mono fun r w' ⟨a, b, c⟩ => wpost a b (Wt.flat_num n st) (Wt.good_num h0 h1) c
theorem wtext_p (s : List UInt8) (g : Nat) (st : Wt.St) (w : World) (h : Wr w g st) (hs : s.length ≤ 1000000) (hcap : (Wt.flat st).length ≤ 1000000000) :
    Calls Try.prog 21 #[.pointer (some ⟨g, 0, none⟩), .string (S s)] w (WPost w g st (Ev.txt s)) :=
  (wtext_wr s g st w h (by omega)).mono fun r w' ⟨a, b, c⟩ => wpost a b (Wt.flat_text s st) (Wt.good_text hs) c
theorem wflag_p (b : Bool) (g : Nat) (st : Wt.St) (w : World) (h : Wr w g st) (hcap : (Wt.flat st).length ≤ 1000000000) :
    Calls Try.prog 40 #[.pointer (some ⟨g, 0, none⟩), .bool b] w (WPost w g st (Ev.flg b)) :=
  (wflag_wr b g st w h (by omega)).mono fun r w' ⟨a, b', c⟩ => wpost a b' (Wt.flat_flag b st) (Wt.bad_raw _ st) c
set_option maxRecDepth 100000 in
set_option maxHeartbeats 1000000 in
theorem wtexts_none (A : Option Addr) (cap : Nat) (g : Nat) (st : Wt.St) (w : World) (h : Wr w g st) (hcap : (Wt.flat st).length ≤ 1000000000) :
    Calls Try.prog 41 #[.pointer (some ⟨g, 0, none⟩), .slice A 0 cap] w fun r w' => r = .returned (.tuple #[]) ∧ Wr w' g (Wt.texts [] st) ∧ Only w w' g := by
  have HN := Lib.hid (wnum_wr 0 g st w h (by omega))
  have HT : Hid (Wt.texts [] st = Wt.num 0 st) := Lib.hid rfl
  generalize Wt.texts [] st = st2 at HT ⊢
  go_enter Try.func41, Try.ntmps41
  go_wp2_with fail
  refine (HN.out).mono ?_
  rintro r w1 ⟨rfl, h1, ho1⟩
  go_wp2_with fail
  go_loopw [11] (fun v11 wr => v11 = .int .i64 0 ∧ Wr wr g st2 ∧ Only w wr g) (fun _ _ => 0)
  case atStart => exact ⟨rfl, by rw [HT.out]; exact h1, ho1⟩
  case round =>
    obtain ⟨rfl, h2, ho2⟩ := hrel
    go_wp2_with fail
    go_returns
    exact ⟨rfl, h2, ho2⟩
theorem wtexts_p (l : List (List UInt8)) (A : Option Addr) (cap : Nat) (g : Nat) (st : Wt.St) (w : World) (h : Wr w g st) (hr : RowC w [g] A (tvs l)) (hl : l.length ≤ 1000) (hs : ∀ x ∈ l, x.length ≤ 1000) (hcap : (Wt.flat st).length ≤ 1000000000) :
    Calls Try.prog 41 #[.pointer (some ⟨g, 0, none⟩), .slice A l.length cap] w (WPost w g st (M.encL l.length ++ l.flatMap Ev.txt)) := by
  have hfl : Wt.flat (Wt.texts l st) = Wt.flat st ++ (M.encL l.length ++ l.flatMap Ev.txt) := by
    rw [Wt.flat_texts, List.flatMap_def]; rfl
  have hg := Wt.good_texts (l := l) (st := st) (by omega) (fun x hx => by have := hs x hx; omega)
  by_cases hl0 : l = []
  · subst hl0
    exact (wtexts_none A cap g st w h hcap).mono fun r w' ⟨a, b, c⟩ => wpost a b hfl hg c
  · have hpos : 0 < l.length := List.length_pos_iff.2 hl0
    obtain ⟨b, off, rfl, hb, hn, -⟩ := RowT.get hr 0 hpos
    have hrow : SRow w b off l := fun i hi => by
      obtain ⟨b', off', e, -, -, hc⟩ := RowT.get hr i hi
      injection e with e
      injection e with e1 e2
      rw [e1, e2]; exact hc
    have hsum : (l.map fun s => s.length + 8).sum ≤ l.length * 1008 := by
      clear hr hrow hfl hg hpos hl0 hl hcap h hb hn
      induction l with
      | nil => simp
      | cons x l ih =>
        have h1 := hs x (List.mem_cons_self ..)
        have h2 := ih (fun y hy => hs y (List.mem_cons_of_mem _ hy))
        rw [List.map_cons, List.sum_cons, List.length_cons, Nat.succ_mul]
        omega
    have hm : l.length * 1008 ≤ 1000 * 1008 := Nat.mul_le_mul_right _ hl
    exact (wtexts_wr l b off cap g st w h hrow (fun e => hn (by rw [e]; exact List.mem_singleton.2 rfl)) (by omega) (by omega) (fun x hx => by have := hs x hx; omega)).mono fun r w' ⟨a, b, c⟩ => wpost a b hfl hg c
theorem evFlat_next {α : Type} (f : α → List UInt8) (l : List α) (k : Nat) (hk : k < l.length) : (l.take (k + 1)).flatMap f = (l.take k).flatMap f ++ f (l[k]'hk) := by
  rw [List.take_succ_eq_append_getElem hk, List.flatMap_append]; simp
theorem evFlat_part {α : Type} (f : α → List UInt8) (l : List α) (k : Nat) : ((l.take k).flatMap f).length ≤ (l.flatMap f).length := by
  conv => rhs; rw [← List.take_append_drop k l, List.flatMap_append, List.length_append]
  omega
set_option maxRecDepth 100000 in
set_option maxHeartbeats 4000000 in
theorem wslip_any (x : Slp) (gn : Bool) (g : Nat) (st : Wt.St) (w : World) (h : Wr w g st) (hx : Ev.slipR gn x = true) (hcap : (Wt.flat st).length ≤ 100000000) :
    Calls Try.prog 42 #[.pointer (some ⟨g, 0, none⟩), .agg #[.string (S x.n), .string (S x.p), .string (S x.c), .bool x.e]] w (WPost w g st (Ev.encS x)) := by
  obtain ⟨q1, q2, q3, q4⟩ := Ev.slipR_iff.1 hx
  have qn := (Pap.word_len q1).2
  have hlen := Ev.encS_len hx
  have hE : Ev.encS x = Ev.txt x.n ++ Ev.txt x.p ++ Ev.flg x.e ++ (if x.e then [] else Ev.txt x.c) := rfl
  obtain ⟨n, p, c, e⟩ := x
  dsimp only at *
  have hlc : c.length ≤ 1000 := by
    cases e with
    | true => rw [q3 rfl]; exact Nat.zero_le _
    | false => have := q4 rfl; omega
  have l1 : (Ev.txt n).length ≤ 18 := by have := Ev.txt_len (s := n) (by omega); omega
  have l2 : (Ev.txt p).length ≤ 34 := by have := Ev.txt_len (s := p) (by omega); omega
  have l3 : (Ev.flg e).length = 1 := rfl
  have hh := Has.made w 60 #[.string (S n), .string (S p), .string (S c), .bool e]
  have hb : Below w.heap.size w (w.alloc (.cells #[.string (S n), .string (S p), .string (S c), .bool e] 60)) := (Below.refl _ w).alloc (Nat.le_refl _) _
  have hw0 := h.below hb (Nat.le_refl _)
  have hne : w.heap.size ≠ g := by have := h.lt; omega
  have HO := Lib.hid (Only.of_below hb g)
  have HT := Lib.hid (fun W st (hW : Wr W g st) (hc : (Wt.flat st).length ≤ 1000000000) => wtext_p n g st W hW (by omega) hc)
  have HP := Lib.hid (fun W st (hW : Wr W g st) (hc : (Wt.flat st).length ≤ 1000000000) => wtext_p p g st W hW (by omega) hc)
  have HC := Lib.hid (fun W st (hW : Wr W g st) (hc : (Wt.flat st).length ≤ 1000000000) => wtext_p c g st W hW (by omega) hc)
  have HF := Lib.hid (fun W st (hW : Wr W g st) (hc : (Wt.flat st).length ≤ 1000000000) => wflag_p e g st W hW hc)
  have HE := Lib.hid hE
  clear hE hlen q1 q2 q3 q4 hx qn
  generalize Ev.encS ⟨n, p, c, e⟩ = E at HE ⊢
  generalize Ev.txt n = tn at *
  generalize Ev.txt p = tp at *
  generalize Ev.flg e = tf at *
  generalize Ev.txt c = tc at *
  go_enter Try.func42, Try.ntmps42
  go_upto_region 1 with fail
  generalize w.alloc (.cells #[.string (S n), .string (S p), .string (S c), .bool e] 60) = W0 at hh hb hw0 HO ⊢
  generalize w.heap.size = b0 at hh hne ⊢
  have HH := Lib.hid hh
  have y0 : W0.cell? ⟨b0, 0, none⟩ = some (.string (S n)) := hh.cell 0
  clear hh hb
  go_wp2_with fail
  refine (HT.out _ _ hw0 (by omega)).mono ?_
  rintro r w1 ⟨rfl, st1, hw1, f1, n1, b1, o1⟩
  have HO1 := Lib.hid (HO.out.trans o1)
  have HH1 := Lib.hid (o1.has HH.out hne)
  have F1 := Lib.hid (And.intro f1 b1)
  clear f1 b1 o1 y0 HH HO hw0 HT
  have y1 : w1.cell? ⟨b0, 1, none⟩ = some (.string (S p)) := HH1.out.cell 1
  go_wp2_with fail
  refine (HP.out _ _ hw1 (by omega)).mono ?_
  rintro r w2 ⟨rfl, st2, hw2, f2, n2, b2, o2⟩
  have HO2 := Lib.hid (HO1.out.trans o2)
  have HH2 := Lib.hid (o2.has HH1.out hne)
  have F2 := Lib.hid (And.intro f2 b2)
  clear f2 b2 o2 y1 HH1 HO1 hw1 HP
  have y3 : w2.cell? ⟨b0, 3, none⟩ = some (.bool e) := HH2.out.cell 3
  go_wp2_with fail
  refine (HF.out _ _ hw2 (by omega)).mono ?_
  rintro r w3 ⟨rfl, st3, hw3, f3, n3, b3, o3⟩
  have HO3 := Lib.hid (HO2.out.trans o3)
  have HH3 := Lib.hid (o3.has HH2.out hne)
  have F3 := Lib.hid (And.intro f3 b3)
  clear f3 b3 o3 y3 HH2 HO2 hw2 HF
  have z3 : w3.cell? ⟨b0, 3, none⟩ = some (.bool e) := HH3.out.cell 3
  cases e with
  | true =>
    go_wp2_with fail
    go_returns
    exact wpost rfl hw3 (by rw [F3.out.1, F2.out.1, F1.out.1, HE.out, if_pos trivial]; simp only [List.append_assoc, List.append_nil]) (by rw [F3.out.2, F2.out.2, F1.out.2]) HO3.out
  | false =>
    have z2 : w3.cell? ⟨b0, 2, none⟩ = some (.string (S c)) := HH3.out.cell 2
    go_wp2_with fail
    refine (HC.out _ _ hw3 (by omega)).mono ?_
    rintro r w4 ⟨rfl, st4, hw4, f4, n4, b4, o4⟩
    go_wp2_with fail
    go_returns
    exact wpost rfl hw4 (by rw [f4, F3.out.1, F2.out.1, F1.out.1, HE.out, if_neg (by decide)]; simp only [List.append_assoc]) (by rw [b4, F3.out.2, F2.out.2, F1.out.2]) (HO3.out.trans o4)
set_option maxRecDepth 100000 in
set_option maxHeartbeats 4000000 in
theorem wentry_any (e : Ent) (A B : Option Addr) (ca cb : Nat) (g : Nat) (st : Wt.St) (w : World) (h : Wr w g st) (hin : EntIn w [g] e A ca B cb) (hx : Ev.entR e = true) (hcap : (Wt.flat st).length ≤ 100000) :
    Calls Try.prog 20 #[.pointer (some ⟨g, 0, none⟩), .agg #[.string (S e.id), .int .i64 e.cls, .int .i64 e.born, .int .i64 e.slot, .slice A e.L.length ca, .bool e.gone, .slice B e.H.length cb]] w (WPost w g st (Ev.encE e)) := by
  obtain ⟨q1, q2, q3, q4, q5, q6, q7, q8, q9, q10⟩ := Ev.entR_iff.1 hx
  have qn := (Pap.word_len q1).2
  have hlen := Ev.encE_len hx
  have hE : Ev.encE e = Ev.txt e.id ++ M.encL e.cls ++ M.encL e.born ++ M.encL e.slot ++ Ev.flg e.gone ++ M.encL e.H.length ++ e.H.flatMap Ev.txt ++ M.encL e.L.length ++ e.L.flatMap Ev.encS := rfl
  have q7' : ∀ x ∈ e.H, x.length ≤ 1000 := fun x hx => by have := (Pap.word_len (q7 x hx)).2; omega
  obtain ⟨id, cls, born, slot, L, gone, H⟩ := e
  dsimp only at *
  have hl2 := congrArg List.length hE
  simp only [List.length_append] at hl2
  have hh := Has.made w 25 #[.string (S id), .int .i64 cls, .int .i64 born, .int .i64 slot, .slice A L.length ca, .bool gone, .slice B H.length cb]
  have hb : Below w.heap.size w (w.alloc (.cells #[.string (S id), .int .i64 cls, .int .i64 born, .int .i64 slot, .slice A L.length ca, .bool gone, .slice B H.length cb] 25)) := (Below.refl _ w).alloc (Nat.le_refl _) _
  have hw0 := h.below hb (Nat.le_refl _)
  have hne : w.heap.size ≠ g := by have := h.lt; omega
  have hsz : w.heap.size < (w.alloc (.cells #[.string (S id), .int .i64 cls, .int .i64 born, .int .i64 slot, .slice A L.length ca, .bool gone, .slice B H.length cb] 25)).heap.size := by rw [asize]; omega
  have HIN := Lib.hid (hin.below hb)
  have HO := Lib.hid (Only.of_below hb g)
  have HT := Lib.hid (fun W st (hW : Wr W g st) (hc : (Wt.flat st).length ≤ 1000000000) => wtext_p id g st W hW (by omega) hc)
  have HN1 := Lib.hid (fun W st (hW : Wr W g st) (hc : (Wt.flat st).length ≤ 1000000000) => wnum_p cls g st W hW q2.1 (by omega) hc)
  have HN2 := Lib.hid (fun W st (hW : Wr W g st) (hc : (Wt.flat st).length ≤ 1000000000) => wnum_p born g st W hW q3.1 (by omega) hc)
  have HN3 := Lib.hid (fun W st (hW : Wr W g st) (hc : (Wt.flat st).length ≤ 1000000000) => wnum_p slot g st W hW q4.1 (by omega) hc)
  have HF := Lib.hid (fun W st (hW : Wr W g st) (hc : (Wt.flat st).length ≤ 1000000000) => wflag_p gone g st W hW hc)
  have HX := Lib.hid (fun W st (hW : Wr W g st) (hr : RowC W [g] B (tvs H)) (hc : (Wt.flat st).length ≤ 1000000000) => wtexts_p H B cb g st W hW hr (by omega) q7' hc)
  have HN4 := Lib.hid (fun W st (hW : Wr W g st) (hc : (Wt.flat st).length ≤ 1000000000) => wnum_p (L.length : Int) g st W hW (by omega) (by omega) hc)
  have HSL := Lib.hid (fun (i : Nat) (hi : i < L.length) W st (hW : Wr W g st) (hc : (Wt.flat st).length ≤ 100000000) => wslip_any (L[i]'hi) gone g st W hW (q9 _ (List.getElem_mem hi)) hc)
  have HPT := Lib.hid (fun k => evFlat_part Ev.encS L k)
  have hL12 := q5.2
  have HE := Lib.hid hE
  clear hE q1 q2 q3 q4 q5 q6 q7 q8 q9 q10 hx qn q7' hin
  generalize Ev.encE ⟨id, cls, born, slot, L, gone, H⟩ = E at HE hlen hl2 ⊢
  generalize Ev.txt id = p1 at *
  generalize M.encL cls = p2 at *
  generalize M.encL born = p3 at *
  generalize M.encL slot = p4 at *
  generalize Ev.flg gone = p5 at *
  generalize M.encL (H.length : Int) = p6 at *
  generalize H.flatMap Ev.txt = p7 at *
  generalize M.encL (L.length : Int) = p8 at *
  go_enter Try.func20, Try.ntmps20
  go_upto_region 1 with fail
  generalize w.alloc (.cells #[.string (S id), .int .i64 cls, .int .i64 born, .int .i64 slot, .slice A L.length ca, .bool gone, .slice B H.length cb] 25) = W0 at hh hb hw0 HO HIN hsz ⊢
  generalize w.heap.size = b0 at hh hne hsz ⊢
  have HH0 := Lib.hid hh
  have HO0 : Hid (Only W0 W0 g) := Lib.hid (Only.refl _ _)
  clear hh hb
  have y : W0.cell? ⟨b0, 0, none⟩ = some (.string (S id)) := HH0.out.cell 0
  go_wp2_with fail
  refine (HT.out _ _ hw0 (by omega)).mono ?_
  rintro r w1 ⟨rfl, st1, hw1, f, n1, b, o⟩
  have HO1 := Lib.hid (HO0.out.trans o)
  have HH1 := Lib.hid (o.has HH0.out hne)
  have F1 : Hid (Wt.flat st1 = Wt.flat st ++ (p1) ∧ st1.2 = st.2) := Lib.hid ⟨f, b⟩
  clear f b o y HH0 HO0 hw0 HT
  have y : w1.cell? ⟨b0, 1, none⟩ = some (.int .i64 cls) := HH1.out.cell 1
  go_wp2_with fail
  refine (HN1.out _ _ hw1 (by omega)).mono ?_
  rintro r w2 ⟨rfl, st2, hw2, f, n2, b, o⟩
  have HO2 := Lib.hid (HO1.out.trans o)
  have HH2 := Lib.hid (o.has HH1.out hne)
  have F2 : Hid (Wt.flat st2 = Wt.flat st ++ (p1++p2) ∧ st2.2 = st.2) := Lib.hid ⟨by rw [f, F1.out.1]; simp only [List.append_assoc], by rw [b, F1.out.2]⟩
  clear f b o y HH1 HO1 hw1 HN1 F1
  have y : w2.cell? ⟨b0, 2, none⟩ = some (.int .i64 born) := HH2.out.cell 2
  go_wp2_with fail
  refine (HN2.out _ _ hw2 (by omega)).mono ?_
  rintro r w3 ⟨rfl, st3, hw3, f, n3, b, o⟩
  have HO3 := Lib.hid (HO2.out.trans o)
  have HH3 := Lib.hid (o.has HH2.out hne)
  have F3 : Hid (Wt.flat st3 = Wt.flat st ++ (p1++p2++p3) ∧ st3.2 = st.2) := Lib.hid ⟨by rw [f, F2.out.1]; simp only [List.append_assoc], by rw [b, F2.out.2]⟩
  clear f b o y HH2 HO2 hw2 HN2 F2
  have y : w3.cell? ⟨b0, 3, none⟩ = some (.int .i64 slot) := HH3.out.cell 3
  go_wp2_with fail
  refine (HN3.out _ _ hw3 (by omega)).mono ?_
  rintro r w4 ⟨rfl, st4, hw4, f, n4, b, o⟩
  have HO4 := Lib.hid (HO3.out.trans o)
  have HH4 := Lib.hid (o.has HH3.out hne)
  have F4 : Hid (Wt.flat st4 = Wt.flat st ++ (p1++p2++p3++p4) ∧ st4.2 = st.2) := Lib.hid ⟨by rw [f, F3.out.1]; simp only [List.append_assoc], by rw [b, F3.out.2]⟩
  clear f b o y HH3 HO3 hw3 HN3 F3
  have y : w4.cell? ⟨b0, 5, none⟩ = some (.bool gone) := HH4.out.cell 5
  go_wp2_with fail
  refine (HF.out _ _ hw4 (by omega)).mono ?_
  rintro r w5 ⟨rfl, st5, hw5, f, n5, b, o⟩
  have HO5 := Lib.hid (HO4.out.trans o)
  have HH5 := Lib.hid (o.has HH4.out hne)
  have F5 : Hid (Wt.flat st5 = Wt.flat st ++ (p1++p2++p3++p4++p5) ∧ st5.2 = st.2) := Lib.hid ⟨by rw [f, F4.out.1]; simp only [List.append_assoc], by rw [b, F4.out.2]⟩
  clear f b o y HH4 HO4 hw4 HF F4
  have y : w5.cell? ⟨b0, 6, none⟩ = some (.slice B H.length cb) := HH5.out.cell 6
  go_wp2_with fail
  refine (HX.out _ _ hw5 (HIN.out.rh.mv (Mv.of_only HO5.out (s := [g]) (List.mem_singleton.2 rfl)) (fun x hx => hx)) (by omega)).mono ?_
  rintro r w6 ⟨rfl, st6, hw6, f, n6, b, o⟩
  have HO6 := Lib.hid (HO5.out.trans o)
  have HH6 := Lib.hid (o.has HH5.out hne)
  have F6 : Hid (Wt.flat st6 = Wt.flat st ++ (p1++p2++p3++p4++p5++(p6 ++ p7)) ∧ st6.2 = st.2) := Lib.hid ⟨by rw [f, F5.out.1]; simp only [List.append_assoc], by rw [b, F5.out.2]⟩
  rw [List.length_append] at n6
  clear f b o y HH5 HO5 hw5 HX F5
  have y : w6.cell? ⟨b0, 4, none⟩ = some (.slice A L.length ca) := HH6.out.cell 4
  go_wp2_with fail
  refine (HN4.out _ _ hw6 (by omega)).mono ?_
  rintro r w7 ⟨rfl, st7, hw7, f, n7, b, o⟩
  have HO7 := Lib.hid (HO6.out.trans o)
  have HH7 := Lib.hid (o.has HH6.out hne)
  have F7 : Hid (Wt.flat st7 = Wt.flat st ++ (p1++p2++p3++p4++p5++(p6 ++ p7)++p8) ∧ st7.2 = st.2) := Lib.hid ⟨by rw [f, F6.out.1]; simp only [List.append_assoc], by rw [b, F6.out.2]⟩
  clear f b o y HH6 HO6 hw6 HN4 F6
  have hn8 : (Wt.flat st7).length ≤ 100000 + 3600 := by omega
  clear n1 n2 n3 n4 n5 n6 n7
  have y4 : w7.cell? ⟨b0, 4, none⟩ = some (.slice A L.length ca) := HH7.out.cell 4
  go_wp2_with fail
  clear y4
  go_loopg [38] L.length (fun n v38 wr => ∃ (k : Nat) (st8 : Wt.St), k + n = L.length ∧ v38 = .int .i64 (k : Int) ∧ Wr wr g st8 ∧ Hid (Wt.flat st8 = Wt.flat st7 ++ (L.take k).flatMap Ev.encS ∧ st8.2 = st7.2) ∧ Hid (Only W0 wr g))
  case atStart => exact ⟨0, st7, Nat.zero_add _, rfl, hw7, Lib.hid ⟨by simp, rfl⟩, HO7⟩
  case round =>
    clear hw7
    obtain ⟨k, st8, hkn, rfl, hw8, F8, HO8⟩ := hrel
    cases gk with
    | zero =>
      obtain rfl : k = L.length := by omega
      have hlt : ¬ (L.length : Int) < (L.length : Int) := by omega
      go_wp2_with fail
      go_returns
      have f8 := F8.out.1
      rw [List.take_of_length_le (Nat.le_refl _)] at f8
      exact wpost rfl hw8 (by rw [f8, F7.out.1, HE.out]; simp only [List.append_assoc]) (by rw [F8.out.2, F7.out.2]) (HO.out.trans HO8.out)
    | succ n =>
      have hlt : (k : Int) < (L.length : Int) := by omega
      have hk : k < L.length := by omega
      have hinc : IntKind.i64.wrap ((k : Int) + 1) = (k : Int) + 1 := by rw [IntKind.wrap_i64]; omega
      have hkc : (k : Int) < (ca : Int) := by have := HIN.out.la; dsimp only at this; omega
      have hk0 : (0 : Int) ≤ (k : Int) := by omega
      obtain ⟨bl, ol, hA, hbl, hng, p0, p1', p2', p3'⟩ := RowP.get (HIN.out.rl.mv (Mv.of_only HO8.out (s := [g]) (List.mem_singleton.2 rfl)) (fun x hx => hx)) k hk
      have HC := Lib.hid (HSL.out k hk)
      have HST := Lib.hid (evFlat_next Ev.encS L k hk)
      have hfl : (Wt.flat st8).length ≤ 100000000 := by
        have h1 := HPT.out k
        rw [F8.out.1, List.length_append]
        omega
      dsimp only at p0 p1' p2' p3'
      subst hA
      generalize L[k]'hk = x at p0 p1' p2' p3' HST HC
      obtain ⟨xn, xp, xc, xe⟩ := x
      dsimp only at p0 p1' p2' p3'
      have HN := Lib.hid hkn
      clear hkn
      have hb9 : Below wr.heap.size wr (wr.alloc (.cells #[.string (S xn), .string (S xp), .string (S xc), .bool xe] 60)) := (Below.refl _ wr).alloc (Nat.le_refl _) _
      have hw9 := hw8.below hb9 (Nat.le_refl _)
      have HO9 := Lib.hid (HO8.out.trans (Only.of_below hb9 g))
      have hsl := Has.made wr 60 #[.string (S xn), .string (S xp), .string (S xc), .bool xe]
      clear hbl hng HSL
      go_upto_region 11 with fail
      clear p0 p1' p2' p3' hw8 hb9
      generalize wr.alloc (.cells #[.string (S xn), .string (S xp), .string (S xc), .bool xe] 60) = W9 at hw9 HO9 hsl ⊢
      generalize wr.heap.size = sb at hsl ⊢
      have x0 : W9.cell? ⟨sb, 0, none⟩ = some (.string (S xn)) := hsl.cell 0
      have x1 : W9.cell? ⟨sb, 1, none⟩ = some (.string (S xp)) := hsl.cell 1
      have x2 : W9.cell? ⟨sb, 2, none⟩ = some (.string (S xc)) := hsl.cell 2
      have x3 : W9.cell? ⟨sb, 3, none⟩ = some (.bool xe) := hsl.cell 3
      clear hsl
      go_wp2_with fail
      refine (HC.out _ _ hw9 hfl).mono ?_
      rintro r w10 ⟨rfl, st10, hw10, f, n10, b, o⟩
      have HR : Hid (Wt.flat st10 = Wt.flat st7 ++ (L.take (k + 1)).flatMap Ev.encS ∧ st10.2 = st7.2) := Lib.hid ⟨by rw [f, F8.out.1, HST.out, List.append_assoc], by rw [b, F8.out.2]⟩
      have HOR := Lib.hid (HO9.out.trans o)
      clear f b o n10 x0 x1 x2 x3 hw9 HO9 F8 HO8 HST HC hfl
      go_wp2_with fail
      go_roundg n
      case measure => omega
      case rel => exact ⟨k + 1, st10, by have := HN.out; omega, by go_num, hw10, HR, HOR⟩
end Go.Proofs.Ytihhgingdgepcaa
