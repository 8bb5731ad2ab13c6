/-
  The contract of PolicyPlays.
-/
import Derived.Test.YtjmdpepghnhpkaaPolicyReady
namespace Go.Proofs.Ytjmdpepghnhpkaa
open Go.RowKit
set_option linter.unusedVariables false

/-- A call. -/
structure Qop where
  kind : Int
  seq : Int
  due : Int
def Qop.cs (x : Qop) : List Value := [.int .i64 x.kind, .int .i64 x.seq, .int .i64 x.due]
theorem Qop.cs_len (x : Qop) : x.cs.length = 3 := rfl
def qvs (L : List Qop) : List Value := L.flatMap Qop.cs
theorem qvs_len (L : List Qop) : (qvs L).length = L.length * 3 := flat_len Qop.cs 3 Qop.cs_len L
theorem RowQ.get {w : World} {s : List Nat} {A : Option Addr} {L : List Qop} (h : RowC w s A (qvs L)) (k : Nat) (hk : k < L.length) : ∃ b off, A = some ⟨b, off, none⟩ ∧ b < w.heap.size ∧ b ∉ s ∧ w.cell? ⟨b, off + k * 3, none⟩ = some (.int .i64 (L[k]).kind) ∧ w.cell? ⟨b, off + k * 3 + 1, none⟩ = some (.int .i64 (L[k]).seq) ∧ w.cell? ⟨b, off + k * 3 + 2, none⟩ = some (.int .i64 (L[k]).due) := by
  obtain ⟨b, off, hA, hb, hn, hr⟩ := h (fun e => by
    have := qvs_len L
    rw [e, List.length_nil] at this
    omega)
  have hg := fun j (hj : j < 3) => flat_get Qop.cs 3 Qop.cs_len L k hk j hj
  refine ⟨b, off, hA, hb, hn, ?_, ?_, ?_⟩
  · exact hr (k * 3) _ ((hg 0 (by omega)).trans rfl)
  · rw [Nat.add_assoc]; exact hr (k * 3 + 1) _ ((hg 1 (by omega)).trans rfl)
  · rw [Nat.add_assoc]; exact hr (k * 3 + 2) _ ((hg 2 (by omega)).trans rfl)
theorem RowC.freshD {w : World} {s t : List Nat} {A : Option Addr} {cs : List Value} (h : RowC w s A cs) (ht : ∀ x ∈ t, x ∈ s ∨ w.heap.size ≤ x) : RowC w t A cs := fun hl => by
  obtain ⟨b, off, hA, hb, hn, hr⟩ := h hl
  exact ⟨b, off, hA, hb, fun hx => by rcases ht b hx with h1 | h1; exact hn h1; omega, hr⟩
theorem QStep.rowP {w w' : World} {p q : Nat} {s s' : List Nat} {A : Option Addr} {cs : List Value} (h : RowC w (p :: q :: s) A cs) (hm : Mv w w' (q :: s)) (hs : ∀ x ∈ s', x ∈ s ∨ w.heap.size ≤ x) : RowC w' (p :: q :: s') A cs := fun hl => by
  obtain ⟨b, off, hA, hb, hn, hr⟩ := h hl
  refine ⟨b, off, hA, Nat.lt_of_lt_of_le hb hm.size, fun hx => ?_, fun j u hu => World.cell_block (hm.block b hb (fun hx => hn (List.mem_cons_of_mem _ hx))) (hr j u hu)⟩
  rcases List.mem_cons.1 hx with hx | hx
  · exact hn (by rw [hx]; exact List.mem_cons_self ..)
  rcases List.mem_cons.1 hx with hx | hx
  · exact hn (by rw [hx]; exact List.mem_cons_of_mem _ (List.mem_cons_self ..))
  · rcases hs b hx with h1 | h1
    · exact hn (List.mem_cons_of_mem _ (List.mem_cons_of_mem _ h1))
    · omega
/-- Where the statement stands: a queue, and a list that is the same. -/
def PlayS (w0 : World) (q : Nat) (l : List Du) (A : Option Addr) (cap m : Nat) (W : World) : Prop :=
  (∀ x ∈ l, x.due ≤ 9223372036854775807) ∧ l.length ≤ m ∧ l.length ≤ cap ∧ cap ≤ 9223372036854775807 ∧ Below w0.heap.size w0 W ∧ ∃ s, QAt W q s l ∧ RowD W (q :: s) A l ∧ ∀ x ∈ s, w0.heap.size ≤ x
set_option maxRecDepth 100000 in
set_option maxHeartbeats 16000000 in
theorem policyPlays_any {w : World} {L : List Qop} {A : Option Addr} {cap : Nat} (hr : RowC w [] A (qvs L)) (hl : L.length ≤ cap) (hc : cap ≤ 9223372036854775807) (hfq : ∀ x ∈ L, x.due ≤ 9223372036854775807) :
    Calls Try.prog 4 #[.slice A L.length cap] w fun r w' => r = .returned (.bool true) ∧ Below w.heap.size w w' := by
  have HR := Lib.hid hr
  have HFQ := Lib.hid hfq
  have HAW := Lib.hid dawake_any
  have hq := qnew w
  have hb0 : Below w.heap.size w (w.alloc (.cells #[.slice none 0 0] 32)) := (Below.refl _ w).alloc (Nat.le_refl _) _
  clear hr hfq
  go_enter Try.func4, Try.ntmps4
  go_upto_region 2 with fail
  generalize w.alloc (.cells #[.slice none 0 0] 32) = W0 at hq hb0 ⊢
  obtain ⟨q, hqe⟩ : ∃ q, w.heap.size = q := ⟨_, rfl⟩
  rw [hqe] at hq ⊢
  have HQE := Lib.hid hqe
  have HP0 : Hid (PlayS w q [] none 0 0 W0) := Lib.hid ⟨by simp, Nat.le_refl _, Nat.le_refl _, Nat.zero_le _, hb0, [], hq, RowC.nil _ _ _, by simp⟩
  clear hqe hb0 hq
  go_wp2_with fail
  go_loopg [4, 5] 60 (fun n v4 v5 wr => ∃ (k : Nat) (l : List Du) (A' : Option Addr) (cap' : Nat), k + n = 60 ∧ k ≤ L.length ∧ v5 = .int .i64 (k : Int) ∧ v4 = .slice A' l.length cap' ∧ Hid (PlayS w q l A' cap' k wr))
  case atStart => exact ⟨0, [], none, 0, rfl, Nat.zero_le _, rfl, rfl, HP0⟩
  case round =>
    obtain ⟨k, l, A', cap', hkn, hkL, rfl, rfl, HPS⟩ := hrel
    by_cases hlt : k < L.length ∧ k < 60
    · have hki : (k : Int) < (L.length : Int) := by omega
      have hki2 : (k : Int) < 60 := by omega
      have hk0 : (0 : Int) ≤ (k : Int) := by omega
      have hkc : (k : Int) < (cap : Int) := by omega
      have hinc : IntKind.i64.wrap ((k : Int) + 1) = (k : Int) + 1 := by rw [IntKind.wrap_i64]; omega
      obtain ⟨n, hn⟩ : ∃ n, gk = n + 1 := ⟨gk - 1, by omega⟩
      subst hn
      obtain ⟨b, off, hA, hbw, -, p0, p1, p2⟩ := RowQ.get HR.out k hlt.1
      subst hA
      have HXD := Lib.hid (HFQ.out L[k] (List.getElem_mem hlt.1))
      generalize L[k]'hlt.1 = x at p0 p1 p2 HXD
      obtain ⟨kd, xs, xd⟩ := x
      dsimp only at p0 p1 p2 HXD
      have HP : Hid (∀ W, Below w.heap.size w W → W.cell? ⟨b, off + k * 3, none⟩ = some (.int .i64 kd) ∧ W.cell? ⟨b, off + k * 3 + 1, none⟩ = some (.int .i64 xs) ∧ W.cell? ⟨b, off + k * 3 + 2, none⟩ = some (.int .i64 xd)) := Lib.hid (fun W hb => ⟨(hb.cell (p := ⟨b, off + k * 3, none⟩) hbw).trans p0, (hb.cell (p := ⟨b, off + k * 3 + 1, none⟩) hbw).trans p1, (hb.cell (p := ⟨b, off + k * 3 + 2, none⟩) hbw).trans p2⟩)
      have HKN := Lib.hid (And.intro hkn hlt)
      obtain ⟨hft, hlk, hlc', hcm', hbk, s, hQ, hrow, hsb⟩ := HPS.out
      have HFT := Lib.hid hft
      clear hft
      have hl60 : l.length ≤ 60 := by omega
      have HBK := Lib.hid hbk
      have HQ := Lib.hid (And.intro hQ (And.intro hrow hsb))
      clear p0 p1 p2 hkn hQ hrow hsb HPS HP0
      obtain ⟨c0, c1, c2⟩ := HP.out _ hbk
      clear hbk
      go_upto_block 2 with fail
      go_cut [4, 6] (fun v4 v6 W => ∃ (l' : List Du) (A2 : Option Addr) (cap2 : Nat), v4 = .slice A2 l'.length cap2 ∧ v6 = .bool true ∧ Hid (PlayS w q l' A2 cap2 (k + 1) W))
      case first =>
        by_cases hk012 : kd = 0 ∨ kd = 1 ∨ kd = 2
        · have hadd := qadd_any HQ.out.1 (by omega) ⟨xs, xd⟩
          dsimp only at hadd
          have HADD := Lib.hid hadd
          clear hadd
          rcases hk012 with rfl | rfl | rfl
          all_goals
            go_wp2_with fail
            refine HADD.out.mono ?_
            rintro r w1 ⟨rfl, s1, hQ1, hm1, hs1⟩
            have HB1 := Lib.hid (hm1.below HBK.out HBK.out.size (by
              intro x hx
              rcases List.mem_cons.1 hx with rfl | hx
              · rw [HQE.out]; exact Nat.le_refl _
              · exact HQ.out.2.2 x hx))
            have HSB1 := Lib.hid (fun x (hx : x ∈ s1) => (by
              rcases hs1 x hx with h | h
              · exact HQ.out.2.2 x h
              · exact Nat.le_trans HBK.out.size h : w.heap.size ≤ x))
            have HROW1 := Lib.hid (QStep.row HQ.out.2.1 hm1 hs1)
            have HQ1 := Lib.hid hQ1
            have hput := dput_any (HROW1.out.sub (t := []) (by simp)) hlc' hcm' (by omega) ⟨xs, xd⟩
            dsimp only at hput
            have HPUT := Lib.hid hput
            clear hput hm1 hs1 hQ1 HADD c0 c1 c2
            obtain ⟨c0, c1, c2⟩ := HP.out _ HB1.out
            go_wp2_with fail
            refine HPUT.out.mono ?_
            rintro r w2 ⟨v, rfl, hown, hb2⟩
            obtain ⟨A2, cap2, rfl, hc2, hcm2, -, -, hrow2⟩ := own_rowC (s := q :: s1) hown (by
              intro x hx
              rcases List.mem_cons.1 hx with rfl | hx
              · exact HQ1.out.lt.1
              · exact HQ1.out.lt.2 x hx) (by decide)
            have hpl : (Du.put l ⟨xs, xd⟩).length = l.length + 1 := by rw [(Du.put_perm _ _).length_eq, List.length_cons]
            have HREL : Hid (PlayS w q (Du.put l ⟨xs, xd⟩) A2 cap2 (k + 1) w2) := Lib.hid ⟨fun x hx => (by
              rcases List.mem_cons.1 ((Du.put_perm _ _).mem_iff.1 hx) with rfl | hx
              · exact HXD.out
              · exact HFT.out x hx), by omega, by rw [hpl]; exact hc2, by simpa only [maxLen] using hcm2, HB1.out.trans (hb2.mono HB1.out.size), s1, HQ1.out.below hb2, hrow2, HSB1.out⟩
            have HPL := Lib.hid hpl
            clear hown hb2 hc2 hcm2 hrow2 hpl HPUT HROW1 HQ1 HSB1 HB1 c0 c1 c2 HP
            go_wp2_with fail
            go_meet
            exact ⟨_, A2, cap2, by rw [HPL.out], rfl, HREL⟩
        have n0 : (kd == 0) = false := by rw [beq_eq_false_iff_ne]; omega
        have n1 : (kd == 1) = false := by rw [beq_eq_false_iff_ne]; omega
        have n2 : (kd == 2) = false := by rw [beq_eq_false_iff_ne]; omega
        by_cases hk4 : kd = 4
        · have HDR := Lib.hid (ddrop_any HQ.out.1 HQ.out.2.1 hlc' hcm' (by omega) HFT.out xs)
          subst hk4
          clear hk012
          go_wp2_with fail
          refine HDR.out.mono ?_
          rintro r w1 ⟨l', A2, cap2, s', rfl, h0, h1, h2, h3, h4, h5, h6, h7⟩
          have HREL : Hid (PlayS w q l' A2 cap2 (k + 1) w1) := Lib.hid ⟨fun x hx => HFT.out x (h0 x hx), by omega, h2, h3, h6.below HBK.out HBK.out.size (by
              intro x hx
              rcases List.mem_cons.1 hx with rfl | hx
              · rw [HQE.out]; exact Nat.le_refl _
              · exact HQ.out.2.2 x hx), s', h4, h5, fun x hx => (by
              rcases h7 x hx with h | h
              · exact HQ.out.2.2 x h
              · exact Nat.le_trans HBK.out.size h)⟩
          clear h0 h1 h2 h3 h4 h5 h6 h7 HDR c0 c1 c2 HP
          go_wp2_with fail
          go_meet
          exact ⟨l', A2, cap2, rfl, rfl, HREL⟩
        have n4 : (kd == 4) = false := by rw [beq_eq_false_iff_ne]; exact hk4
        have n5 : kd ≠ 0 ∧ kd ≠ 1 ∧ kd ≠ 2 ∧ kd ≠ 4 := ⟨by omega, by omega, by omega, hk4⟩
        clear hk012 hk4
        cases l with
        | nil =>
          have HF := Lib.hid (qfirst_any HQ.out.1 (by omega))
          go_wp2_with fail
          refine HF.out.mono ?_
          rintro r w1 ⟨rfl, hb1⟩
          rw [show dueR ([] : List Du).head? = .tuple #[.agg #[.int .i64 0, .int .i64 0], .bool false] from rfl]
          have hba : Below w1.heap.size w1 (w1.alloc (.cells #[.int .i64 0, .int .i64 0] 34)) := (Below.refl _ w1).alloc (Nat.le_refl _) _
          have HH := Lib.hid (Has.made w1 34 #[.int .i64 0, .int .i64 0])
          have HQ6 := Lib.hid (And.intro ((HQ.out.1.below hb1).below hba) (((HQ.out.2.1.below hb1).freshD (t := w1.heap.size :: q :: s) (by
            intro x hx
            rcases List.mem_cons.1 hx with rfl | hx
            · exact Or.inr (Nat.le_refl _)
            · exact Or.inl hx)).below hba))
          have hpw : w.heap.size ≤ w1.heap.size := (HBK.out.trans (hb1.mono HBK.out.size)).size
          have HB6 := Lib.hid ((HBK.out.trans (hb1.mono HBK.out.size)).trans (hba.mono hpw))
          have hlp : w1.heap.size < (w1.alloc (.cells #[.int .i64 0, .int .i64 0] 34)).heap.size := by rw [asize]; omega
          have HQP := Lib.hid (And.intro (HQ.out.1.below hb1).lt.1 (HQ.out.1.below hb1).lt.2)
          have HSB := Lib.hid HQ.out.2.2
          clear hb1 hba HF c0 c1 c2 HQ HBK
          go_upto_region 9 with fail
          generalize w1.alloc (.cells #[.int .i64 0, .int .i64 0] 34) = W6 at HH HQ6 HB6 hlp ⊢
          generalize w1.heap.size = p at HH hlp HQP HQ6 hpw ⊢
          obtain ⟨c0, -, -⟩ := HP.out _ HB6.out
          have z0 : W6.cell? ⟨p, 0, none⟩ = some (.int .i64 0) := HH.out.cell 0
          have z1 : W6.cell? ⟨p, 1, none⟩ = some (.int .i64 0) := HH.out.cell 1
          have hG := fun op o1 o2 W => run_duguard op o1 o2 0 0 0 0 W
          have hE := fun W => run_dueq 0 0 0 0 W
          rw [decide_eq_true rfl] at hE
          by_cases hk3 : kd = 3
          · subst hk3
            clear n0 n1 n2 n4 n5
            have HT := Lib.hid (qtake_any HQ6.out.1 (by omega))
            go_wp2_with fail
            refine HT.out.mono ?_
            rintro r w7 ⟨rfl, s1, hQ1, hm1, hs1⟩
            rw [show dueR ([] : List Du).head? = .tuple #[.agg #[.int .i64 0, .int .i64 0], .bool false] from rfl]
            have hpn : p ∉ q :: s := by
              intro hx
              rcases List.mem_cons.1 hx with hx | hx
              · have := HQP.out.1; omega
              · have := HQP.out.2 p hx; omega
            have hh7 := hm1.has HH.out hpn
            have hb7 := hm1.below HB6.out HB6.out.size (by
              intro x hx
              rcases List.mem_cons.1 hx with rfl | hx
              · rw [HQE.out]; exact Nat.le_refl _
              · exact HSB.out x hx)
            have HSB7 := Lib.hid (fun x (hx : x ∈ s1) => (by
              rcases hs1 x hx with h | h
              · exact HSB.out x h
              · exact Nat.le_trans HB6.out.size h : w.heap.size ≤ x))
            have hrow7 := QStep.rowP HQ6.out.2 hm1 hs1
            have hpn1 : ∀ x ∈ [p], x ≠ q ∧ x ∉ s1 := by
              intro x hx
              rw [List.mem_singleton.1 hx]
              refine ⟨fun e => hpn (by rw [e]; exact List.mem_cons_self ..), fun hx => ?_⟩
              rcases hs1 p hx with h | h
              · exact hpn (List.mem_cons_of_mem _ h)
              · omega
            have d0 : w7.cell? ⟨p, 0, none⟩ = some (.int .i64 0) := hh7.cell 0
            have d1 : w7.cell? ⟨p, 1, none⟩ = some (.int .i64 0) := hh7.cell 1
            have f0 := hh7.free 0
            have f1 := hh7.free 1
            have hon : Only w7 ((w7.setCell ⟨p, 0, none⟩ (.int .i64 0)).setCell ⟨p, 1, none⟩ (.int .i64 0)) p := (Only.set w7 p 0 _).trans (Only.set _ p 1 _)
            have hh8 : Has ((w7.setCell ⟨p, 0, none⟩ (.int .i64 0)).setCell ⟨p, 1, none⟩ (.int .i64 0)) p 34 #[.int .i64 0, .int .i64 0] := by simpa using (hh7.set 0 (.int .i64 0)).set 1 (.int .i64 0)
            have HQ8 := Lib.hid (And.intro (hQ1.mv (Mv.of_only hon (s := [p]) (by simp)) hpn1) ((hrow7.mv (Mv.of_only hon (s := [p]) (by simp)) (by simp)).sub (t := q :: s1) (fun x hx => List.mem_cons_of_mem _ hx)))
            have HB8 := Lib.hid (hon.below hb7 hb7.size hpw)
            have HH8 := Lib.hid hh8
            clear hQ1 hm1 hs1 hpn hh7 hb7 hrow7 hpn1 hon hh8 HT HQ6 HB6 HSB HQP HH z0 z1 c0 hlp hpw
            go_upto_region 11 with fail
            clear d0 d1 f0 f1
            generalize ((w7.setCell ⟨p, 0, none⟩ (.int .i64 0)).setCell ⟨p, 1, none⟩ (.int .i64 0)) = W8 at HQ8 HB8 HH8 ⊢
            obtain ⟨c0, -, -⟩ := HP.out _ HB8.out
            have z0 : W8.cell? ⟨p, 0, none⟩ = some (.int .i64 0) := HH8.out.cell 0
            have z1 : W8.cell? ⟨p, 1, none⟩ = some (.int .i64 0) := HH8.out.cell 1
            have HREL : Hid (PlayS w q [] A' cap' (k + 1) W8) := Lib.hid ⟨by simp, Nat.zero_le _, hlc', hcm', HB8.out, s1, HQ8.out.1, HQ8.out.2, HSB7.out⟩
            go_wp2_with fail
            go_meet
            exact ⟨[], A', cap', rfl, rfl, HREL⟩
          · have n3 : (kd == 3) = false := by rw [beq_eq_false_iff_ne]; exact hk3
            clear hk3
            have HREL : Hid (PlayS w q [] A' cap' (k + 1) W6) := Lib.hid ⟨by simp, Nat.zero_le _, hlc', hcm', HB6.out, s, HQ6.out.1, HQ6.out.2.sub (fun x hx => List.mem_cons_of_mem _ hx), HSB.out⟩
            go_wp2_with fail
            go_meet
            exact ⟨[], A', cap', rfl, rfl, HREL⟩
        | cons x t =>
          obtain ⟨xs1, xd1⟩ := x
          have HF := Lib.hid (qfirst_any HQ.out.1 (by omega))
          go_wp2_with fail
          refine HF.out.mono ?_
          rintro r w1 ⟨rfl, hb1⟩
          rw [show dueR ((⟨xs1, xd1⟩ : Du) :: t).head? = .tuple #[.agg #[.int .i64 xs1, .int .i64 xd1], .bool true] from rfl]
          have hba : Below w1.heap.size w1 (w1.alloc (.cells #[.int .i64 xs1, .int .i64 xd1] 34)) := (Below.refl _ w1).alloc (Nat.le_refl _) _
          have HH := Lib.hid (Has.made w1 34 #[.int .i64 xs1, .int .i64 xd1])
          have HQ6 := Lib.hid (And.intro ((HQ.out.1.below hb1).below hba) (((HQ.out.2.1.below hb1).freshD (t := w1.heap.size :: q :: s) (by
            intro x hx
            rcases List.mem_cons.1 hx with rfl | hx
            · exact Or.inr (Nat.le_refl _)
            · exact Or.inl hx)).below hba))
          have hpw : w.heap.size ≤ w1.heap.size := (HBK.out.trans (hb1.mono HBK.out.size)).size
          have HB6 := Lib.hid ((HBK.out.trans (hb1.mono HBK.out.size)).trans (hba.mono hpw))
          have hlp : w1.heap.size < (w1.alloc (.cells #[.int .i64 xs1, .int .i64 xd1] 34)).heap.size := by rw [asize]; omega
          have HQP := Lib.hid (And.intro (HQ.out.1.below hb1).lt.1 (HQ.out.1.below hb1).lt.2)
          have HSB := Lib.hid HQ.out.2.2
          clear hb1 hba HF c0 c1 c2 HQ HBK
          go_upto_region 9 with fail
          generalize w1.alloc (.cells #[.int .i64 xs1, .int .i64 xd1] 34) = W6 at HH HQ6 HB6 hlp ⊢
          generalize w1.heap.size = p at HH hlp HQP HQ6 hpw ⊢
          obtain ⟨c0, -, -⟩ := HP.out _ HB6.out
          have z0 : W6.cell? ⟨p, 0, none⟩ = some (.int .i64 xs1) := HH.out.cell 0
          have z1 : W6.cell? ⟨p, 1, none⟩ = some (.int .i64 xd1) := HH.out.cell 1
          by_cases hk3 : kd = 3
          · subst hk3
            clear n0 n1 n2 n4 n5
            have HT := Lib.hid (qtake_any HQ6.out.1 (by omega))
            go_wp2_with fail
            refine HT.out.mono ?_
            rintro r w7 ⟨rfl, s1, hQ1, hm1, hs1⟩
            rw [show dueR ((⟨xs1, xd1⟩ : Du) :: t).head? = .tuple #[.agg #[.int .i64 xs1, .int .i64 xd1], .bool true] from rfl]
            have hpn : p ∉ q :: s := by
              intro hx
              rcases List.mem_cons.1 hx with hx | hx
              · have := HQP.out.1; omega
              · have := HQP.out.2 p hx; omega
            have hh7 := hm1.has HH.out hpn
            have hb7 := hm1.below HB6.out HB6.out.size (by
              intro x hx
              rcases List.mem_cons.1 hx with rfl | hx
              · rw [HQE.out]; exact Nat.le_refl _
              · exact HSB.out x hx)
            have HSB7 := Lib.hid (fun x (hx : x ∈ s1) => (by
              rcases hs1 x hx with h | h
              · exact HSB.out x h
              · exact Nat.le_trans HB6.out.size h : w.heap.size ≤ x))
            have hrow7 := QStep.rowP HQ6.out.2 hm1 hs1
            have hpn1 : ∀ x ∈ [p], x ≠ q ∧ x ∉ s1 := by
              intro x hx
              rw [List.mem_singleton.1 hx]
              refine ⟨fun e => hpn (by rw [e]; exact List.mem_cons_self ..), fun hx => ?_⟩
              rcases hs1 p hx with h | h
              · exact hpn (List.mem_cons_of_mem _ h)
              · omega
            have d0 : w7.cell? ⟨p, 0, none⟩ = some (.int .i64 xs1) := hh7.cell 0
            have d1 : w7.cell? ⟨p, 1, none⟩ = some (.int .i64 xd1) := hh7.cell 1
            have f0 := hh7.free 0
            have f1 := hh7.free 1
            have hon : Only w7 ((w7.setCell ⟨p, 0, none⟩ (.int .i64 xs1)).setCell ⟨p, 1, none⟩ (.int .i64 xd1)) p := (Only.set w7 p 0 _).trans (Only.set _ p 1 _)
            have hh8 : Has ((w7.setCell ⟨p, 0, none⟩ (.int .i64 xs1)).setCell ⟨p, 1, none⟩ (.int .i64 xd1)) p 34 #[.int .i64 xs1, .int .i64 xd1] := by simpa using (hh7.set 0 (.int .i64 xs1)).set 1 (.int .i64 xd1)
            have HQ8 := Lib.hid (And.intro (hQ1.mv (Mv.of_only hon (s := [p]) (by simp)) hpn1) ((hrow7.mv (Mv.of_only hon (s := [p]) (by simp)) (by simp)).sub (t := q :: s1) (fun x hx => List.mem_cons_of_mem _ hx)))
            have HB8 := Lib.hid (hon.below hb7 hb7.size hpw)
            have HH8 := Lib.hid hh8
            clear hQ1 hm1 hs1 hpn hh7 hb7 hrow7 hpn1 hon hh8 HT HQ6 HB6 HSB HQP HH z0 z1 c0 hlp hpw
            go_upto_region 11 with fail
            clear d0 d1 f0 f1
            generalize ((w7.setCell ⟨p, 0, none⟩ (.int .i64 xs1)).setCell ⟨p, 1, none⟩ (.int .i64 xd1)) = W8 at HQ8 HB8 HH8 ⊢
            obtain ⟨c0, -, -⟩ := HP.out _ HB8.out
            have z0 : W8.cell? ⟨p, 0, none⟩ = some (.int .i64 xs1) := HH8.out.cell 0
            have z1 : W8.cell? ⟨p, 1, none⟩ = some (.int .i64 xd1) := HH8.out.cell 1
            obtain ⟨bl, ol, hA2, hbl, -, p0, p1⟩ := RowD.get (HQ8.out.2) 0 (by simp)
            dsimp only [List.getElem_cons_zero] at p0 p1
            subst hA2
            have hcp0 : (0 : Int) < (cap' : Int) := by simp at hlc'; omega
            have hlz : ((((⟨xs1, xd1⟩ : Du) :: t).length : Int) == 0) = false := by rw [beq_eq_false_iff_ne, List.length_cons]; omega
            have hG := fun op o1 o2 W => run_duguard op o1 o2 xs1 xd1 xs1 xd1 W
            have hE := fun W => run_dueq xs1 xd1 xs1 xd1 W
            rw [decide_eq_true rfl] at hE
            rw [Nat.zero_mul, Nat.add_zero] at p0 p1
            go_upto_region 13 with fail
            have hx : RdyS p bl ol ⟨xs1, xd1⟩ ⟨xs1, xd1⟩ W8.drew := ⟨z0, z1, p0, p1⟩
            refine wp_region_held_drew (S := RdyS p bl ol ⟨xs1, xd1⟩ ⟨xs1, xd1⟩) (by kernel_rfl) hx (fun hHeld => ?_)
            have HC8 := Lib.hid (show W8.drew.cell? ⟨b, off + k * 3, none⟩ = some (.int .i64 3) from c0)
            have HREL : Hid (PlayS w q t (aft (some ⟨bl, ol, none⟩) cap' 1 2) (cap' - 1) (k + 1) W8.drew) := Lib.hid (by
              have hrw := (HQ8.out.2.below (Below.refl _ W8).drew).drop cap' 1 2 (by rw [dvs_len]; omega)
              rw [dvs_drop] at hrw
              exact ⟨fun x hx => HFT.out x (List.mem_cons_of_mem _ hx), by simp at hlk; omega, by simp at hlc'; omega, by omega, HB8.out.drew, s1, HQ8.out.1.below (Below.refl _ W8).drew, hrw, HSB7.out⟩)
            generalize W8.drew = wd at hx hHeld HREL HC8 ⊢
            first
            | (refine take_wanted (i := 0) (v := ?_) rfl rfl (by kernel_rfl) (by kernel_rfl) (by kernel_rfl) (fun _ _ _ h => h) (by rfl) (by assumption) ?_ ?_; rotate_left; (focus (intro w hSw; (try dsimp only at hSw); go_simp; first | done | with_reducible rfl)); (simp only [Act.at, List.setIfInBounds_toArray, List.set_cons_zero, List.set_cons_succ]))
            | (refine take_unwanted (i := 0) rfl rfl (by kernel_rfl) (by kernel_rfl) (by kernel_rfl) (fun _ _ _ h => h) (by rfl) (by assumption) ?_; (simp only [Act.at, List.setIfInBounds_toArray, List.set_cons_zero, List.set_cons_succ]))
            first
            | (refine take_wanted (i := 1) (v := ?_) rfl rfl (by kernel_rfl) (by kernel_rfl) (by kernel_rfl) (fun _ _ _ h => h) (by rfl) (by assumption) ?_ ?_; rotate_left; (focus (intro w hSw; (try dsimp only at hSw); go_simp; first | done | with_reducible rfl)); (simp only [Act.at, List.setIfInBounds_toArray, List.set_cons_zero, List.set_cons_succ]))
            | (refine take_unwanted (i := 1) rfl rfl (by kernel_rfl) (by kernel_rfl) (by kernel_rfl) (fun _ _ _ h => h) (by rfl) (by assumption) ?_; (simp only [Act.at, List.setIfInBounds_toArray, List.set_cons_zero, List.set_cons_succ]))
            first
            | (refine take_wanted (i := 2) (v := ?_) rfl rfl (by kernel_rfl) (by kernel_rfl) (by kernel_rfl) (fun _ _ _ h => h) (by rfl) (by assumption) ?_ ?_; rotate_left; (focus (intro w hSw; (try dsimp only at hSw); go_simp; first | done | with_reducible rfl)); (simp only [Act.at, List.setIfInBounds_toArray, List.set_cons_zero, List.set_cons_succ]))
            | (refine take_unwanted (i := 2) rfl rfl (by kernel_rfl) (by kernel_rfl) (by kernel_rfl) (fun _ _ _ h => h) (by rfl) (by assumption) ?_; (simp only [Act.at, List.setIfInBounds_toArray, List.set_cons_zero, List.set_cons_succ]))
            first
            | (refine take_wanted (i := 3) (v := ?_) rfl rfl (by kernel_rfl) (by kernel_rfl) (by kernel_rfl) (fun _ _ _ h => h) (by rfl) (by assumption) ?_ ?_; rotate_left; (focus (intro w hSw; (try dsimp only at hSw); go_simp; first | done | with_reducible rfl)); (simp only [Act.at, List.setIfInBounds_toArray, List.set_cons_zero, List.set_cons_succ]))
            | (refine take_unwanted (i := 3) rfl rfl (by kernel_rfl) (by kernel_rfl) (by kernel_rfl) (fun _ _ _ h => h) (by rfl) (by assumption) ?_; (simp only [Act.at, List.setIfInBounds_toArray, List.set_cons_zero, List.set_cons_succ]))
            first
            | (refine take_wanted (i := 4) (v := ?_) rfl rfl (by kernel_rfl) (by kernel_rfl) (by kernel_rfl) (fun _ _ _ h => h) (by rfl) (by assumption) ?_ ?_; rotate_left; (focus (intro w hSw; (try dsimp only at hSw); go_simp; first | done | with_reducible rfl)); (simp only [Act.at, List.setIfInBounds_toArray, List.set_cons_zero, List.set_cons_succ]))
            | (refine take_unwanted (i := 4) rfl rfl (by kernel_rfl) (by kernel_rfl) (by kernel_rfl) (fun _ _ _ h => h) (by rfl) (by assumption) ?_; (simp only [Act.at, List.setIfInBounds_toArray, List.set_cons_zero, List.set_cons_succ]))
            first
            | (refine take_wanted (i := 5) (v := ?_) rfl rfl (by kernel_rfl) (by kernel_rfl) (by kernel_rfl) (fun _ _ _ h => h) (by rfl) (by assumption) ?_ ?_; rotate_left; (focus (intro w hSw; (try dsimp only at hSw); go_simp; first | done | with_reducible rfl)); (simp only [Act.at, List.setIfInBounds_toArray, List.set_cons_zero, List.set_cons_succ]))
            | (refine take_unwanted (i := 5) rfl rfl (by kernel_rfl) (by kernel_rfl) (by kernel_rfl) (fun _ _ _ h => h) (by rfl) (by assumption) ?_; (simp only [Act.at, List.setIfInBounds_toArray, List.set_cons_zero, List.set_cons_succ]))
            first
            | (refine take_wanted (i := 6) (v := ?_) rfl rfl (by kernel_rfl) (by kernel_rfl) (by kernel_rfl) (fun _ _ _ h => h) (by rfl) (by assumption) ?_ ?_; rotate_left; (focus (intro w hSw; (try dsimp only at hSw); go_simp; first | done | with_reducible rfl)); (simp only [Act.at, List.setIfInBounds_toArray, List.set_cons_zero, List.set_cons_succ]))
            | (refine take_unwanted (i := 6) rfl rfl (by kernel_rfl) (by kernel_rfl) (by kernel_rfl) (fun _ _ _ h => h) (by rfl) (by assumption) ?_; (simp only [Act.at, List.setIfInBounds_toArray, List.set_cons_zero, List.set_cons_succ]))
            first
            | (refine take_wanted (i := 7) (v := ?_) rfl rfl (by kernel_rfl) (by kernel_rfl) (by kernel_rfl) (fun _ _ _ h => h) (by rfl) (by assumption) ?_ ?_; rotate_left; (focus (intro w hSw; (try dsimp only at hSw); go_simp; first | done | with_reducible rfl)); (simp only [Act.at, List.setIfInBounds_toArray, List.set_cons_zero, List.set_cons_succ]))
            | (refine take_unwanted (i := 7) rfl rfl (by kernel_rfl) (by kernel_rfl) (by kernel_rfl) (fun _ _ _ h => h) (by rfl) (by assumption) ?_; (simp only [Act.at, List.setIfInBounds_toArray, List.set_cons_zero, List.set_cons_succ]))
            first
            | (refine take_wanted (i := 8) (v := ?_) rfl rfl (by kernel_rfl) (by kernel_rfl) (by kernel_rfl) (fun _ _ _ h => h) (by rfl) (by assumption) ?_ ?_; rotate_left; (focus (intro w hSw; (try dsimp only at hSw); go_simp; first | done | with_reducible rfl)); (simp only [Act.at, List.setIfInBounds_toArray, List.set_cons_zero, List.set_cons_succ]))
            | (refine take_unwanted (i := 8) rfl rfl (by kernel_rfl) (by kernel_rfl) (by kernel_rfl) (fun _ _ _ h => h) (by rfl) (by assumption) ?_; (simp only [Act.at, List.setIfInBounds_toArray, List.set_cons_zero, List.set_cons_succ]))
            refine wpAnyH_done (by kernel_rfl) ?_ _
            have c6 := HC8.out
            have hlp1 : (0 : Int) < (((⟨xs1, xd1⟩ : Du) :: t).length : Int) := by rw [List.length_cons]; omega
            have hlp2 : (1 : Int) ≤ (((⟨xs1, xd1⟩ : Du) :: t).length : Int) := by rw [List.length_cons]; omega
            have hlp3 : (1 : Int) ≤ (cap' : Int) := by simp at hlc'; omega
            clear hx hHeld c0 z0 z1 p0 p1
            by_cases hcap : cap' = 1
            · have ht : t = [] := by
                cases t with
                | nil => rfl
                | cons y r => simp at hlc'; omega
              subst ht
              subst hcap
              go_wp2_with fail
              go_meet
              exact ⟨[], _, _, rfl, rfl, HREL⟩
            · have HAF : Hid (aft (some (⟨bl, ol, none⟩ : Addr)) cap' 1 2 = some ⟨bl, ol + 1 * 2, none⟩) := Lib.hid (by unfold aft; rw [if_neg hcap, Option.map_some, add_flat'])
              rw [HAF.out] at HREL
              go_wp2_with fail
              go_meet
              exact ⟨t, _, _, rfl, rfl, HREL⟩
          · have n3 : (kd == 3) = false := by rw [beq_eq_false_iff_ne]; exact hk3
            clear hk3
            have hrow6 := HQ6.out.2.sub (t := q :: s) (fun x hx => List.mem_cons_of_mem _ hx)
            have HREL : Hid (PlayS w q ((⟨xs1, xd1⟩ : Du) :: t) A' cap' (k + 1) W6.drew) := Lib.hid ⟨HFT.out, by omega, hlc', hcm', HB6.out.drew, s, HQ6.out.1.below (Below.refl _ W6).drew, hrow6.below (Below.refl _ W6).drew, HSB.out⟩
            obtain ⟨bl, ol, hA2, hbl, -, p0, p1⟩ := RowD.get (hrow6) 0 (by simp)
            dsimp only [List.getElem_cons_zero] at p0 p1
            subst hA2
            have hcp0 : (0 : Int) < (cap' : Int) := by simp at hlc'; omega
            have hlz : ((((⟨xs1, xd1⟩ : Du) :: t).length : Int) == 0) = false := by rw [beq_eq_false_iff_ne, List.length_cons]; omega
            have hG := fun op o1 o2 W => run_duguard op o1 o2 xs1 xd1 xs1 xd1 W
            have hE := fun W => run_dueq xs1 xd1 xs1 xd1 W
            rw [decide_eq_true rfl] at hE
            rw [Nat.zero_mul, Nat.add_zero] at p0 p1
            go_upto_region 13 with fail
            have hx : RdyS p bl ol ⟨xs1, xd1⟩ ⟨xs1, xd1⟩ W6.drew := ⟨z0, z1, p0, p1⟩
            refine wp_region_held_drew (S := RdyS p bl ol ⟨xs1, xd1⟩ ⟨xs1, xd1⟩) (by kernel_rfl) hx (fun hHeld => ?_)
            have HC6 := Lib.hid (show W6.drew.cell? ⟨b, off + k * 3, none⟩ = some (.int .i64 kd) from c0)
            generalize W6.drew = wd at hx hHeld HREL HC6 ⊢
            first
            | (refine take_wanted (i := 0) (v := ?_) rfl rfl (by kernel_rfl) (by kernel_rfl) (by kernel_rfl) (fun _ _ _ h => h) (by rfl) (by assumption) ?_ ?_; rotate_left; (focus (intro w hSw; (try dsimp only at hSw); go_simp; first | done | with_reducible rfl)); (simp only [Act.at, List.setIfInBounds_toArray, List.set_cons_zero, List.set_cons_succ]))
            | (refine take_unwanted (i := 0) rfl rfl (by kernel_rfl) (by kernel_rfl) (by kernel_rfl) (fun _ _ _ h => h) (by rfl) (by assumption) ?_; (simp only [Act.at, List.setIfInBounds_toArray, List.set_cons_zero, List.set_cons_succ]))
            first
            | (refine take_wanted (i := 1) (v := ?_) rfl rfl (by kernel_rfl) (by kernel_rfl) (by kernel_rfl) (fun _ _ _ h => h) (by rfl) (by assumption) ?_ ?_; rotate_left; (focus (intro w hSw; (try dsimp only at hSw); go_simp; first | done | with_reducible rfl)); (simp only [Act.at, List.setIfInBounds_toArray, List.set_cons_zero, List.set_cons_succ]))
            | (refine take_unwanted (i := 1) rfl rfl (by kernel_rfl) (by kernel_rfl) (by kernel_rfl) (fun _ _ _ h => h) (by rfl) (by assumption) ?_; (simp only [Act.at, List.setIfInBounds_toArray, List.set_cons_zero, List.set_cons_succ]))
            first
            | (refine take_wanted (i := 2) (v := ?_) rfl rfl (by kernel_rfl) (by kernel_rfl) (by kernel_rfl) (fun _ _ _ h => h) (by rfl) (by assumption) ?_ ?_; rotate_left; (focus (intro w hSw; (try dsimp only at hSw); go_simp; first | done | with_reducible rfl)); (simp only [Act.at, List.setIfInBounds_toArray, List.set_cons_zero, List.set_cons_succ]))
            | (refine take_unwanted (i := 2) rfl rfl (by kernel_rfl) (by kernel_rfl) (by kernel_rfl) (fun _ _ _ h => h) (by rfl) (by assumption) ?_; (simp only [Act.at, List.setIfInBounds_toArray, List.set_cons_zero, List.set_cons_succ]))
            first
            | (refine take_wanted (i := 3) (v := ?_) rfl rfl (by kernel_rfl) (by kernel_rfl) (by kernel_rfl) (fun _ _ _ h => h) (by rfl) (by assumption) ?_ ?_; rotate_left; (focus (intro w hSw; (try dsimp only at hSw); go_simp; first | done | with_reducible rfl)); (simp only [Act.at, List.setIfInBounds_toArray, List.set_cons_zero, List.set_cons_succ]))
            | (refine take_unwanted (i := 3) rfl rfl (by kernel_rfl) (by kernel_rfl) (by kernel_rfl) (fun _ _ _ h => h) (by rfl) (by assumption) ?_; (simp only [Act.at, List.setIfInBounds_toArray, List.set_cons_zero, List.set_cons_succ]))
            first
            | (refine take_wanted (i := 4) (v := ?_) rfl rfl (by kernel_rfl) (by kernel_rfl) (by kernel_rfl) (fun _ _ _ h => h) (by rfl) (by assumption) ?_ ?_; rotate_left; (focus (intro w hSw; (try dsimp only at hSw); go_simp; first | done | with_reducible rfl)); (simp only [Act.at, List.setIfInBounds_toArray, List.set_cons_zero, List.set_cons_succ]))
            | (refine take_unwanted (i := 4) rfl rfl (by kernel_rfl) (by kernel_rfl) (by kernel_rfl) (fun _ _ _ h => h) (by rfl) (by assumption) ?_; (simp only [Act.at, List.setIfInBounds_toArray, List.set_cons_zero, List.set_cons_succ]))
            first
            | (refine take_wanted (i := 5) (v := ?_) rfl rfl (by kernel_rfl) (by kernel_rfl) (by kernel_rfl) (fun _ _ _ h => h) (by rfl) (by assumption) ?_ ?_; rotate_left; (focus (intro w hSw; (try dsimp only at hSw); go_simp; first | done | with_reducible rfl)); (simp only [Act.at, List.setIfInBounds_toArray, List.set_cons_zero, List.set_cons_succ]))
            | (refine take_unwanted (i := 5) rfl rfl (by kernel_rfl) (by kernel_rfl) (by kernel_rfl) (fun _ _ _ h => h) (by rfl) (by assumption) ?_; (simp only [Act.at, List.setIfInBounds_toArray, List.set_cons_zero, List.set_cons_succ]))
            first
            | (refine take_wanted (i := 6) (v := ?_) rfl rfl (by kernel_rfl) (by kernel_rfl) (by kernel_rfl) (fun _ _ _ h => h) (by rfl) (by assumption) ?_ ?_; rotate_left; (focus (intro w hSw; (try dsimp only at hSw); go_simp; first | done | with_reducible rfl)); (simp only [Act.at, List.setIfInBounds_toArray, List.set_cons_zero, List.set_cons_succ]))
            | (refine take_unwanted (i := 6) rfl rfl (by kernel_rfl) (by kernel_rfl) (by kernel_rfl) (fun _ _ _ h => h) (by rfl) (by assumption) ?_; (simp only [Act.at, List.setIfInBounds_toArray, List.set_cons_zero, List.set_cons_succ]))
            first
            | (refine take_wanted (i := 7) (v := ?_) rfl rfl (by kernel_rfl) (by kernel_rfl) (by kernel_rfl) (fun _ _ _ h => h) (by rfl) (by assumption) ?_ ?_; rotate_left; (focus (intro w hSw; (try dsimp only at hSw); go_simp; first | done | with_reducible rfl)); (simp only [Act.at, List.setIfInBounds_toArray, List.set_cons_zero, List.set_cons_succ]))
            | (refine take_unwanted (i := 7) rfl rfl (by kernel_rfl) (by kernel_rfl) (by kernel_rfl) (fun _ _ _ h => h) (by rfl) (by assumption) ?_; (simp only [Act.at, List.setIfInBounds_toArray, List.set_cons_zero, List.set_cons_succ]))
            first
            | (refine take_wanted (i := 8) (v := ?_) rfl rfl (by kernel_rfl) (by kernel_rfl) (by kernel_rfl) (fun _ _ _ h => h) (by rfl) (by assumption) ?_ ?_; rotate_left; (focus (intro w hSw; (try dsimp only at hSw); go_simp; first | done | with_reducible rfl)); (simp only [Act.at, List.setIfInBounds_toArray, List.set_cons_zero, List.set_cons_succ]))
            | (refine take_unwanted (i := 8) rfl rfl (by kernel_rfl) (by kernel_rfl) (by kernel_rfl) (fun _ _ _ h => h) (by rfl) (by assumption) ?_; (simp only [Act.at, List.setIfInBounds_toArray, List.set_cons_zero, List.set_cons_succ]))
            refine wpAnyH_done (by kernel_rfl) ?_ _
            have c6 := HC6.out
            clear hx hHeld c0 z0 z1 p0 p1
            go_wp2_with fail
            go_meet
            exact ⟨_, _, cap', rfl, rfl, HREL⟩
      case rest =>
        obtain ⟨l', A2, cap2, rfl, rfl, HPS2⟩ := hcut
        obtain ⟨hft2, hlk2, hlc2, hcm2, hbk2, s2, hQ2, hrow2, hsb2⟩ := HPS2.out
        have hl60b : l'.length ≤ 60 := by omega
        have HLEN := Lib.hid (qlen_any hQ2 (by omega))
        have HQ2 := Lib.hid (And.intro hQ2 hrow2)
        have HBK2 := Lib.hid hbk2
        have hne : ((l'.length : Int) != (l'.length : Int)) = false := by rw [bne_eq_false_iff_eq]
        have HPN : Hid (∀ W, Below wc.heap.size wc W → PlayS w q l' A2 cap2 (k + 1) W) := Lib.hid (fun W hb => ⟨hft2, hlk2, hlc2, hcm2, hbk2.trans (hb.mono hbk2.size), s2, hQ2.below hb, hrow2.below hb, hsb2⟩)
        clear HPS2 hft2 hQ2 hrow2 hsb2 hbk2 HQ HBK c0 c1 c2 HP
        go_wp2_with fail
        refine HLEN.out.mono ?_
        rintro r w3 ⟨rfl, hb3⟩
        have HALL := Lib.hid (qall_any (HQ2.out.1.below hb3) (by omega))
        have HB3 := Lib.hid hb3
        clear hb3 HLEN
        go_wp2_with fail
        refine HALL.out.mono ?_
        rintro r w4 ⟨A3, cap3, rfl, hlc3, hcm3, hrow3, hb4⟩
        have hsm := dsame_any (hrow3 [] (by simp)) (((HQ2.out.2.below HB3.out).below hb4).sub (t := []) (by simp)) hlc3 hlc2 hcm3 hcm2
        rw [decide_eq_true rfl] at hsm
        have HSM := Lib.hid hsm
        have HB4 := Lib.hid (HB3.out.trans (hb4.mono HB3.out.size))
        clear hsm hrow3 hb4 HALL
        go_wp2_with fail
        refine HSM.out.mono ?_
        rintro r w5 ⟨rfl, hb5⟩
        have HNEW := Lib.hid (HPN.out _ (HB4.out.trans (hb5.mono HB4.out.size)))
        clear hb5 HSM HB4 HPN HB3
        go_wp2_with fail
        go_roundg n
        case measure => omega
        case rel => exact ⟨k + 1, l', A2, cap2, by have := HKN.out.1; omega, by have := HKN.out.2; omega, by go_num, rfl, HNEW⟩
    · obtain ⟨-, -, -, -, hbk, -⟩ := HPS.out
      by_cases hkL2 : (k : Int) < (L.length : Int)
      · have hk3 : ¬ (k : Int) < 60 := by omega
        clear hlt HPS HP0
        go_wp2_with fail
        refine (HAW.out _).mono ?_
        rintro r w7 ⟨rfl, hb7⟩
        go_wp2_with fail
        go_ret
        exact ⟨rfl, hbk.trans (hb7.mono hbk.size)⟩
      · clear hlt HPS HP0
        go_wp2_with fail
        refine (HAW.out _).mono ?_
        rintro r w7 ⟨rfl, hb7⟩
        go_wp2_with fail
        go_ret
        exact ⟨rfl, hbk.trans (hb7.mono hbk.size)⟩
end Go.Proofs.Ytjmdpepghnhpkaa
