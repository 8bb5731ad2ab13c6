/-
  The connected record in the next sectors: the journal's next.
-/
import Derived.Test.YtjdklifkalnamaaGreatDoorJrnC
namespace Go.Proofs.YtjdklifkalnamaaGreatDoor
open Go.RowKit
set_option linter.unusedVariables false

/-- The record that is read, and the stamps of its sectors: or none. -/
def NextPost (w : World) (o : Option (List UInt8 × List Nat)) (e : Ending) (w' : World) : Prop :=
  (o = none ∧ e = .returned (.tuple #[.string (S []), .slice none 0 0]) ∧ Below w.heap.size w w') ∨
  ∃ s ts v, o = some (s, ts) ∧ e = .returned (.tuple #[.string (S s), v]) ∧ IOwn w.heap.size w' v ts ∧ Below w.heap.size w w'
section
variable {w : World} {K : JK} {vs vr : Value} {L : List Jrn.Rec} {sure firm : Nat} {dead : Bool} {wr : Nat} {d : Dsk.St}
theorem flat_le {L : List (List UInt8)} (h : ∀ p ∈ L, p.length ≤ 50) : L.flatten.length ≤ 50 * L.length := by
  induction L with
  | nil => simp
  | cons p L ih =>
    have h1 := h p (List.mem_cons_self ..)
    have h2 := ih fun q hq => h q (List.mem_cons_of_mem _ hq)
    rw [List.flatten_cons, List.length_append, List.length_cons]
    omega
set_option maxRecDepth 100000 in
set_option maxHeartbeats 8000000 in
theorem jnext_any (h : JnAt w K vs vr L sure firm dead wr d) :
    Calls Tryz.prog 45 #[.pointer (some ⟨K.gj, 0, none⟩)] w (NextPost w (Jrn.nextP (Jrn.rx d) (K.base + Jrn.usedL L) (K.size - Jrn.usedL L) (Jrn.lastL K.seed L))) := by
  have HLAST := Lib.hid (jnlast_any h)
  have hll := h.last_lt
  have HRD : Hid (∀ (W : World) (k link : Nat), Below w.heap.size w W → k ≤ 1000000 → link < 9223372036854775808 → Calls Tryz.prog 59 #[.pointer (some ⟨K.gj, 0, none⟩), .int .i64 (k : Int), .int .i64 (link : Int)] W (RdJPost W (Jrn.readP (Jrn.rx d) (K.base + Jrn.usedL L) (K.size - Jrn.usedL L) k link))) :=
    Lib.hid (fun W k link hb hk hl => jread_any (h.below hb) k link hk (by omega))
  have HRL : Hid (∀ (k link : Nat) (q : List UInt8 × Nat), Jrn.readP (Jrn.rx d) (K.base + Jrn.usedL L) (K.size - Jrn.usedL L) k link = some q → q.2 < 9223372036854775808) := Lib.hid (fun k link q hq => Jrn.readP_lt hq)
  clear h
  generalize K.base + Jrn.usedL L = at_ at *
  generalize K.size - Jrn.usedL L = left at *
  generalize Jrn.lastL K.seed L = link at *
  generalize hrx : Jrn.rx d = rr at *
  clear hrx
  have HNX : Hid (∃ res, res = Jrn.nextP rr at_ left link) := Lib.hid ⟨_, rfl⟩
  go_enter Tryz.func45, Tryz.ntmps45
  go_wp2_with fail
  refine HLAST.out.mono ?_
  rintro r w1 ⟨rfl, hb1⟩
  have HB1 := Lib.hid hb1
  clear hb1
  go_wp2_with fail
  have hrd0 := HRD.out w1 0 link HB1.out (by decide) hll
  have hc0 : ((0 : Nat) : Int) = 0 := rfl
  rw [hc0] at hrd0
  refine hrd0.mono ?_
  rintro r w2 ⟨p0, st0, rfl, hq0, hpl0, hb2⟩
  have HB2 := Lib.hid (HB1.out.trans (hb2.mono HB1.out.size))
  clear hb2 hrd0 hc0 HLAST
  cases hr0 : Jrn.readP rr at_ left 0 link with
  | none =>
    have HN : Hid (Jrn.nextP rr at_ left link = none) := Lib.hid (by unfold Jrn.nextP; rw [hr0])
    rw [hr0] at hq0
    clear hq0 hr0 HRD HRL
    simp only [Option.isSome_none]
    go_wp2_with fail
    go_ret2
    exact Or.inl ⟨HN.out, rfl, HB2.out⟩
  | some q =>
    have he := hq0 q hr0
    subst he
    have hst0 := HRL.out _ _ _ hr0
    clear hq0
    simp only [Option.isSome_some]
    by_cases h2 : p0.length < 2
    · have HN : Hid (Jrn.nextP rr at_ left link = none) := Lib.hid (by unfold Jrn.nextP; rw [hr0]; dsimp only; rw [if_pos h2])
      have h2i : (p0.length : Int) < 2 := by omega
      clear hr0 HRD HRL h2
      go_wp2_with fail
      go_ret2
      exact Or.inl ⟨HN.out, rfl, HB2.out⟩
    · have hE := Jrn.nextP_end hr0 h2
      dsimp only at hE
      have h2i : ¬ (p0.length : Int) < 2 := by omega
      have h2j : (2 : Int) ≤ (p0.length : Int) := by omega
      have hn16 : Grd.num8 (p0.take 2) < 65536 := by
        have := Grd.num8_lt (p0.take 2)
        rw [List.length_take, Nat.min_eq_left (by omega)] at this
        omega
      have HNU : Hid (∀ W, Calls Tryz.prog 58 #[.string (S (p0.take 2))] W fun e w' => e = .returned (.int .i64 (Grd.num8 (p0.take 2) : Int)) ∧ Below W.heap.size W w') := Lib.hid (fun W => by
        have := number_any (p0.take 2) (by rw [List.length_take]; omega) W
        rw [Grd.numI_nat (by omega)] at this
        exact this)
      clear hr0
      generalize Grd.num8 (p0.take 2) = n at *
      have HE := Lib.hid hE
      have HNE := Lib.hid (fun W => jnneed_any n (by omega) W)
      have hnd : Jrn.need n ≤ 1800 := by unfold Jrn.need; omega
      have hnp := Jrn.need_pos n
      clear hE
      go_wp2_with fail
      refine (HNU.out _).mono ?_
      rintro r w3 ⟨rfl, hb3⟩
      have HB3 := Lib.hid (HB2.out.trans (hb3.mono HB2.out.size))
      clear hb3 HNU
      go_wp2_with fail
      have hup1 := (Below.refl _ w3).alloc (Nat.le_refl _) (.cells #[.string (S p0)] 9)
      have hup2 := (Below.refl _ (w3.alloc (.cells #[.string (S p0)] 9))).alloc (Nat.le_refl _) (.cells #[.int .i64 (st0 : Int)] 3)
      have hs3 := HB3.out.size
      have hs3a : (w3.alloc (.cells #[.string (S p0)] 9)).heap.size = w3.heap.size + 1 := by simp
      have hr8 := ((jown_one w3 p0).mono hs3).below hup2
      have hr9 := (iown_one (w3.alloc (.cells #[.string (S p0)] 9)) st0).mono (B' := w.heap.size) (by omega)
      rw [hs3a] at hr9
      have hb4 := (HB3.out.trans (hup1.mono hs3)).trans (hup2.mono (by omega))
      have H0 := Lib.hid (And.intro hr8 (And.intro hr9 hb4))
      clear hup1 hup2 hs3 hs3a hr8 hr9 hb4
      obtain ⟨G, hG⟩ : ∃ G, (Jrn.gotP rr at_ left (Jrn.need n - 1) 1 st0).map (fun x => ([p0] ++ x.1, [st0] ++ x.2)) = G := ⟨_, rfl⟩
      have HE2 : Hid (Jrn.nextP rr at_ left link = Jrn.endP n G) := Lib.hid (by rw [← hG]; exact HE.out)
      have HG := Lib.hid hG
      clear hG HE HNX
      generalize (w3.alloc (.cells #[.string (S p0)] 9)).alloc (.cells #[.int .i64 (st0 : Int)] 3) = W0 at H0 ⊢
      go_loopw [4, 5, 6, 8, 9, 10] (fun v4 v5 v6 v8 v9 v10 wr => ∃ (k m st : Nat) (A : List (List UInt8)) (B : List Nat), v5 = .int .i64 (st : Int) ∧ v10 = .int .i64 (k : Int) ∧ JOwn w.heap.size wr v8 (p0 :: A) ∧ IOwn w.heap.size wr v9 B ∧ (∀ j, v9.ownBlock = some j → v8.ownBlock ≠ some j) ∧ Below w.heap.size w wr ∧
          1 ≤ k ∧ k + m = Jrn.need n ∧ (p0 :: A).length = k ∧ B.length = k ∧ st < 9223372036854775808 ∧ (∀ p ∈ p0 :: A, p.length ≤ 50) ∧ Hid (G = (Jrn.gotP rr at_ left m k st).map (fun x => ((p0 :: A) ++ x.1, B ++ x.2)))) (fun _ _ _ _ _ v10 _ => Jrn.need n - (vInt v10).toNat)
      case atStart =>
        refine ⟨1, Jrn.need n - 1, st0, [], [st0], rfl, rfl, H0.out.1, H0.out.2.1, fun j hj hk => ?_, H0.out.2.2, Nat.le_refl _, by omega, rfl, rfl, hst0, fun p hp => ?_, Lib.hid HG.out.symm⟩
        · simp [Value.ownBlock] at hj hk
          omega
        · rw [List.mem_singleton.1 hp]
          exact hpl0
      case round =>
        obtain ⟨k, m, st, A, B, rfl, rfl, hr8, hr9, hne, hb, hk1, hkm, hlA, hlB, hst, hpl, hg⟩ := hrel
        have hk0 : (0 : Int) ≤ (k : Int) := by omega
        cases m with
        | zero =>
          have hkn : ¬ (k : Int) < (Jrn.need n : Int) := by omega
          have hG2 : G = some (p0 :: A, B) := by
            rw [hg.out]
            show some ((p0 :: A) ++ [], B ++ []) = _
            rw [List.append_nil, List.append_nil]
          have hfl := flat_le hpl
          have hf2 : 2 ≤ (p0 :: A).flatten.length := by rw [List.flatten_cons, List.length_append]; omega
          have HJ := Lib.hid (join_any hr8.row (by omega) (by omega))
          have HH := Lib.hid (And.intro hr8 (And.intro hr9 hb))
          have HNXT : Hid (Jrn.nextP rr at_ left link = Jrn.endP n (some (p0 :: A, B))) := Lib.hid (by rw [← hG2]; exact HE2.out)
          have es : ByteArray.mk #[] = S [] := rfl
          have hpne : (p0 :: A) ≠ [] := by simp
          clear hr8 hr9 hne hb hg hG2 hpl hlB hst HE2 HG HRD HRL
          generalize hT : p0 :: A = T at *
          clear hT
          have hf3 : (2 : Int) ≤ (T.flatten.length : Int) := by omega
          have hf4 : T.flatten.length ≤ 10000000 := by omega
          have hf5 : (T.flatten.drop 2).length ≤ 1000000 := by rw [List.length_drop]; omega
          obtain ⟨F, hF⟩ : ∃ F, T.flatten = F := ⟨_, rfl⟩
          rw [hF] at hfl hf2 hf3 hf4 hf5 HJ
          have HF := Lib.hid hF
          clear hF
          have etk : F.take F.length = F := List.take_length
          go_wp2_with fail
          refine (HNE.out _).mono ?_
          rintro r w5 ⟨rfl, rfl⟩
          go_wp2_with fail
          refine HJ.out.mono ?_
          rintro r w6 ⟨rfl, hb6⟩
          have HH6 := Lib.hid (And.intro (HH.out.1.below hb6) (And.intro (HH.out.2.1.below hb6) (HH.out.2.2.trans (hb6.mono HH.out.2.2.size))))
          clear hb6 HH HJ
          by_cases h6 : 6000 < n
          · have h6i : (6000 : Int) < (n : Int) := by omega
            have HN : Hid (Jrn.nextP rr at_ left link = none) := Lib.hid (by rw [HNXT.out]; exact if_pos (Or.inl h6))
            clear HNXT
            go_wp2_with fail
            go_ret2
            exact Or.inl ⟨HN.out, rfl, HH6.out.2.2⟩
          · have h6i : ¬ (6000 : Int) < (n : Int) := by omega
            have HPT := Lib.hid (fun W => jparts_any (F.drop 2) hf5 W)
            have hpn : Jrn.parts (F.drop 2) ≠ [] := by
              intro e
              have := congrArg List.length e
              rw [Jrn.parts_len, List.length_nil] at this
              have := Jrn.need_pos (F.drop 2).length
              omega
            have HN : Hid (Jrn.nextP rr at_ left link = if decide (Jrn.parts (F.drop 2) = T) = true then some (F.drop 2, B) else none) := Lib.hid (by
              rw [HNXT.out]
              unfold Jrn.endP
              dsimp only
              rw [HF.out]
              by_cases e : Jrn.parts (F.drop 2) = T
              · rw [if_neg (by rintro (q | q); exact h6 q; exact q e), decide_eq_true e, if_pos rfl]
              · rw [if_pos (Or.inr e), decide_eq_false e, if_neg (by decide)])
            have HEQ : Hid (∀ W v u, JRow W v (Jrn.parts (F.drop 2)) → JRow W u T → Calls Tryz.prog 61 #[v, u] W fun e w' => e = .returned (.bool (decide (Jrn.parts (F.drop 2) = T))) ∧ Below W.heap.size W w') := Lib.hid (fun W v u hv hu => equalT_any hv hu hpn hpne)
            clear HNXT hpn hpne h6
            generalize decide (Jrn.parts (F.drop 2) = T) = b at HN HEQ
            unfold RowPost' at HPT
            generalize Jrn.parts (F.drop 2) = PT at HPT HEQ
            go_wp2_with fail
            refine (HPT.out _).mono ?_
            rintro r w7 ⟨v7, rfl, hr7, hb7⟩
            have HQ := Lib.hid (HEQ.out _ _ _ hr7.row (HH6.out.1.below hb7).row)
            have HH7 := Lib.hid (And.intro (HH6.out.2.1.below hb7) (HH6.out.2.2.trans (hb7.mono HH6.out.2.2.size)))
            clear hr7 hb7 HH6 HPT HEQ
            go_wp2_with fail
            refine HQ.out.mono ?_
            rintro r w8 ⟨rfl, hb8⟩
            have HH8 := Lib.hid (And.intro (HH7.out.1.below hb8) (HH7.out.2.trans (hb8.mono HH7.out.2.size)))
            clear hb8 HH7 HQ
            cases b
            · have HN2 : Hid (Jrn.nextP rr at_ left link = none) := Lib.hid (by rw [HN.out]; rfl)
              clear HN
              go_wp2_with fail
              go_ret2
              exact Or.inl ⟨HN2.out, rfl, HH8.out.2⟩
            · have HN2 : Hid (Jrn.nextP rr at_ left link = some (F.drop 2, B)) := Lib.hid (by rw [HN.out]; rfl)
              clear HN
              go_wp2_with fail
              go_ret2
              exact Or.inr ⟨F.drop 2, B, _, HN2.out, rfl, HH8.out.1, HH8.out.2⟩
        | succ m =>
          have hkn : (k : Int) < (Jrn.need n : Int) := by omega
          have HH := Lib.hid (And.intro hr8 (And.intro hr9 (And.intro hne hb)))
          have HRDk := Lib.hid (fun W (hbW : Below w.heap.size w W) => HRD.out W k st hbW (by omega) hst)
          clear hr8 hr9 hne hb
          go_wp2_with fail
          refine (HNE.out _).mono ?_
          rintro r w5 ⟨rfl, rfl⟩
          go_wp2_with fail
          refine (HRDk.out _ HH.out.2.2.2).mono ?_
          rintro r w6 ⟨p, st2, rfl, hq2, hpl2, hb6⟩
          have HH6 := Lib.hid (And.intro (HH.out.1.below hb6) (And.intro (HH.out.2.1.below hb6) (And.intro HH.out.2.2.1 (HH.out.2.2.2.trans (hb6.mono HH.out.2.2.2.size)))))
          clear hb6 HH HRDk
          have hgs := hg.out
          rw [Jrn.gotP_step] at hgs
          cases hrk : Jrn.readP rr at_ left k st with
          | none =>
            rw [hrk] at hgs hq2
            have HN : Hid (Jrn.nextP rr at_ left link = none) := Lib.hid (by rw [HE2.out, hgs]; rfl)
            clear hgs hq2 hg hpl HG
            simp only [Option.isSome_none]
            go_wp2_with fail
            go_ret2
            exact Or.inl ⟨HN.out, rfl, HH6.out.2.2.2⟩
          | some q =>
            have he := hq2 q hrk
            subst he
            have hst2 := HRL.out _ _ _ hrk
            rw [hrk] at hgs
            dsimp only at hgs
            have HGS := Lib.hid hgs
            have HPL := Lib.hid hpl
            clear hgs hq2 hg hpl hrk
            simp only [Option.isSome_some]
            have hal : (p0 :: A).length ≤ 1000000 := by omega
            have hbl : B.length ≤ 1000000 := by omega
            have HT := Lib.hid ((TwoRows.mk HH6.out.1 HH6.out.2.1 HH6.out.2.2.1 HH6.out.2.2.2 HH6.out.2.2.2.size).below ((Below.refl _ w6).alloc (Nat.le_refl _) (.cells #[.string (S p)] 9)))
            have HM := Lib.hid (two_text w6 p)
            clear HH6
            go_wp2_with (first
              | (at_builtin; refine wpList_append_pl rfl (.tmp 50) (.tmp 52) rfl _ (p0 :: A) p w6.heap.size rfl rfl HT.out.txt.row HM.out hal ?_; intro v8' w7 hrow hmv hob; have HT2 := Lib.hid ((HT.out.text hrow hmv hob).below ((Below.refl _ w7).alloc (Nat.le_refl _) (.cells #[.int .i64 (st2 : Int)] 3))); clear hrow hmv hob HM HT)
              | (at_builtin; refine wpList_append_iv rfl (.tmp 54) (.tmp 56) rfl _ B [st2] w7.heap.size 1 rfl rfl HT2.out.num.row (one_num w7 st2) hbl (by simp) (by simp) ?_; intro v9' w8 hrow hmv hob; have HT3 := Lib.hid (HT2.out.nums hrow hmv hob); clear hrow hmv hob HT2))
            go_roundw
            · refine ⟨k + 1, m, st2, A ++ [p], B ++ [st2], rfl, by go_num, HT3.out.txt, HT3.out.num, HT3.out.ne, HT3.out.bel, by omega, by omega, by rw [← List.cons_append, List.length_append, List.length_singleton]; omega, by rw [List.length_append, List.length_singleton]; omega, hst2, ?_, HGS⟩
              intro x hx
              rw [← List.cons_append] at hx
              rcases List.mem_append.1 hx with hx | hx
              · exact HPL.out x hx
              · rw [List.mem_singleton.1 hx]; exact hpl2
            · simp only [vInt]; omega
end
end Go.Proofs.YtjdklifkalnamaaGreatDoor
