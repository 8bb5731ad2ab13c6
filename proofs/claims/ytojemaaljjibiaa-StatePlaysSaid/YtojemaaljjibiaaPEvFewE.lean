/-
  The contract of the fourteenth layer's statements' own FewEntry.
-/
import Derived.Test.YtojemaaljjibiaaPEvSmall
import Derived.Deep.AppendLies
import Derived.Laws.CopyOwn
import Derived.Deep.CutBlock
open List (setIfInBounds_toArray set_cons_zero set_cons_succ)
namespace Go.Proofs.Ytojemaaljjibiaa
open Go.RowKit
set_option linter.unusedVariables false

section
variable {P : Program} {ops : Array Oper} {Q : Exit → Act → World → Prop} {md : Region.Mode} {S : World → Prop}
theorem evOne {i : Nat} {oi : Oper} {fuel : Nat} {listed : Array Bool} {a : Act} {w : World} (hr : Region.ready md ops listed = [i]) (hi : ops[i]? = some oi) (hwi : Region.wanted oi (yielded ops a.tmps) = true)
    (h1 : ∀ K : Act → World → Prop, Shut (∀ a w, S w → (S w → wpAnyH P md ops Q S fuel (listed.setIfInBounds i true) a w) → K a w) → Oper.wp P oi a w K Q) : wpAnyH P md ops Q S (fuel + 1) listed a w :=
  wpAnyH_ready hr (by simp) (AllReadyH.cons hi (fun K hK => by rw [if_pos hwi]; exact h1 K hK) AllReadyH.nil)
theorem evTwo {i j : Nat} {oi oj : Oper} {fuel : Nat} {listed : Array Bool} {a : Act} {w : World} (hr : Region.ready md ops listed = [i, j]) (hi : ops[i]? = some oi) (hj : ops[j]? = some oj)
    (hwi : Region.wanted oi (yielded ops a.tmps) = true) (hwj : Region.wanted oj (yielded ops a.tmps) = true)
    (h1 : ∀ K : Act → World → Prop, Shut (∀ a w, S w → (S w → wpAnyH P md ops Q S fuel (listed.setIfInBounds i true) a w) → K a w) → Oper.wp P oi a w K Q)
    (h2 : ∀ K : Act → World → Prop, Shut (∀ a w, S w → (S w → wpAnyH P md ops Q S fuel (listed.setIfInBounds j true) a w) → K a w) → Oper.wp P oj a w K Q) : wpAnyH P md ops Q S (fuel + 1) listed a w :=
  wpAnyH_ready hr (by simp) (AllReadyH.cons hi (fun K hK => by rw [if_pos hwi]; exact h1 K hK) (AllReadyH.cons hj (fun K hK => by rw [if_pos hwj]; exact h2 K hK) AllReadyH.nil))
end
theorem evGrown {B : Nat} {w w3 w5 : World} {row : Option Nat} (h : Below B w w3) (hg : w3.grownBy w5 row) (hB : B ≤ w3.heap.size) (hr : ∀ k, row = some k → B ≤ k) : Below B w w5 :=
  ⟨hg.os.trans h.os, hg.tape.trans h.tape, hg.output.trans h.output, Nat.le_trans h.size hg.size, fun i hi => (hg.block i (Nat.lt_of_lt_of_le hi hB) (fun e => by have := hr i e.symm; omega)).trans (h.block i hi)⟩
theorem evBelowMv {b : Nat} {w w1 w2 : World} (h : Below b w w1) (hm : Mv w1 w2 [b]) (hb : b ≤ w1.heap.size) : Below b w w2 :=
  ⟨hm.os.trans h.os, hm.tape.trans h.tape, hm.output.trans h.output, Nat.le_trans h.size hm.size, fun i hi => (hm.block i (by omega) (by simp; omega)).trans (h.block i hi)⟩
/-- What the loop over holds reads. -/
abbrev HolS (b1 bh oh o : Nat) (n c : Nat) (x : List UInt8) (W : World) : Prop :=
  W.cell? ⟨b1, 6, none⟩ = some (.slice (some ⟨bh, oh, none⟩) n c) ∧ W.cell? ⟨bh, o, none⟩ = some (.string (S x))
theorem onlySetRow (w : World) (g : Nat) (cs : Array Value) : Only w (w.setRow g cs) g := ⟨rfl, rfl, rfl, by simp, fun i hi hn => setRow_other w g i cs (fun e => hn (by rw [e]))⟩
theorem evSlInfo : (Try.prog.info? 51).map (fun i => (i.zero, i.size, i.bytes)) = some (some (.agg #[.string ⟨#[]⟩, .string ⟨#[]⟩, .string ⟨#[]⟩, .bool false]), 4, 56) := by kernel_rfl
theorem evMadeSlip (w : World) (n p c : List UInt8) (e : Bool) : ∀ (j : Nat) (u : Value), (⟨n, p, c, e⟩ : Slp).cs[j]? = some u → (w.alloc (.cells #[.string (S n), .string (S p), .string (S c), .bool e] 51)).cell? ((⟨w.heap.size, 0, none⟩ : Addr).add j) = some u := by
  intro j u hu
  rw [add_flat', Nat.zero_add, (Has.made w 51 #[.string (S n), .string (S p), .string (S c), .bool e]).cell j]
  rw [← hu]
  unfold Slp.cs
  exact List.getElem?_toArray ..
set_option maxHeartbeats 16000000 in
set_option maxRecDepth 100000 in
theorem fewE_any {w : World} {e : Ent} {A B : Option Addr} {ca cb : Nat} (hin : EntIn w [] e A ca B cb) (s0 : List Nat) (hs0 : ∀ x ∈ s0, x < w.heap.size) :
    Calls Try.prog 29 #[.agg #[.string (S e.id), .int .i64 e.cls, .int .i64 e.born, .int .i64 e.slot, .slice A e.L.length ca, .bool e.gone, .slice B e.H.length cb]] w fun r w' => ∃ A' B' ca' cb', r = .returned (.agg #[.string (S (e.id.take 300)), .int .i64 e.cls, .int .i64 e.born, .int .i64 e.slot, .slice A' (Ev.slipsK e.L 20).length ca', .bool e.gone, .slice B' (Ev.holdsK e.H 20).length cb']) ∧ EntIn w' s0 (Ev.fewE e) A' ca' B' cb' ∧ Below w.heap.size w w' := by
  have HIN := Lib.hid hin
  have HS0 := Lib.hid hs0
  clear hin hs0
  obtain ⟨id, cls, born, slot, L, gone, H⟩ := e
  dsimp only at *
  obtain ⟨i0, hi0, hz0, hz1, hz2⟩ := info_parts evSlInfo
  have HI := Lib.hid (And.intro hi0 (And.intro hz0 (And.intro hz1 hz2)))
  clear hi0 hz0 hz1 hz2
  have HC := Lib.hid (fun W => ecut_any id W)
  have hY := entHeld (w := w) (I := id) (C := cls) (Bo := born) (Sl := slot) (A := A) (n := L.length) (ca := ca) (G := gone) (B := B) (m := H.length) (cb := cb)
  dsimp only at hY
  have HY := Lib.hid hY
  clear hY
  go_enter Try.func29, Try.ntmps29
  go_wp2_with fail
  have HIN1 : Hid (EntIn (w.alloc (.cells #[.string (S id), .int .i64 cls, .int .i64 born, .int .i64 slot, .slice A L.length ca, .bool gone, .slice B H.length cb] 33)) [] ⟨id, cls, born, slot, L, gone, H⟩ A ca B cb) := Lib.hid (HIN.out.below ((Below.refl _ w).alloc (Nat.le_refl _) _))
  clear HIN
  have hs1 : (w.alloc (.cells #[.string (S id), .int .i64 cls, .int .i64 born, .int .i64 slot, .slice A L.length ca, .bool gone, .slice B H.length cb] 33)).heap.size = w.heap.size + 1 := asize _ _
  generalize w.alloc (.cells #[.string (S id), .int .i64 cls, .int .i64 born, .int .i64 slot, .slice A L.length ca, .bool gone, .slice B H.length cb] 33) = W1 at HY HIN1 hs1 ⊢
  have hz := Has.made W1 33 #[.string ⟨#[]⟩, .int .i64 0, .int .i64 0, .int .i64 0, .slice none 0 0, .bool false, .slice none 0 0]
  have hb2 : Below W1.heap.size W1 (W1.alloc (.cells #[.string ⟨#[]⟩, .int .i64 0, .int .i64 0, .int .i64 0, .slice none 0 0, .bool false, .slice none 0 0] 33)) := (Below.refl _ W1).alloc (Nat.le_refl _) _
  have hs2 : (W1.alloc (.cells #[.string ⟨#[]⟩, .int .i64 0, .int .i64 0, .int .i64 0, .slice none 0 0, .bool false, .slice none 0 0] 33)).heap.size = W1.heap.size + 1 := asize _ _
  have HZ := Lib.hid (And.intro hz hb2)
  clear hz hb2
  generalize W1.alloc (.cells #[.string ⟨#[]⟩, .int .i64 0, .int .i64 0, .int .i64 0, .slice none 0 0, .bool false, .slice none 0 0] 33) = W2 at HZ hs2 ⊢
  have hy := (HY.out _ HZ.out.2.drew).1
  have hy3 := (HY.out _ ((HZ.out.2.alloc HZ.out.2.size (.cells #[.string ⟨#[]⟩, .int .i64 0, .int .i64 0, .int .i64 0, .slice none 0 0, .bool false, .slice none 0 0] 33)).drew)).1
  have hy4 := (HY.out _ ((HZ.out.2.alloc HZ.out.2.size (.cells #[.string (S (id.take 300)), .int .i64 cls, .int .i64 born, .int .i64 slot, .slice none 0 0, .bool gone, .slice none 0 0] 33)).drew)).1
  have HS := Lib.hid (And.intro hs1 hs2)
  clear hs1 hs2
  generalize hb1 : w.heap.size = b1 at HY HS HS0 hy hy3 hy4 ⊢
  go_cut [3] from 7 to 18 (fun v3 wc => ∃ b3 : Nat, v3 = .pointer (some ⟨b3, 0, none⟩) ∧ Hid (Below W1.heap.size W1 wc ∧ wc.heap.size = b3 + 1 ∧ W1.heap.size < b3 ∧ Has wc b3 33 #[.string (S (id.take 300)), .int .i64 cls, .int .i64 born, .int .i64 slot, .slice none 0 0, .bool gone, .slice none 0 0] ∧ Has wc W1.heap.size 33 #[.string ⟨#[]⟩, .int .i64 0, .int .i64 0, .int .i64 0, .slice none 0 0, .bool false, .slice none 0 0]))
  case first =>
    go_region_held3 (EntS b1 id cls born slot A L.length ca gone B H.length cb) (first | exact hy | exact hy3 | exact hy4 | go_keep) (first
      | (go_at_call 30; refine (HC.out _).mono ?_; rintro r w4 ⟨rfl, rfl⟩))
    all_goals
      clear hy hy3 hy4
      go_wp2_with fail
      go_meet
      exact ⟨_, rfl, Lib.hid ⟨(HZ.out.2.alloc HZ.out.2.size (.cells #[.string (S (id.take 300)), .int .i64 cls, .int .i64 born, .int .i64 slot, .slice none 0 0, .bool gone, .slice none 0 0] 33)).drew, asize _ _, by have := HS.out.2; omega, Has.made W2 33 #[.string (S (id.take 300)), .int .i64 cls, .int .i64 born, .int .i64 slot, .slice none 0 0, .bool gone, .slice none 0 0], HZ.out.1.below ((Below.refl _ W2).alloc (Nat.le_refl _) _).drew HZ.out.1.lt⟩⟩
  case rest =>
    obtain ⟨b3, rfl, HC3⟩ := hcut
    obtain ⟨hB3, hsz3, hb3', hO1, hzz⟩ := HC3.out
    have hb3 : W1.heap.size ≤ b3 := Nat.le_of_lt hb3'
    have HZZ := Lib.hid (And.intro hb3' hzz)
    clear hb3' hzz
    have HB3 := Lib.hid hB3
    clear hy hy3 hy4 hB3 HC3
    generalize wc = W3 at *
    have HF : Hid (∀ W, Below b3 W3 W → Below W1.heap.size W1 W) := Lib.hid (fun W hb => HB3.out.trans (hb.mono hb3))
    have HW3 := Lib.hid hsz3
    go_upto_block 0 with fail
    go_cut [] (fun W5 => ∃ (A5 : Option Addr) (ca5 : Nat), Hid ((Ev.slipsK L 20).length ≤ ca5 ∧ ca5 ≤ maxLen ∧ RowC W5 (b3 :: W1.heap.size :: s0) A5 (svs (Ev.slipsK L 20)) ∧ Has W5 b3 33 #[.string (S (id.take 300)), .int .i64 cls, .int .i64 born, .int .i64 slot, .slice A5 (Ev.slipsK L 20).length ca5, .bool gone, .slice none 0 0] ∧ Below b3 W3 W5 ∧ b3 + 1 ≤ W5.heap.size))
    case first =>
      go_wp2_with fail
      go_loopg [4] L.length (fun g1 v4 wr => ∃ (k : Nat) (v : Value), k ≤ L.length ∧ k ≤ 20 ∧ v4 = .int .i64 (k : Int) ∧ L.length - k ≤ g1 ∧ wr.ownsRow (b3 + 1) 51 4 v k (svs (Ev.slipsK L k)) ∧
          Has wr b3 33 #[.string (S (id.take 300)), .int .i64 cls, .int .i64 born, .int .i64 slot, v, .bool gone, .slice none 0 0] ∧ Below b3 W3 wr ∧ b3 + 1 ≤ wr.heap.size)
      case atStart => exact ⟨0, .slice none 0 0, Nat.zero_le _, by omega, rfl, by omega, World.ownsRow_nil _ _ _ _, hO1, Below.refl _ _, by omega⟩
      case round =>
        clear hO1
        obtain ⟨k, v, hk, hk20, rfl, hg, hown, hOk, hbk, hsk⟩ := hrel
        have hyk := (HY.out _ (HF.out _ hbk)).1
        have c4 := hyk.2.2.2.2.1
        by_cases hlt : k < L.length ∧ k < 20
        · have hki : (k : Int) < (L.length : Int) := by omega
          have hki2 : (k : Int) < 20 := by omega
          have hki0 : (0 : Int) ≤ (k : Int) := by omega
          have hkc : (k : Int) < (ca : Int) := by have := HIN1.out.la; dsimp only at this; omega
          have hinc : IntKind.i64.wrap ((k : Int) + 1) = (k : Int) + 1 := by rw [IntKind.wrap_i64]; omega
          obtain ⟨bl, ol, hA, -, -, p0, p1, p2, p3⟩ := RowP.get (HIN1.out.rl.below (HF.out _ hbk)) k hlt.1
          have HST := Lib.hid (Ev.slipsK_step L k hlt.1)
          dsimp only at p0 p1 p2 p3
          subst hA
          generalize L[k]'hlt.1 = x at p0 p1 p2 p3 HST
          obtain ⟨xn, xp, xc, xe⟩ := x
          dsimp only at p0 p1 p2 p3
          unfold Ev.cutS at HST
          dsimp only at HST
          have HC1 := Lib.hid (fun W => ecut_any xn W)
          have HC2 := Lib.hid (fun W => ecut_any xp W)
          have HC3 := Lib.hid (fun W => ecut_any xc W)
          generalize xn.take 300 = yn at HST HC1
          generalize xp.take 300 = yp at HST HC2
          generalize xc.take 300 = yc at HST HC3
          go_upto_region 6 with fail
          have HYS := Lib.hid (slpHeld (w := wr) (n := xn) (p := xp) (c := xc) (e := xe))
          dsimp only at HYS
          have hba := (Below.refl wr.heap.size wr).alloc (Nat.le_refl _) (.cells #[.string (S xn), .string (S xp), .string (S xc), .bool xe] 51)
          have H3 := Lib.hid (And.intro (own_mv hown (Mv.of_below hba []) (by simp)) (And.intro (hOk.below hba hOk.lt) (And.intro (hbk.trans (hba.mono (by omega))) (Nat.le_trans hsk hba.size))))
          have HQ : Hid (b3 + 1 ≤ wr.heap.size ∧ ∀ q, v.ownBlock = some q → b3 + 1 ≤ q ∧ q < wr.heap.size) := Lib.hid ⟨hsk, fun q hq => hown.lt q hq⟩
          have HSB : Hid (wr.heap.size < (wr.alloc (.cells #[.string (S xn), .string (S xp), .string (S xc), .bool xe] 51)).heap.size) := Lib.hid (by rw [asize]; omega)
          clear p0 p1 p2 p3 c4 hown hOk hbk hsk hba hyk
          generalize wr.alloc (.cells #[.string (S xn), .string (S xp), .string (S xc), .bool xe] 51) = W4 at HYS H3 HSB ⊢
          generalize hsb : wr.heap.size = sb at HYS HQ HSB ⊢
          have hx : SlpS sb xn xp xc xe W4.drew := (HYS.out _ (Below.refl W4.heap.size W4).drew).1
          have HBD := Lib.hid (Below.refl W4.heap.size W4).drew
          have c34 : W4.drew.cell? ⟨b3, 4, none⟩ = some v := H3.out.2.1.cell 4
          replace H3 : Hid (W4.drew.ownsRow (b3 + 1) 51 4 v k (svs (Ev.slipsK L k)) ∧ Has W4.drew b3 33 #[.string (S (id.take 300)), .int .i64 cls, .int .i64 born, .int .i64 slot, v, .bool gone, .slice none 0 0] ∧ Below b3 W3 W4.drew ∧ b3 + 1 ≤ W4.drew.heap.size) := Lib.hid ⟨own_mv H3.out.1 (Mv.of_below HBD.out []) (by simp), H3.out.2.1, H3.out.2.2.1.drew, H3.out.2.2.2⟩
          refine wp_region_held_drew (S := SlpS sb xn xp xc xe) (by kernel_rfl) hx (fun hHeld => ?_)
          generalize W4.drew = WD at hx hHeld HBD c34 H3 ⊢
          first
          | (refine tkW (i := 0) (v := ?_) rfl rfl ?_ ?_; rotate_left; (focus (intro w hSw; (try dsimp only at hSw); go_simp; first | done | with_reducible rfl)); (simp only [Act.at, setIfInBounds_toArray, set_cons_zero, set_cons_succ]))
          | (refine tkU (i := 0) rfl rfl ?_; (simp only [Act.at, setIfInBounds_toArray, set_cons_zero, set_cons_succ]))
          first
          | (refine tkW (i := 2) (v := ?_) rfl rfl ?_ ?_; rotate_left; (focus (intro w hSw; (try dsimp only at hSw); go_simp; first | done | with_reducible rfl)); (simp only [Act.at, setIfInBounds_toArray, set_cons_zero, set_cons_succ]))
          | (refine tkU (i := 2) rfl rfl ?_; (simp only [Act.at, setIfInBounds_toArray, set_cons_zero, set_cons_succ]))
          first
          | (refine tkW (i := 3) (v := ?_) rfl rfl ?_ ?_; rotate_left; (focus (intro w hSw; (try dsimp only at hSw); go_simp; first | done | with_reducible rfl)); (simp only [Act.at, setIfInBounds_toArray, set_cons_zero, set_cons_succ]))
          | (refine tkU (i := 3) rfl rfl ?_; (simp only [Act.at, setIfInBounds_toArray, set_cons_zero, set_cons_succ]))
          first
          | (refine tkW (i := 5) (v := ?_) rfl rfl ?_ ?_; rotate_left; (focus (intro w hSw; (try dsimp only at hSw); go_simp; first | done | with_reducible rfl)); (simp only [Act.at, setIfInBounds_toArray, set_cons_zero, set_cons_succ]))
          | (refine tkU (i := 5) rfl rfl ?_; (simp only [Act.at, setIfInBounds_toArray, set_cons_zero, set_cons_succ]))
          first
          | (refine tkW (i := 6) (v := ?_) rfl rfl ?_ ?_; rotate_left; (focus (intro w hSw; (try dsimp only at hSw); go_simp; first | done | with_reducible rfl)); (simp only [Act.at, setIfInBounds_toArray, set_cons_zero, set_cons_succ]))
          | (refine tkU (i := 6) rfl rfl ?_; (simp only [Act.at, setIfInBounds_toArray, set_cons_zero, set_cons_succ]))
          first
          | (refine tkW (i := 8) (v := ?_) rfl rfl ?_ ?_; rotate_left; (focus (intro w hSw; (try dsimp only at hSw); go_simp; first | done | with_reducible rfl)); (simp only [Act.at, setIfInBounds_toArray, set_cons_zero, set_cons_succ]))
          | (refine tkU (i := 8) rfl rfl ?_; (simp only [Act.at, setIfInBounds_toArray, set_cons_zero, set_cons_succ]))
          first
          | (refine tkW (i := 9) (v := ?_) rfl rfl ?_ ?_; rotate_left; (focus (intro w hSw; (try dsimp only at hSw); go_simp; first | done | with_reducible rfl)); (simp only [Act.at, setIfInBounds_toArray, set_cons_zero, set_cons_succ]))
          | (refine tkU (i := 9) rfl rfl ?_; (simp only [Act.at, setIfInBounds_toArray, set_cons_zero, set_cons_succ]))
          first
          | (refine tkW (i := 11) (v := ?_) rfl rfl ?_ ?_; rotate_left; (focus (intro w hSw; (try dsimp only at hSw); go_simp; first | done | with_reducible rfl)); (simp only [Act.at, setIfInBounds_toArray, set_cons_zero, set_cons_succ]))
          | (refine tkU (i := 11) rfl rfl ?_; (simp only [Act.at, setIfInBounds_toArray, set_cons_zero, set_cons_succ]))
          first
          | (refine tkW (i := 12) (v := ?_) rfl rfl ?_ ?_; rotate_left; (focus (intro w hSw; (try dsimp only at hSw); go_simp; first | done | with_reducible rfl)); (simp only [Act.at, setIfInBounds_toArray, set_cons_zero, set_cons_succ]))
          | (refine tkU (i := 12) rfl rfl ?_; (simp only [Act.at, setIfInBounds_toArray, set_cons_zero, set_cons_succ]))
          refine evTwo (i := 1) (j := 4) (by kernel_rfl) rfl rfl (by rfl) (by rfl) (fun K hK => ?_) (fun K hK => ?_)
          · go_simp
            refine hK.out _ _ hx (fun hHeld => ?_)
            clear hK K
            try simp only [Act.put, setIfInBounds_toArray, set_cons_zero, set_cons_succ]
            refine evOne (i := 4) (by kernel_rfl) rfl (by rfl) (fun K hK => ?_)
            go_simp
            refine (HC1.out _).mono ?_
            rintro r w4 ⟨rfl, e4⟩
            rw [e4]
            clear e4 w4
            refine hK.out _ _ hx (fun hHeld => ?_)
            clear hK K
            try simp only [Act.put, setIfInBounds_toArray, set_cons_zero, set_cons_succ]
            refine evOne (i := 7) (by kernel_rfl) rfl (by rfl) (fun K hK => ?_)
            go_simp
            refine (HC2.out _).mono ?_
            rintro r w4 ⟨rfl, e4⟩
            rw [e4]
            clear e4 w4
            refine hK.out _ _ hx (fun hHeld => ?_)
            clear hK K
            try simp only [Act.put, setIfInBounds_toArray, set_cons_zero, set_cons_succ]
            refine evOne (i := 10) (by kernel_rfl) rfl (by rfl) (fun K hK => ?_)
            go_simp
            refine (HC3.out _).mono ?_
            rintro r w4 ⟨rfl, e4⟩
            rw [e4]
            clear e4 w4
            refine hK.out _ _ hx (fun hHeld => ?_)
            clear hK K
            try simp only [Act.put, setIfInBounds_toArray, set_cons_zero, set_cons_succ]
            first
            | (refine tkW (i := 13) (v := ?_) rfl rfl ?_ ?_; rotate_left; (focus (intro w hSw; (try dsimp only at hSw); go_simp; first | done | with_reducible rfl)); (simp only [Act.at, setIfInBounds_toArray, set_cons_zero, set_cons_succ]))
            | (refine tkU (i := 13) rfl rfl ?_; (simp only [Act.at, setIfInBounds_toArray, set_cons_zero, set_cons_succ]))
            refine evOne (i := 14) (by kernel_rfl) rfl (by rfl) (fun K hK => ?_)
            go_simp
            have hba := (Below.refl WD.heap.size WD).alloc (Nat.le_refl _) (.cells #[.string (S yn), .string (S yp), .string (S yc), .bool xe] 51)
            have HBE := Lib.hid (HBD.out.alloc HBD.out.size (.cells #[.string (S yn), .string (S yp), .string (S yc), .bool xe] 51))
            have hx2 : SlpS sb xn xp xc xe (WD.alloc (.cells #[.string (S yn), .string (S yp), .string (S yc), .bool xe] 51)) := (HYS.out _ HBE.out).1
            have HM := Lib.hid (evMadeSlip WD yn yp yc xe)
            have H4 := Lib.hid (And.intro (own_mv H3.out.1 (Mv.of_below hba []) (by simp)) (And.intro (H3.out.2.1.below hba H3.out.2.1.lt) (And.intro (H3.out.2.2.1.trans (hba.mono (by have := H3.out.2.2.2; omega))) (Nat.le_trans H3.out.2.2.2 hba.size))))
            clear c34
            have c34 : (WD.alloc (.cells #[.string (S yn), .string (S yp), .string (S yc), .bool xe] 51)).cell? ⟨b3, 4, none⟩ = some v := H4.out.2.1.cell 4
            refine hK.out _ _ hx2 (fun hHeld => ?_)
            clear hK K hx hba H3
            try simp only [Act.put, setIfInBounds_toArray, set_cons_zero, set_cons_succ]
            generalize WD.heap.size = ab at HM ⊢
            generalize WD.alloc (.cells #[.string (S yn), .string (S yp), .string (S yc), .bool xe] 51) = W8 at HM H4 HBE c34 hx2 hHeld ⊢
            have hx := hx2
            clear hx2
            refine evOne (i := 15) (by kernel_rfl) rfl (by rfl) (fun K hK => ?_)
            refine wp_append_lies W8 (.tmp 36) (.tmp 49) 30 rfl (b3 + 1) 51 i0 (.agg #[.string ⟨#[]⟩, .string ⟨#[]⟩, .string ⟨#[]⟩, .bool false]) 4 56 Try.underlying30 HI.out.1 HI.out.2.1 HI.out.2.2.1 HI.out.2.2.2 rfl (by decide) v k (svs (Ev.slipsK L k)) rfl H4.out.1 ⟨ab, 0, none⟩ 1 1 (⟨yn, yp, yc, xe⟩ : Slp).cs rfl rfl HM.out (by intro u hu; simp [Slp.cs] at hu; rcases hu with rfl | rfl | rfl | rfl <;> rfl) (by decide) (by simp only [maxLen]; omega) (by omega) H4.out.2.2.2 _ rfl ?_
            intro g9 cp9 W9 hown9 hg9 _ hlt9
            rw [svs_snoc, ← HST.out] at hown9
            have hO9 : Has W9 b3 33 #[.string (S (id.take 300)), .int .i64 cls, .int .i64 born, .int .i64 slot, v, .bool gone, .slice none 0 0] := (hg9.block _ H4.out.2.1.lt (fun e => by have := (HQ.out.2 _ e.symm).1; omega)).trans H4.out.2.1
            have hD9 : Below b3 W3 W9 := evGrown H4.out.2.2.1 hg9 (by have := H4.out.2.2.2; omega) (fun q hq => by have := (HQ.out.2 q hq).1; omega)
            have hs9 := Nat.le_trans H4.out.2.2.2 hg9.size
            have hsl8 : sb < W8.heap.size := Nat.lt_of_lt_of_le HSB.out HBE.out.size
            have hbk9 := hg9.block sb hsl8 (fun e => by have := (HQ.out.2 _ e.symm).2; omega)
            have hx9 : SlpS sb xn xp xc xe W9 := ⟨(World.cell?_of_block hbk9).trans hx.1, (World.cell?_of_block hbk9).trans hx.2.1, (World.cell?_of_block hbk9).trans hx.2.2.1, (World.cell?_of_block hbk9).trans hx.2.2.2⟩
            refine hK.out _ _ hx9 (fun hHeld => ?_)
            clear hK K
            try simp only [Act.put, setIfInBounds_toArray]
            have hx := hx9
            first
            | (refine tkW (i := 16) (v := ?_) rfl rfl ?_ ?_; rotate_left; (focus (intro w hSw; (try dsimp only at hSw); go_simp; first | done | with_reducible rfl)); (simp only [Act.at]))
            | (refine tkU (i := 16) rfl rfl ?_; (simp only [Act.at, setIfInBounds_toArray, set_cons_zero, set_cons_succ]))
            have d4 : W9.cell? ⟨b3, 4, none⟩ = some v := hO9.cell 4
            have f4 := hO9.free 4
            have hO10 : Has (W9.setCell ⟨b3, 4, none⟩ (.slice (some ⟨g9, 0, none⟩) (k + 1) cp9)) b3 33 #[.string (S (id.take 300)), .int .i64 cls, .int .i64 born, .int .i64 slot, (.slice (some ⟨g9, 0, none⟩) (k + 1) cp9), .bool gone, .slice none 0 0] := by simpa using hO9.set 4 (.slice (some ⟨g9, 0, none⟩) (k + 1) cp9)
            have ho10 := Only.set W9 b3 4 (.slice (some ⟨g9, 0, none⟩) (k + 1) cp9)
            have hD10 := ho10.below hD9 (by omega) (by have := Nat.le_trans H4.out.2.2.2 hg9.size; omega)
            have hA10 := own_mv hown9 (Mv.of_only ho10 (s := [b3]) (by simp)) (by simp)
            have hs10 := Nat.le_trans hs9 ho10.size
            have hbk10 := ho10.block sb (Nat.lt_of_lt_of_le hsl8 hg9.size) (fun e => by injection e with e; have := HQ.out.1; omega)
            have hx10 : SlpS sb xn xp xc xe (W9.setCell ⟨b3, 4, none⟩ (.slice (some ⟨g9, 0, none⟩) (k + 1) cp9)) := ⟨(World.cell?_of_block hbk10).trans hx9.1, (World.cell?_of_block hbk10).trans hx9.2.1, (World.cell?_of_block hbk10).trans hx9.2.2.1, (World.cell?_of_block hbk10).trans hx9.2.2.2⟩
            have HREL := Lib.hid (And.intro hA10 (And.intro hO10 (And.intro hD10 hs10)))
            clear hA10 hO10 hD10 hs10 ho10 hbk10 hown9 hg9 hD9 hs9 hbk9 hlt9
            refine evOne (i := 17) (by kernel_rfl) rfl (by rfl) (fun K hK => ?_)
            go_simp
            refine hK.out _ _ hx10 (fun hHeld => ?_)
            clear hK K d4 f4
            try simp only [Act.put, setIfInBounds_toArray, set_cons_zero, set_cons_succ]
            refine wpAnyH_done (by kernel_rfl) ?_ _
            go_wp2_with fail
            go_roundg (L.length - (k + 1))
            case measure => omega
            case rel => exact ⟨k + 1, (.slice (some ⟨g9, 0, none⟩) (k + 1) cp9), by omega, by omega, by go_num, Nat.le_refl _, HREL.out.1, HREL.out.2.1, HREL.out.2.2.1, HREL.out.2.2.2⟩
          · go_simp
            refine (HC1.out _).mono ?_
            rintro r w4 ⟨rfl, e4⟩
            rw [e4]
            clear e4 w4
            refine hK.out _ _ hx (fun hHeld => ?_)
            clear hK K
            try simp only [Act.put, setIfInBounds_toArray, set_cons_zero, set_cons_succ]
            refine evTwo (i := 1) (j := 7) (by kernel_rfl) rfl rfl (by rfl) (by rfl) (fun K hK => ?_) (fun K hK => ?_)
            · go_simp
              refine hK.out _ _ hx (fun hHeld => ?_)
              clear hK K
              try simp only [Act.put, setIfInBounds_toArray, set_cons_zero, set_cons_succ]
              refine evOne (i := 7) (by kernel_rfl) rfl (by rfl) (fun K hK => ?_)
              go_simp
              refine (HC2.out _).mono ?_
              rintro r w4 ⟨rfl, e4⟩
              rw [e4]
              clear e4 w4
              refine hK.out _ _ hx (fun hHeld => ?_)
              clear hK K
              try simp only [Act.put, setIfInBounds_toArray, set_cons_zero, set_cons_succ]
              refine evOne (i := 10) (by kernel_rfl) rfl (by rfl) (fun K hK => ?_)
              go_simp
              refine (HC3.out _).mono ?_
              rintro r w4 ⟨rfl, e4⟩
              rw [e4]
              clear e4 w4
              refine hK.out _ _ hx (fun hHeld => ?_)
              clear hK K
              try simp only [Act.put, setIfInBounds_toArray, set_cons_zero, set_cons_succ]
              first
              | (refine tkW (i := 13) (v := ?_) rfl rfl ?_ ?_; rotate_left; (focus (intro w hSw; (try dsimp only at hSw); go_simp; first | done | with_reducible rfl)); (simp only [Act.at, setIfInBounds_toArray, set_cons_zero, set_cons_succ]))
              | (refine tkU (i := 13) rfl rfl ?_; (simp only [Act.at, setIfInBounds_toArray, set_cons_zero, set_cons_succ]))
              refine evOne (i := 14) (by kernel_rfl) rfl (by rfl) (fun K hK => ?_)
              go_simp
              have hba := (Below.refl WD.heap.size WD).alloc (Nat.le_refl _) (.cells #[.string (S yn), .string (S yp), .string (S yc), .bool xe] 51)
              have HBE := Lib.hid (HBD.out.alloc HBD.out.size (.cells #[.string (S yn), .string (S yp), .string (S yc), .bool xe] 51))
              have hx2 : SlpS sb xn xp xc xe (WD.alloc (.cells #[.string (S yn), .string (S yp), .string (S yc), .bool xe] 51)) := (HYS.out _ HBE.out).1
              have HM := Lib.hid (evMadeSlip WD yn yp yc xe)
              have H4 := Lib.hid (And.intro (own_mv H3.out.1 (Mv.of_below hba []) (by simp)) (And.intro (H3.out.2.1.below hba H3.out.2.1.lt) (And.intro (H3.out.2.2.1.trans (hba.mono (by have := H3.out.2.2.2; omega))) (Nat.le_trans H3.out.2.2.2 hba.size))))
              clear c34
              have c34 : (WD.alloc (.cells #[.string (S yn), .string (S yp), .string (S yc), .bool xe] 51)).cell? ⟨b3, 4, none⟩ = some v := H4.out.2.1.cell 4
              refine hK.out _ _ hx2 (fun hHeld => ?_)
              clear hK K hx hba H3
              try simp only [Act.put, setIfInBounds_toArray, set_cons_zero, set_cons_succ]
              generalize WD.heap.size = ab at HM ⊢
              generalize WD.alloc (.cells #[.string (S yn), .string (S yp), .string (S yc), .bool xe] 51) = W8 at HM H4 HBE c34 hx2 hHeld ⊢
              have hx := hx2
              clear hx2
              refine evOne (i := 15) (by kernel_rfl) rfl (by rfl) (fun K hK => ?_)
              refine wp_append_lies W8 (.tmp 36) (.tmp 49) 30 rfl (b3 + 1) 51 i0 (.agg #[.string ⟨#[]⟩, .string ⟨#[]⟩, .string ⟨#[]⟩, .bool false]) 4 56 Try.underlying30 HI.out.1 HI.out.2.1 HI.out.2.2.1 HI.out.2.2.2 rfl (by decide) v k (svs (Ev.slipsK L k)) rfl H4.out.1 ⟨ab, 0, none⟩ 1 1 (⟨yn, yp, yc, xe⟩ : Slp).cs rfl rfl HM.out (by intro u hu; simp [Slp.cs] at hu; rcases hu with rfl | rfl | rfl | rfl <;> rfl) (by decide) (by simp only [maxLen]; omega) (by omega) H4.out.2.2.2 _ rfl ?_
              intro g9 cp9 W9 hown9 hg9 _ hlt9
              rw [svs_snoc, ← HST.out] at hown9
              have hO9 : Has W9 b3 33 #[.string (S (id.take 300)), .int .i64 cls, .int .i64 born, .int .i64 slot, v, .bool gone, .slice none 0 0] := (hg9.block _ H4.out.2.1.lt (fun e => by have := (HQ.out.2 _ e.symm).1; omega)).trans H4.out.2.1
              have hD9 : Below b3 W3 W9 := evGrown H4.out.2.2.1 hg9 (by have := H4.out.2.2.2; omega) (fun q hq => by have := (HQ.out.2 q hq).1; omega)
              have hs9 := Nat.le_trans H4.out.2.2.2 hg9.size
              have hsl8 : sb < W8.heap.size := Nat.lt_of_lt_of_le HSB.out HBE.out.size
              have hbk9 := hg9.block sb hsl8 (fun e => by have := (HQ.out.2 _ e.symm).2; omega)
              have hx9 : SlpS sb xn xp xc xe W9 := ⟨(World.cell?_of_block hbk9).trans hx.1, (World.cell?_of_block hbk9).trans hx.2.1, (World.cell?_of_block hbk9).trans hx.2.2.1, (World.cell?_of_block hbk9).trans hx.2.2.2⟩
              refine hK.out _ _ hx9 (fun hHeld => ?_)
              clear hK K
              try simp only [Act.put, setIfInBounds_toArray]
              have hx := hx9
              first
              | (refine tkW (i := 16) (v := ?_) rfl rfl ?_ ?_; rotate_left; (focus (intro w hSw; (try dsimp only at hSw); go_simp; first | done | with_reducible rfl)); (simp only [Act.at]))
              | (refine tkU (i := 16) rfl rfl ?_; (simp only [Act.at, setIfInBounds_toArray, set_cons_zero, set_cons_succ]))
              have d4 : W9.cell? ⟨b3, 4, none⟩ = some v := hO9.cell 4
              have f4 := hO9.free 4
              have hO10 : Has (W9.setCell ⟨b3, 4, none⟩ (.slice (some ⟨g9, 0, none⟩) (k + 1) cp9)) b3 33 #[.string (S (id.take 300)), .int .i64 cls, .int .i64 born, .int .i64 slot, (.slice (some ⟨g9, 0, none⟩) (k + 1) cp9), .bool gone, .slice none 0 0] := by simpa using hO9.set 4 (.slice (some ⟨g9, 0, none⟩) (k + 1) cp9)
              have ho10 := Only.set W9 b3 4 (.slice (some ⟨g9, 0, none⟩) (k + 1) cp9)
              have hD10 := ho10.below hD9 (by omega) (by have := Nat.le_trans H4.out.2.2.2 hg9.size; omega)
              have hA10 := own_mv hown9 (Mv.of_only ho10 (s := [b3]) (by simp)) (by simp)
              have hs10 := Nat.le_trans hs9 ho10.size
              have hbk10 := ho10.block sb (Nat.lt_of_lt_of_le hsl8 hg9.size) (fun e => by injection e with e; have := HQ.out.1; omega)
              have hx10 : SlpS sb xn xp xc xe (W9.setCell ⟨b3, 4, none⟩ (.slice (some ⟨g9, 0, none⟩) (k + 1) cp9)) := ⟨(World.cell?_of_block hbk10).trans hx9.1, (World.cell?_of_block hbk10).trans hx9.2.1, (World.cell?_of_block hbk10).trans hx9.2.2.1, (World.cell?_of_block hbk10).trans hx9.2.2.2⟩
              have HREL := Lib.hid (And.intro hA10 (And.intro hO10 (And.intro hD10 hs10)))
              clear hA10 hO10 hD10 hs10 ho10 hbk10 hown9 hg9 hD9 hs9 hbk9 hlt9
              refine evOne (i := 17) (by kernel_rfl) rfl (by rfl) (fun K hK => ?_)
              go_simp
              refine hK.out _ _ hx10 (fun hHeld => ?_)
              clear hK K d4 f4
              try simp only [Act.put, setIfInBounds_toArray, set_cons_zero, set_cons_succ]
              refine wpAnyH_done (by kernel_rfl) ?_ _
              go_wp2_with fail
              go_roundg (L.length - (k + 1))
              case measure => omega
              case rel => exact ⟨k + 1, (.slice (some ⟨g9, 0, none⟩) (k + 1) cp9), by omega, by omega, by go_num, Nat.le_refl _, HREL.out.1, HREL.out.2.1, HREL.out.2.2.1, HREL.out.2.2.2⟩
            · go_simp
              refine (HC2.out _).mono ?_
              rintro r w4 ⟨rfl, e4⟩
              rw [e4]
              clear e4 w4
              refine hK.out _ _ hx (fun hHeld => ?_)
              clear hK K
              try simp only [Act.put, setIfInBounds_toArray, set_cons_zero, set_cons_succ]
              refine evTwo (i := 1) (j := 10) (by kernel_rfl) rfl rfl (by rfl) (by rfl) (fun K hK => ?_) (fun K hK => ?_)
              · go_simp
                refine hK.out _ _ hx (fun hHeld => ?_)
                clear hK K
                try simp only [Act.put, setIfInBounds_toArray, set_cons_zero, set_cons_succ]
                refine evOne (i := 10) (by kernel_rfl) rfl (by rfl) (fun K hK => ?_)
                go_simp
                refine (HC3.out _).mono ?_
                rintro r w4 ⟨rfl, e4⟩
                rw [e4]
                clear e4 w4
                refine hK.out _ _ hx (fun hHeld => ?_)
                clear hK K
                try simp only [Act.put, setIfInBounds_toArray, set_cons_zero, set_cons_succ]
                first
                | (refine tkW (i := 13) (v := ?_) rfl rfl ?_ ?_; rotate_left; (focus (intro w hSw; (try dsimp only at hSw); go_simp; first | done | with_reducible rfl)); (simp only [Act.at, setIfInBounds_toArray, set_cons_zero, set_cons_succ]))
                | (refine tkU (i := 13) rfl rfl ?_; (simp only [Act.at, setIfInBounds_toArray, set_cons_zero, set_cons_succ]))
                refine evOne (i := 14) (by kernel_rfl) rfl (by rfl) (fun K hK => ?_)
                go_simp
                have hba := (Below.refl WD.heap.size WD).alloc (Nat.le_refl _) (.cells #[.string (S yn), .string (S yp), .string (S yc), .bool xe] 51)
                have HBE := Lib.hid (HBD.out.alloc HBD.out.size (.cells #[.string (S yn), .string (S yp), .string (S yc), .bool xe] 51))
                have hx2 : SlpS sb xn xp xc xe (WD.alloc (.cells #[.string (S yn), .string (S yp), .string (S yc), .bool xe] 51)) := (HYS.out _ HBE.out).1
                have HM := Lib.hid (evMadeSlip WD yn yp yc xe)
                have H4 := Lib.hid (And.intro (own_mv H3.out.1 (Mv.of_below hba []) (by simp)) (And.intro (H3.out.2.1.below hba H3.out.2.1.lt) (And.intro (H3.out.2.2.1.trans (hba.mono (by have := H3.out.2.2.2; omega))) (Nat.le_trans H3.out.2.2.2 hba.size))))
                clear c34
                have c34 : (WD.alloc (.cells #[.string (S yn), .string (S yp), .string (S yc), .bool xe] 51)).cell? ⟨b3, 4, none⟩ = some v := H4.out.2.1.cell 4
                refine hK.out _ _ hx2 (fun hHeld => ?_)
                clear hK K hx hba H3
                try simp only [Act.put, setIfInBounds_toArray, set_cons_zero, set_cons_succ]
                generalize WD.heap.size = ab at HM ⊢
                generalize WD.alloc (.cells #[.string (S yn), .string (S yp), .string (S yc), .bool xe] 51) = W8 at HM H4 HBE c34 hx2 hHeld ⊢
                have hx := hx2
                clear hx2
                refine evOne (i := 15) (by kernel_rfl) rfl (by rfl) (fun K hK => ?_)
                refine wp_append_lies W8 (.tmp 36) (.tmp 49) 30 rfl (b3 + 1) 51 i0 (.agg #[.string ⟨#[]⟩, .string ⟨#[]⟩, .string ⟨#[]⟩, .bool false]) 4 56 Try.underlying30 HI.out.1 HI.out.2.1 HI.out.2.2.1 HI.out.2.2.2 rfl (by decide) v k (svs (Ev.slipsK L k)) rfl H4.out.1 ⟨ab, 0, none⟩ 1 1 (⟨yn, yp, yc, xe⟩ : Slp).cs rfl rfl HM.out (by intro u hu; simp [Slp.cs] at hu; rcases hu with rfl | rfl | rfl | rfl <;> rfl) (by decide) (by simp only [maxLen]; omega) (by omega) H4.out.2.2.2 _ rfl ?_
                intro g9 cp9 W9 hown9 hg9 _ hlt9
                rw [svs_snoc, ← HST.out] at hown9
                have hO9 : Has W9 b3 33 #[.string (S (id.take 300)), .int .i64 cls, .int .i64 born, .int .i64 slot, v, .bool gone, .slice none 0 0] := (hg9.block _ H4.out.2.1.lt (fun e => by have := (HQ.out.2 _ e.symm).1; omega)).trans H4.out.2.1
                have hD9 : Below b3 W3 W9 := evGrown H4.out.2.2.1 hg9 (by have := H4.out.2.2.2; omega) (fun q hq => by have := (HQ.out.2 q hq).1; omega)
                have hs9 := Nat.le_trans H4.out.2.2.2 hg9.size
                have hsl8 : sb < W8.heap.size := Nat.lt_of_lt_of_le HSB.out HBE.out.size
                have hbk9 := hg9.block sb hsl8 (fun e => by have := (HQ.out.2 _ e.symm).2; omega)
                have hx9 : SlpS sb xn xp xc xe W9 := ⟨(World.cell?_of_block hbk9).trans hx.1, (World.cell?_of_block hbk9).trans hx.2.1, (World.cell?_of_block hbk9).trans hx.2.2.1, (World.cell?_of_block hbk9).trans hx.2.2.2⟩
                refine hK.out _ _ hx9 (fun hHeld => ?_)
                clear hK K
                try simp only [Act.put, setIfInBounds_toArray]
                have hx := hx9
                first
                | (refine tkW (i := 16) (v := ?_) rfl rfl ?_ ?_; rotate_left; (focus (intro w hSw; (try dsimp only at hSw); go_simp; first | done | with_reducible rfl)); (simp only [Act.at]))
                | (refine tkU (i := 16) rfl rfl ?_; (simp only [Act.at, setIfInBounds_toArray, set_cons_zero, set_cons_succ]))
                have d4 : W9.cell? ⟨b3, 4, none⟩ = some v := hO9.cell 4
                have f4 := hO9.free 4
                have hO10 : Has (W9.setCell ⟨b3, 4, none⟩ (.slice (some ⟨g9, 0, none⟩) (k + 1) cp9)) b3 33 #[.string (S (id.take 300)), .int .i64 cls, .int .i64 born, .int .i64 slot, (.slice (some ⟨g9, 0, none⟩) (k + 1) cp9), .bool gone, .slice none 0 0] := by simpa using hO9.set 4 (.slice (some ⟨g9, 0, none⟩) (k + 1) cp9)
                have ho10 := Only.set W9 b3 4 (.slice (some ⟨g9, 0, none⟩) (k + 1) cp9)
                have hD10 := ho10.below hD9 (by omega) (by have := Nat.le_trans H4.out.2.2.2 hg9.size; omega)
                have hA10 := own_mv hown9 (Mv.of_only ho10 (s := [b3]) (by simp)) (by simp)
                have hs10 := Nat.le_trans hs9 ho10.size
                have hbk10 := ho10.block sb (Nat.lt_of_lt_of_le hsl8 hg9.size) (fun e => by injection e with e; have := HQ.out.1; omega)
                have hx10 : SlpS sb xn xp xc xe (W9.setCell ⟨b3, 4, none⟩ (.slice (some ⟨g9, 0, none⟩) (k + 1) cp9)) := ⟨(World.cell?_of_block hbk10).trans hx9.1, (World.cell?_of_block hbk10).trans hx9.2.1, (World.cell?_of_block hbk10).trans hx9.2.2.1, (World.cell?_of_block hbk10).trans hx9.2.2.2⟩
                have HREL := Lib.hid (And.intro hA10 (And.intro hO10 (And.intro hD10 hs10)))
                clear hA10 hO10 hD10 hs10 ho10 hbk10 hown9 hg9 hD9 hs9 hbk9 hlt9
                refine evOne (i := 17) (by kernel_rfl) rfl (by rfl) (fun K hK => ?_)
                go_simp
                refine hK.out _ _ hx10 (fun hHeld => ?_)
                clear hK K d4 f4
                try simp only [Act.put, setIfInBounds_toArray, set_cons_zero, set_cons_succ]
                refine wpAnyH_done (by kernel_rfl) ?_ _
                go_wp2_with fail
                go_roundg (L.length - (k + 1))
                case measure => omega
                case rel => exact ⟨k + 1, (.slice (some ⟨g9, 0, none⟩) (k + 1) cp9), by omega, by omega, by go_num, Nat.le_refl _, HREL.out.1, HREL.out.2.1, HREL.out.2.2.1, HREL.out.2.2.2⟩
              · go_simp
                refine (HC3.out _).mono ?_
                rintro r w4 ⟨rfl, e4⟩
                rw [e4]
                clear e4 w4
                refine hK.out _ _ hx (fun hHeld => ?_)
                clear hK K
                try simp only [Act.put, setIfInBounds_toArray, set_cons_zero, set_cons_succ]
                first
                | (refine tkW (i := 13) (v := ?_) rfl rfl ?_ ?_; rotate_left; (focus (intro w hSw; (try dsimp only at hSw); go_simp; first | done | with_reducible rfl)); (simp only [Act.at, setIfInBounds_toArray, set_cons_zero, set_cons_succ]))
                | (refine tkU (i := 13) rfl rfl ?_; (simp only [Act.at, setIfInBounds_toArray, set_cons_zero, set_cons_succ]))
                refine evTwo (i := 1) (j := 14) (by kernel_rfl) rfl rfl (by rfl) (by rfl) (fun K hK => ?_) (fun K hK => ?_)
                · go_simp
                  refine hK.out _ _ hx (fun hHeld => ?_)
                  clear hK K
                  try simp only [Act.put, setIfInBounds_toArray, set_cons_zero, set_cons_succ]
                  refine evOne (i := 14) (by kernel_rfl) rfl (by rfl) (fun K hK => ?_)
                  go_simp
                  have hba := (Below.refl WD.heap.size WD).alloc (Nat.le_refl _) (.cells #[.string (S yn), .string (S yp), .string (S yc), .bool xe] 51)
                  have HBE := Lib.hid (HBD.out.alloc HBD.out.size (.cells #[.string (S yn), .string (S yp), .string (S yc), .bool xe] 51))
                  have hx2 : SlpS sb xn xp xc xe (WD.alloc (.cells #[.string (S yn), .string (S yp), .string (S yc), .bool xe] 51)) := (HYS.out _ HBE.out).1
                  have HM := Lib.hid (evMadeSlip WD yn yp yc xe)
                  have H4 := Lib.hid (And.intro (own_mv H3.out.1 (Mv.of_below hba []) (by simp)) (And.intro (H3.out.2.1.below hba H3.out.2.1.lt) (And.intro (H3.out.2.2.1.trans (hba.mono (by have := H3.out.2.2.2; omega))) (Nat.le_trans H3.out.2.2.2 hba.size))))
                  clear c34
                  have c34 : (WD.alloc (.cells #[.string (S yn), .string (S yp), .string (S yc), .bool xe] 51)).cell? ⟨b3, 4, none⟩ = some v := H4.out.2.1.cell 4
                  refine hK.out _ _ hx2 (fun hHeld => ?_)
                  clear hK K hx hba H3
                  try simp only [Act.put, setIfInBounds_toArray, set_cons_zero, set_cons_succ]
                  generalize WD.heap.size = ab at HM ⊢
                  generalize WD.alloc (.cells #[.string (S yn), .string (S yp), .string (S yc), .bool xe] 51) = W8 at HM H4 HBE c34 hx2 hHeld ⊢
                  have hx := hx2
                  clear hx2
                  refine evOne (i := 15) (by kernel_rfl) rfl (by rfl) (fun K hK => ?_)
                  refine wp_append_lies W8 (.tmp 36) (.tmp 49) 30 rfl (b3 + 1) 51 i0 (.agg #[.string ⟨#[]⟩, .string ⟨#[]⟩, .string ⟨#[]⟩, .bool false]) 4 56 Try.underlying30 HI.out.1 HI.out.2.1 HI.out.2.2.1 HI.out.2.2.2 rfl (by decide) v k (svs (Ev.slipsK L k)) rfl H4.out.1 ⟨ab, 0, none⟩ 1 1 (⟨yn, yp, yc, xe⟩ : Slp).cs rfl rfl HM.out (by intro u hu; simp [Slp.cs] at hu; rcases hu with rfl | rfl | rfl | rfl <;> rfl) (by decide) (by simp only [maxLen]; omega) (by omega) H4.out.2.2.2 _ rfl ?_
                  intro g9 cp9 W9 hown9 hg9 _ hlt9
                  rw [svs_snoc, ← HST.out] at hown9
                  have hO9 : Has W9 b3 33 #[.string (S (id.take 300)), .int .i64 cls, .int .i64 born, .int .i64 slot, v, .bool gone, .slice none 0 0] := (hg9.block _ H4.out.2.1.lt (fun e => by have := (HQ.out.2 _ e.symm).1; omega)).trans H4.out.2.1
                  have hD9 : Below b3 W3 W9 := evGrown H4.out.2.2.1 hg9 (by have := H4.out.2.2.2; omega) (fun q hq => by have := (HQ.out.2 q hq).1; omega)
                  have hs9 := Nat.le_trans H4.out.2.2.2 hg9.size
                  have hsl8 : sb < W8.heap.size := Nat.lt_of_lt_of_le HSB.out HBE.out.size
                  have hbk9 := hg9.block sb hsl8 (fun e => by have := (HQ.out.2 _ e.symm).2; omega)
                  have hx9 : SlpS sb xn xp xc xe W9 := ⟨(World.cell?_of_block hbk9).trans hx.1, (World.cell?_of_block hbk9).trans hx.2.1, (World.cell?_of_block hbk9).trans hx.2.2.1, (World.cell?_of_block hbk9).trans hx.2.2.2⟩
                  refine hK.out _ _ hx9 (fun hHeld => ?_)
                  clear hK K
                  try simp only [Act.put, setIfInBounds_toArray]
                  have hx := hx9
                  first
                  | (refine tkW (i := 16) (v := ?_) rfl rfl ?_ ?_; rotate_left; (focus (intro w hSw; (try dsimp only at hSw); go_simp; first | done | with_reducible rfl)); (simp only [Act.at]))
                  | (refine tkU (i := 16) rfl rfl ?_; (simp only [Act.at, setIfInBounds_toArray, set_cons_zero, set_cons_succ]))
                  have d4 : W9.cell? ⟨b3, 4, none⟩ = some v := hO9.cell 4
                  have f4 := hO9.free 4
                  have hO10 : Has (W9.setCell ⟨b3, 4, none⟩ (.slice (some ⟨g9, 0, none⟩) (k + 1) cp9)) b3 33 #[.string (S (id.take 300)), .int .i64 cls, .int .i64 born, .int .i64 slot, (.slice (some ⟨g9, 0, none⟩) (k + 1) cp9), .bool gone, .slice none 0 0] := by simpa using hO9.set 4 (.slice (some ⟨g9, 0, none⟩) (k + 1) cp9)
                  have ho10 := Only.set W9 b3 4 (.slice (some ⟨g9, 0, none⟩) (k + 1) cp9)
                  have hD10 := ho10.below hD9 (by omega) (by have := Nat.le_trans H4.out.2.2.2 hg9.size; omega)
                  have hA10 := own_mv hown9 (Mv.of_only ho10 (s := [b3]) (by simp)) (by simp)
                  have hs10 := Nat.le_trans hs9 ho10.size
                  have hbk10 := ho10.block sb (Nat.lt_of_lt_of_le hsl8 hg9.size) (fun e => by injection e with e; have := HQ.out.1; omega)
                  have hx10 : SlpS sb xn xp xc xe (W9.setCell ⟨b3, 4, none⟩ (.slice (some ⟨g9, 0, none⟩) (k + 1) cp9)) := ⟨(World.cell?_of_block hbk10).trans hx9.1, (World.cell?_of_block hbk10).trans hx9.2.1, (World.cell?_of_block hbk10).trans hx9.2.2.1, (World.cell?_of_block hbk10).trans hx9.2.2.2⟩
                  have HREL := Lib.hid (And.intro hA10 (And.intro hO10 (And.intro hD10 hs10)))
                  clear hA10 hO10 hD10 hs10 ho10 hbk10 hown9 hg9 hD9 hs9 hbk9 hlt9
                  refine evOne (i := 17) (by kernel_rfl) rfl (by rfl) (fun K hK => ?_)
                  go_simp
                  refine hK.out _ _ hx10 (fun hHeld => ?_)
                  clear hK K d4 f4
                  try simp only [Act.put, setIfInBounds_toArray, set_cons_zero, set_cons_succ]
                  refine wpAnyH_done (by kernel_rfl) ?_ _
                  go_wp2_with fail
                  go_roundg (L.length - (k + 1))
                  case measure => omega
                  case rel => exact ⟨k + 1, (.slice (some ⟨g9, 0, none⟩) (k + 1) cp9), by omega, by omega, by go_num, Nat.le_refl _, HREL.out.1, HREL.out.2.1, HREL.out.2.2.1, HREL.out.2.2.2⟩
                · go_simp
                  have hba := (Below.refl WD.heap.size WD).alloc (Nat.le_refl _) (.cells #[.string (S yn), .string (S yp), .string (S yc), .bool xe] 51)
                  have HBE := Lib.hid (HBD.out.alloc HBD.out.size (.cells #[.string (S yn), .string (S yp), .string (S yc), .bool xe] 51))
                  have hx2 : SlpS sb xn xp xc xe (WD.alloc (.cells #[.string (S yn), .string (S yp), .string (S yc), .bool xe] 51)) := (HYS.out _ HBE.out).1
                  have HM := Lib.hid (evMadeSlip WD yn yp yc xe)
                  have H4 := Lib.hid (And.intro (own_mv H3.out.1 (Mv.of_below hba []) (by simp)) (And.intro (H3.out.2.1.below hba H3.out.2.1.lt) (And.intro (H3.out.2.2.1.trans (hba.mono (by have := H3.out.2.2.2; omega))) (Nat.le_trans H3.out.2.2.2 hba.size))))
                  clear c34
                  have c34 : (WD.alloc (.cells #[.string (S yn), .string (S yp), .string (S yc), .bool xe] 51)).cell? ⟨b3, 4, none⟩ = some v := H4.out.2.1.cell 4
                  refine hK.out _ _ hx2 (fun hHeld => ?_)
                  clear hK K hx hba H3
                  try simp only [Act.put, setIfInBounds_toArray, set_cons_zero, set_cons_succ]
                  generalize WD.heap.size = ab at HM ⊢
                  generalize WD.alloc (.cells #[.string (S yn), .string (S yp), .string (S yc), .bool xe] 51) = W8 at HM H4 HBE c34 hx2 hHeld ⊢
                  have hx := hx2
                  clear hx2
                  refine evOne (i := 1) (by kernel_rfl) rfl (by rfl) (fun K hK => ?_)
                  go_simp
                  refine hK.out _ _ hx (fun hHeld => ?_)
                  clear hK K
                  try simp only [Act.put, setIfInBounds_toArray, set_cons_zero, set_cons_succ]
                  refine evOne (i := 15) (by kernel_rfl) rfl (by rfl) (fun K hK => ?_)
                  refine wp_append_lies W8 (.tmp 36) (.tmp 49) 30 rfl (b3 + 1) 51 i0 (.agg #[.string ⟨#[]⟩, .string ⟨#[]⟩, .string ⟨#[]⟩, .bool false]) 4 56 Try.underlying30 HI.out.1 HI.out.2.1 HI.out.2.2.1 HI.out.2.2.2 rfl (by decide) v k (svs (Ev.slipsK L k)) rfl H4.out.1 ⟨ab, 0, none⟩ 1 1 (⟨yn, yp, yc, xe⟩ : Slp).cs rfl rfl HM.out (by intro u hu; simp [Slp.cs] at hu; rcases hu with rfl | rfl | rfl | rfl <;> rfl) (by decide) (by simp only [maxLen]; omega) (by omega) H4.out.2.2.2 _ rfl ?_
                  intro g9 cp9 W9 hown9 hg9 _ hlt9
                  rw [svs_snoc, ← HST.out] at hown9
                  have hO9 : Has W9 b3 33 #[.string (S (id.take 300)), .int .i64 cls, .int .i64 born, .int .i64 slot, v, .bool gone, .slice none 0 0] := (hg9.block _ H4.out.2.1.lt (fun e => by have := (HQ.out.2 _ e.symm).1; omega)).trans H4.out.2.1
                  have hD9 : Below b3 W3 W9 := evGrown H4.out.2.2.1 hg9 (by have := H4.out.2.2.2; omega) (fun q hq => by have := (HQ.out.2 q hq).1; omega)
                  have hs9 := Nat.le_trans H4.out.2.2.2 hg9.size
                  have hsl8 : sb < W8.heap.size := Nat.lt_of_lt_of_le HSB.out HBE.out.size
                  have hbk9 := hg9.block sb hsl8 (fun e => by have := (HQ.out.2 _ e.symm).2; omega)
                  have hx9 : SlpS sb xn xp xc xe W9 := ⟨(World.cell?_of_block hbk9).trans hx.1, (World.cell?_of_block hbk9).trans hx.2.1, (World.cell?_of_block hbk9).trans hx.2.2.1, (World.cell?_of_block hbk9).trans hx.2.2.2⟩
                  refine hK.out _ _ hx9 (fun hHeld => ?_)
                  clear hK K
                  try simp only [Act.put, setIfInBounds_toArray]
                  have hx := hx9
                  first
                  | (refine tkW (i := 16) (v := ?_) rfl rfl ?_ ?_; rotate_left; (focus (intro w hSw; (try dsimp only at hSw); go_simp; first | done | with_reducible rfl)); (simp only [Act.at]))
                  | (refine tkU (i := 16) rfl rfl ?_; (simp only [Act.at, setIfInBounds_toArray, set_cons_zero, set_cons_succ]))
                  have d4 : W9.cell? ⟨b3, 4, none⟩ = some v := hO9.cell 4
                  have f4 := hO9.free 4
                  have hO10 : Has (W9.setCell ⟨b3, 4, none⟩ (.slice (some ⟨g9, 0, none⟩) (k + 1) cp9)) b3 33 #[.string (S (id.take 300)), .int .i64 cls, .int .i64 born, .int .i64 slot, (.slice (some ⟨g9, 0, none⟩) (k + 1) cp9), .bool gone, .slice none 0 0] := by simpa using hO9.set 4 (.slice (some ⟨g9, 0, none⟩) (k + 1) cp9)
                  have ho10 := Only.set W9 b3 4 (.slice (some ⟨g9, 0, none⟩) (k + 1) cp9)
                  have hD10 := ho10.below hD9 (by omega) (by have := Nat.le_trans H4.out.2.2.2 hg9.size; omega)
                  have hA10 := own_mv hown9 (Mv.of_only ho10 (s := [b3]) (by simp)) (by simp)
                  have hs10 := Nat.le_trans hs9 ho10.size
                  have hbk10 := ho10.block sb (Nat.lt_of_lt_of_le hsl8 hg9.size) (fun e => by injection e with e; have := HQ.out.1; omega)
                  have hx10 : SlpS sb xn xp xc xe (W9.setCell ⟨b3, 4, none⟩ (.slice (some ⟨g9, 0, none⟩) (k + 1) cp9)) := ⟨(World.cell?_of_block hbk10).trans hx9.1, (World.cell?_of_block hbk10).trans hx9.2.1, (World.cell?_of_block hbk10).trans hx9.2.2.1, (World.cell?_of_block hbk10).trans hx9.2.2.2⟩
                  have HREL := Lib.hid (And.intro hA10 (And.intro hO10 (And.intro hD10 hs10)))
                  clear hA10 hO10 hD10 hs10 ho10 hbk10 hown9 hg9 hD9 hs9 hbk9 hlt9
                  refine evOne (i := 17) (by kernel_rfl) rfl (by rfl) (fun K hK => ?_)
                  go_simp
                  refine hK.out _ _ hx10 (fun hHeld => ?_)
                  clear hK K d4 f4
                  try simp only [Act.put, setIfInBounds_toArray, set_cons_zero, set_cons_succ]
                  refine wpAnyH_done (by kernel_rfl) ?_ _
                  go_wp2_with fail
                  go_roundg (L.length - (k + 1))
                  case measure => omega
                  case rel => exact ⟨k + 1, (.slice (some ⟨g9, 0, none⟩) (k + 1) cp9), by omega, by omega, by go_num, Nat.le_refl _, HREL.out.1, HREL.out.2.1, HREL.out.2.2.1, HREL.out.2.2.2⟩
        · have hk5 := Ev.slipsK_len L k hk
          rw [Ev.slipsK_end L k (by omega)] at hown hk5
          obtain ⟨A5, ca5, rfl, hc5, hcm5, -, -, hr5⟩ := own_rowC (s := b3 :: W1.heap.size :: s0) hown (by
            have h1 := HZZ.out.1
            have h2 := HS.out.1
            intro x hx
            rcases List.mem_cons.1 hx with rfl | hx
            · omega
            rcases List.mem_cons.1 hx with rfl | hx
            · omega
            have := HS0.out x hx
            omega) (by decide)
          have hstop : (k : Int) < (L.length : Int) → ¬ (k : Int) < 20 := by intro h; omega
          have HREL : Hid ((Ev.slipsK L 20).length ≤ ca5 ∧ ca5 ≤ maxLen ∧ RowC wr (b3 :: W1.heap.size :: s0) A5 (svs (Ev.slipsK L 20)) ∧ Has wr b3 33 #[.string (S (id.take 300)), .int .i64 cls, .int .i64 born, .int .i64 slot, .slice A5 (Ev.slipsK L 20).length ca5, .bool gone, .slice none 0 0] ∧ Below b3 W3 wr ∧ b3 + 1 ≤ wr.heap.size) := Lib.hid ⟨by rw [hk5]; exact hc5, hcm5, hr5, by rw [hk5]; exact hOk, hbk, hsk⟩
          clear hown hk5 hc5 hcm5 hr5 hlt hk hk20 hg hyk hOk hbk hsk
          by_cases hkL : (k : Int) < (L.length : Int)
          · have hk3 := hstop hkL
            clear hstop
            go_wp2_with fail
            go_meet
            case rel => exact ⟨A5, ca5, HREL⟩
          · clear hstop
            go_wp2_with fail
            go_meet
            case rel => exact ⟨A5, ca5, HREL⟩
    case rest =>
      obtain ⟨A5, ca5, HR5⟩ := hcut
      clear hO1
      generalize wc = W5 at *
      have hL5 := Ev.slipsK_le L
      generalize hl5 : Ev.slipsK L 20 = L5 at *
      obtain ⟨j0, hj0, hq0, hq1, hq2⟩ := info_parts evStrInfo
      have HJ := Lib.hid (And.intro hj0 (And.intro hq0 (And.intro hq1 hq2)))
      clear hj0 hq0 hq1 hq2 HI HC
      go_wp2_with fail
      go_loopg [6] H.length (fun g1 v6 wr => ∃ (k : Nat) (v : Value), k ≤ H.length ∧ k ≤ 20 ∧ v6 = .int .i64 (k : Int) ∧ H.length - k ≤ g1 ∧ wr.ownsRow W5.heap.size 9 1 v k (tvs (Ev.holdsK H k)) ∧
          Has wr b3 33 #[.string (S (id.take 300)), .int .i64 cls, .int .i64 born, .int .i64 slot, .slice A5 L5.length ca5, .bool gone, v] ∧ Mv W5 wr [b3])
      case atStart => exact ⟨0, .slice none 0 0, Nat.zero_le _, by omega, rfl, by omega, World.ownsRow_nil _ _ _ _, HR5.out.2.2.2.1, Mv.refl _ _⟩
      case round =>
        obtain ⟨k, v, hk, hk20, rfl, hg, hown, hOk, hmk⟩ := hrel
        have hbk : Below b3 W3 wr := evBelowMv HR5.out.2.2.2.2.1 hmk (by have := HR5.out.2.2.2.2.2; omega)
        have hyk := (HY.out _ (HF.out _ hbk)).1
        have c6 := hyk.2.2.2.2.2.2
        by_cases hlt : k < H.length ∧ k < 20
        · have hki : (k : Int) < (H.length : Int) := by omega
          have hki2 : (k : Int) < 20 := by omega
          have hki0 : (0 : Int) ≤ (k : Int) := by omega
          have hkc : (k : Int) < (cb : Int) := by have := HIN1.out.lb; dsimp only at this; omega
          have hinc : IntKind.i64.wrap ((k : Int) + 1) = (k : Int) + 1 := by rw [IntKind.wrap_i64]; omega
          obtain ⟨bh, oh, hB, -, -, -⟩ := RowT.get HIN1.out.rh k hlt.1
          have HST := Lib.hid (Ev.holdsK_step H k hlt.1)
          have HYS : Hid (∀ W, Below b3 W3 W → HolS b1 bh oh (oh + k) H.length cb (H[k]'hlt.1) W) := Lib.hid (fun W hb => by
            have h1 := (HY.out _ (HF.out _ hb)).1.2.2.2.2.2.2
            obtain ⟨bh', oh', hB', -, -, h2⟩ := RowT.get (HIN1.out.rh.below (HF.out _ hb)) k hlt.1
            rw [hB] at hB'
            injection hB' with hB'
            injection hB' with e1 e2
            rw [hB] at h1
            exact ⟨h1, by rw [e1, e2]; exact h2⟩)
          subst hB
          generalize H[k]'hlt.1 = x at HYS HST
          have HC1 := Lib.hid (fun W => ecut_any x W)
          generalize x.take 300 = y at HST HC1
          go_upto_region 10 with fail
          clear c6 hyk
          have hx : HolS b1 bh oh (oh + k) H.length cb x wr.drew := HYS.out _ hbk.drew
          have c36 : wr.drew.cell? ⟨b3, 6, none⟩ = some v := hOk.cell 6
          have HBD := Lib.hid hbk.drew
          have hmd : Mv W5 wr.drew [b3] := hmk.drew
          have H3 : Hid (wr.drew.ownsRow W5.heap.size 9 1 v k (tvs (Ev.holdsK H k)) ∧ Has wr.drew b3 33 #[.string (S (id.take 300)), .int .i64 cls, .int .i64 born, .int .i64 slot, .slice A5 L5.length ca5, .bool gone, v] ∧ Mv W5 wr.drew [b3]) := Lib.hid ⟨own_mv hown (Mv.of_below (Below.refl wr.heap.size wr).drew []) (by simp), hOk, hmd⟩
          clear hown hOk hmk hbk hmd
          refine wp_region_held_drew (S := HolS b1 bh oh (oh + k) H.length cb x) (by kernel_rfl) hx (fun hHeld => ?_)
          generalize wr.drew = WD at hx hHeld HBD c36 H3 ⊢
          first
          | (refine tkW (i := 0) (v := ?_) rfl rfl ?_ ?_; rotate_left; (focus (intro w hSw; (try dsimp only at hSw); go_simp; first | done | with_reducible rfl)); (simp only [Act.at, setIfInBounds_toArray, set_cons_zero, set_cons_succ]))
          | (refine tkU (i := 0) rfl rfl ?_; (simp only [Act.at, setIfInBounds_toArray, set_cons_zero, set_cons_succ]))
          first
          | (refine tkW (i := 2) (v := ?_) rfl rfl ?_ ?_; rotate_left; (focus (intro w hSw; (try dsimp only at hSw); go_simp; first | done | with_reducible rfl)); (simp only [Act.at, setIfInBounds_toArray, set_cons_zero, set_cons_succ]))
          | (refine tkU (i := 2) rfl rfl ?_; (simp only [Act.at, setIfInBounds_toArray, set_cons_zero, set_cons_succ]))
          first
          | (refine tkW (i := 3) (v := ?_) rfl rfl ?_ ?_; rotate_left; (focus (intro w hSw; (try dsimp only at hSw); go_simp; first | done | with_reducible rfl)); (simp only [Act.at, setIfInBounds_toArray, set_cons_zero, set_cons_succ]))
          | (refine tkU (i := 3) rfl rfl ?_; (simp only [Act.at, setIfInBounds_toArray, set_cons_zero, set_cons_succ]))
          first
          | (refine tkW (i := 4) (v := ?_) rfl rfl ?_ ?_; rotate_left; (focus (intro w hSw; (try dsimp only at hSw); go_simp; first | done | with_reducible rfl)); (simp only [Act.at, setIfInBounds_toArray, set_cons_zero, set_cons_succ]))
          | (refine tkU (i := 4) rfl rfl ?_; (simp only [Act.at, setIfInBounds_toArray, set_cons_zero, set_cons_succ]))
          first
          | (refine tkW (i := 5) (v := ?_) rfl rfl ?_ ?_; rotate_left; (focus (intro w hSw; (try dsimp only at hSw); go_simp; first | done | with_reducible rfl)); (simp only [Act.at, setIfInBounds_toArray, set_cons_zero, set_cons_succ]))
          | (refine tkU (i := 5) rfl rfl ?_; (simp only [Act.at, setIfInBounds_toArray, set_cons_zero, set_cons_succ]))
          first
          | (refine tkW (i := 6) (v := ?_) rfl rfl ?_ ?_; rotate_left; (focus (intro w hSw; (try dsimp only at hSw); go_simp; first | done | with_reducible rfl)); (simp only [Act.at, setIfInBounds_toArray, set_cons_zero, set_cons_succ]))
          | (refine tkU (i := 6) rfl rfl ?_; (simp only [Act.at, setIfInBounds_toArray, set_cons_zero, set_cons_succ]))
          refine evTwo (i := 1) (j := 7) (by kernel_rfl) rfl rfl (by rfl) (by rfl) (fun K hK => ?_) (fun K hK => ?_)
          · go_simp
            refine hK.out _ _ hx (fun hHeld => ?_)
            clear hK K
            try simp only [Act.put, setIfInBounds_toArray, set_cons_zero, set_cons_succ]
            refine evOne (i := 7) (by kernel_rfl) rfl (by rfl) (fun K hK => ?_)
            go_simp
            refine (HC1.out _).mono ?_
            rintro r w4 ⟨rfl, e4⟩
            rw [e4]
            clear e4 w4
            refine hK.out _ _ hx (fun hHeld => ?_)
            clear hK K
            try simp only [Act.put, setIfInBounds_toArray, set_cons_zero, set_cons_succ]
            refine evOne (i := 8) (by kernel_rfl) rfl (by rfl) (fun K hK => ?_)
            go_simp
            have hba := (Below.refl WD.heap.size WD).alloc (Nat.le_refl _) (.cells #[.string (S y)] 9)
            have HBE := Lib.hid (HBD.out.trans (hba.mono (Nat.le_trans (by omega) HBD.out.size)))
            have hx2 : HolS b1 bh oh (oh + k) H.length cb x (WD.alloc (.cells #[.string (S y)] 9)) := HYS.out _ HBE.out
            have HM := Lib.hid (evMadeStr WD y)
            have H4 := Lib.hid (And.intro (H3.out.1.alloc (.cells #[.string (S y)] 9)) (And.intro (H3.out.2.1.below hba H3.out.2.1.lt) (H3.out.2.2.trans (Mv.of_below hba [b3]))))
            clear c36
            have c36 : (WD.alloc (.cells #[.string (S y)] 9)).cell? ⟨b3, 6, none⟩ = some v := H4.out.2.1.cell 6
            refine hK.out _ _ hx2 (fun hHeld => ?_)
            clear hK K hx hba H3
            try simp only [Act.put, setIfInBounds_toArray, set_cons_zero, set_cons_succ]
            generalize WD.heap.size = ab at HM ⊢
            generalize WD.alloc (.cells #[.string (S y)] 9) = W8 at HM H4 HBE c36 hx2 hHeld ⊢
            have hx := hx2
            clear hx2
            refine evOne (i := 9) (by kernel_rfl) rfl (by rfl) (fun K hK => ?_)
            refine wp_append_lies W8 (.tmp 64) (.tmp 71) 31 rfl W5.heap.size 9 j0 (.string ⟨#[]⟩) 1 16 Try.underlying31 HJ.out.1 HJ.out.2.1 HJ.out.2.2.1 HJ.out.2.2.2 rfl (by decide) v k (tvs (Ev.holdsK H k)) rfl H4.out.1 ⟨ab, 0, none⟩ 1 1 [.string (S y)] rfl rfl HM.out (by intro u hu; simp at hu; rw [hu]; rfl) (by decide) (by simp only [maxLen]; omega) (by omega) H4.out.2.2.size _ rfl ?_
            intro g9 cp9 W9 hown9 hg9 _ hlt9
            rw [tvs_snoc, ← HST.out] at hown9
            have hrow : ∀ q, v.ownBlock = some q → W5.heap.size ≤ q := fun q hq => (H4.out.1.lt q hq).1
            have hb35 : b3 < W5.heap.size := HR5.out.2.2.2.2.2
            have hO9 : Has W9 b3 33 #[.string (S (id.take 300)), .int .i64 cls, .int .i64 born, .int .i64 slot, .slice A5 L5.length ca5, .bool gone, v] := (hg9.block _ H4.out.2.1.lt (fun e => by have := hrow _ e.symm; omega)).trans H4.out.2.1
            have hm9 : Mv W5 W9 [b3] := H4.out.2.2.own hg9 hrow
            have hD9 : Below b3 W3 W9 := evBelowMv HR5.out.2.2.2.2.1 hm9 (by omega)
            have hx9 : HolS b1 bh oh (oh + k) H.length cb x W9 := HYS.out _ hD9
            refine hK.out _ _ hx9 (fun hHeld => ?_)
            clear hK K
            try simp only [Act.put, setIfInBounds_toArray]
            have hx := hx9
            first
            | (refine tkW (i := 10) (v := ?_) rfl rfl ?_ ?_; rotate_left; (focus (intro w hSw; (try dsimp only at hSw); go_simp; first | done | with_reducible rfl)); (simp only [Act.at]))
            | (refine tkU (i := 10) rfl rfl ?_; (simp only [Act.at, setIfInBounds_toArray, set_cons_zero, set_cons_succ]))
            have d6 : W9.cell? ⟨b3, 6, none⟩ = some v := hO9.cell 6
            have f6 := hO9.free 6
            have hO10 : Has (W9.setCell ⟨b3, 6, none⟩ (.slice (some ⟨g9, 0, none⟩) (k + 1) cp9)) b3 33 #[.string (S (id.take 300)), .int .i64 cls, .int .i64 born, .int .i64 slot, .slice A5 L5.length ca5, .bool gone, (.slice (some ⟨g9, 0, none⟩) (k + 1) cp9)] := by simpa using hO9.set 6 (.slice (some ⟨g9, 0, none⟩) (k + 1) cp9)
            have hm10 : Mv W5 (W9.setCell ⟨b3, 6, none⟩ (.slice (some ⟨g9, 0, none⟩) (k + 1) cp9)) [b3] := hm9.trans (Mv.of_only (Only.set W9 b3 6 _) (by simp))
            have hA10 := own_mv hown9 (Mv.of_only (Only.set W9 b3 6 (.slice (some ⟨g9, 0, none⟩) (k + 1) cp9)) (s := [b3]) (by simp)) (by intro x hx; simp at hx; omega)
            have hx10 : HolS b1 bh oh (oh + k) H.length cb x (W9.setCell ⟨b3, 6, none⟩ (.slice (some ⟨g9, 0, none⟩) (k + 1) cp9)) := HYS.out _ (evBelowMv HR5.out.2.2.2.2.1 hm10 (by omega))
            have HREL := Lib.hid (And.intro hA10 (And.intro hO10 hm10))
            clear hA10 hO10 hm10 hown9 hg9 hD9 hlt9 hm9
            refine evOne (i := 11) (by kernel_rfl) rfl (by rfl) (fun K hK => ?_)
            go_simp
            refine hK.out _ _ hx10 (fun hHeld => ?_)
            clear hK K d6 f6
            try simp only [Act.put, setIfInBounds_toArray, set_cons_zero, set_cons_succ]
            refine wpAnyH_done (by kernel_rfl) ?_ _
            go_wp2_with fail
            go_roundg (H.length - (k + 1))
            case measure => omega
            case rel => exact ⟨k + 1, (.slice (some ⟨g9, 0, none⟩) (k + 1) cp9), by omega, by omega, by go_num, Nat.le_refl _, HREL.out.1, HREL.out.2.1, HREL.out.2.2⟩
          · go_simp
            refine (HC1.out _).mono ?_
            rintro r w4 ⟨rfl, e4⟩
            rw [e4]
            clear e4 w4
            refine hK.out _ _ hx (fun hHeld => ?_)
            clear hK K
            try simp only [Act.put, setIfInBounds_toArray, set_cons_zero, set_cons_succ]
            refine evTwo (i := 1) (j := 8) (by kernel_rfl) rfl rfl (by rfl) (by rfl) (fun K hK => ?_) (fun K hK => ?_)
            · go_simp
              refine hK.out _ _ hx (fun hHeld => ?_)
              clear hK K
              try simp only [Act.put, setIfInBounds_toArray, set_cons_zero, set_cons_succ]
              refine evOne (i := 8) (by kernel_rfl) rfl (by rfl) (fun K hK => ?_)
              go_simp
              have hba := (Below.refl WD.heap.size WD).alloc (Nat.le_refl _) (.cells #[.string (S y)] 9)
              have HBE := Lib.hid (HBD.out.trans (hba.mono (Nat.le_trans (by omega) HBD.out.size)))
              have hx2 : HolS b1 bh oh (oh + k) H.length cb x (WD.alloc (.cells #[.string (S y)] 9)) := HYS.out _ HBE.out
              have HM := Lib.hid (evMadeStr WD y)
              have H4 := Lib.hid (And.intro (H3.out.1.alloc (.cells #[.string (S y)] 9)) (And.intro (H3.out.2.1.below hba H3.out.2.1.lt) (H3.out.2.2.trans (Mv.of_below hba [b3]))))
              clear c36
              have c36 : (WD.alloc (.cells #[.string (S y)] 9)).cell? ⟨b3, 6, none⟩ = some v := H4.out.2.1.cell 6
              refine hK.out _ _ hx2 (fun hHeld => ?_)
              clear hK K hx hba H3
              try simp only [Act.put, setIfInBounds_toArray, set_cons_zero, set_cons_succ]
              generalize WD.heap.size = ab at HM ⊢
              generalize WD.alloc (.cells #[.string (S y)] 9) = W8 at HM H4 HBE c36 hx2 hHeld ⊢
              have hx := hx2
              clear hx2
              refine evOne (i := 9) (by kernel_rfl) rfl (by rfl) (fun K hK => ?_)
              refine wp_append_lies W8 (.tmp 64) (.tmp 71) 31 rfl W5.heap.size 9 j0 (.string ⟨#[]⟩) 1 16 Try.underlying31 HJ.out.1 HJ.out.2.1 HJ.out.2.2.1 HJ.out.2.2.2 rfl (by decide) v k (tvs (Ev.holdsK H k)) rfl H4.out.1 ⟨ab, 0, none⟩ 1 1 [.string (S y)] rfl rfl HM.out (by intro u hu; simp at hu; rw [hu]; rfl) (by decide) (by simp only [maxLen]; omega) (by omega) H4.out.2.2.size _ rfl ?_
              intro g9 cp9 W9 hown9 hg9 _ hlt9
              rw [tvs_snoc, ← HST.out] at hown9
              have hrow : ∀ q, v.ownBlock = some q → W5.heap.size ≤ q := fun q hq => (H4.out.1.lt q hq).1
              have hb35 : b3 < W5.heap.size := HR5.out.2.2.2.2.2
              have hO9 : Has W9 b3 33 #[.string (S (id.take 300)), .int .i64 cls, .int .i64 born, .int .i64 slot, .slice A5 L5.length ca5, .bool gone, v] := (hg9.block _ H4.out.2.1.lt (fun e => by have := hrow _ e.symm; omega)).trans H4.out.2.1
              have hm9 : Mv W5 W9 [b3] := H4.out.2.2.own hg9 hrow
              have hD9 : Below b3 W3 W9 := evBelowMv HR5.out.2.2.2.2.1 hm9 (by omega)
              have hx9 : HolS b1 bh oh (oh + k) H.length cb x W9 := HYS.out _ hD9
              refine hK.out _ _ hx9 (fun hHeld => ?_)
              clear hK K
              try simp only [Act.put, setIfInBounds_toArray]
              have hx := hx9
              first
              | (refine tkW (i := 10) (v := ?_) rfl rfl ?_ ?_; rotate_left; (focus (intro w hSw; (try dsimp only at hSw); go_simp; first | done | with_reducible rfl)); (simp only [Act.at]))
              | (refine tkU (i := 10) rfl rfl ?_; (simp only [Act.at, setIfInBounds_toArray, set_cons_zero, set_cons_succ]))
              have d6 : W9.cell? ⟨b3, 6, none⟩ = some v := hO9.cell 6
              have f6 := hO9.free 6
              have hO10 : Has (W9.setCell ⟨b3, 6, none⟩ (.slice (some ⟨g9, 0, none⟩) (k + 1) cp9)) b3 33 #[.string (S (id.take 300)), .int .i64 cls, .int .i64 born, .int .i64 slot, .slice A5 L5.length ca5, .bool gone, (.slice (some ⟨g9, 0, none⟩) (k + 1) cp9)] := by simpa using hO9.set 6 (.slice (some ⟨g9, 0, none⟩) (k + 1) cp9)
              have hm10 : Mv W5 (W9.setCell ⟨b3, 6, none⟩ (.slice (some ⟨g9, 0, none⟩) (k + 1) cp9)) [b3] := hm9.trans (Mv.of_only (Only.set W9 b3 6 _) (by simp))
              have hA10 := own_mv hown9 (Mv.of_only (Only.set W9 b3 6 (.slice (some ⟨g9, 0, none⟩) (k + 1) cp9)) (s := [b3]) (by simp)) (by intro x hx; simp at hx; omega)
              have hx10 : HolS b1 bh oh (oh + k) H.length cb x (W9.setCell ⟨b3, 6, none⟩ (.slice (some ⟨g9, 0, none⟩) (k + 1) cp9)) := HYS.out _ (evBelowMv HR5.out.2.2.2.2.1 hm10 (by omega))
              have HREL := Lib.hid (And.intro hA10 (And.intro hO10 hm10))
              clear hA10 hO10 hm10 hown9 hg9 hD9 hlt9 hm9
              refine evOne (i := 11) (by kernel_rfl) rfl (by rfl) (fun K hK => ?_)
              go_simp
              refine hK.out _ _ hx10 (fun hHeld => ?_)
              clear hK K d6 f6
              try simp only [Act.put, setIfInBounds_toArray, set_cons_zero, set_cons_succ]
              refine wpAnyH_done (by kernel_rfl) ?_ _
              go_wp2_with fail
              go_roundg (H.length - (k + 1))
              case measure => omega
              case rel => exact ⟨k + 1, (.slice (some ⟨g9, 0, none⟩) (k + 1) cp9), by omega, by omega, by go_num, Nat.le_refl _, HREL.out.1, HREL.out.2.1, HREL.out.2.2⟩
            · go_simp
              have hba := (Below.refl WD.heap.size WD).alloc (Nat.le_refl _) (.cells #[.string (S y)] 9)
              have HBE := Lib.hid (HBD.out.trans (hba.mono (Nat.le_trans (by omega) HBD.out.size)))
              have hx2 : HolS b1 bh oh (oh + k) H.length cb x (WD.alloc (.cells #[.string (S y)] 9)) := HYS.out _ HBE.out
              have HM := Lib.hid (evMadeStr WD y)
              have H4 := Lib.hid (And.intro (H3.out.1.alloc (.cells #[.string (S y)] 9)) (And.intro (H3.out.2.1.below hba H3.out.2.1.lt) (H3.out.2.2.trans (Mv.of_below hba [b3]))))
              clear c36
              have c36 : (WD.alloc (.cells #[.string (S y)] 9)).cell? ⟨b3, 6, none⟩ = some v := H4.out.2.1.cell 6
              refine hK.out _ _ hx2 (fun hHeld => ?_)
              clear hK K hx hba H3
              try simp only [Act.put, setIfInBounds_toArray, set_cons_zero, set_cons_succ]
              generalize WD.heap.size = ab at HM ⊢
              generalize WD.alloc (.cells #[.string (S y)] 9) = W8 at HM H4 HBE c36 hx2 hHeld ⊢
              have hx := hx2
              clear hx2
              refine evOne (i := 1) (by kernel_rfl) rfl (by rfl) (fun K hK => ?_)
              go_simp
              refine hK.out _ _ hx (fun hHeld => ?_)
              clear hK K
              try simp only [Act.put, setIfInBounds_toArray, set_cons_zero, set_cons_succ]
              refine evOne (i := 9) (by kernel_rfl) rfl (by rfl) (fun K hK => ?_)
              refine wp_append_lies W8 (.tmp 64) (.tmp 71) 31 rfl W5.heap.size 9 j0 (.string ⟨#[]⟩) 1 16 Try.underlying31 HJ.out.1 HJ.out.2.1 HJ.out.2.2.1 HJ.out.2.2.2 rfl (by decide) v k (tvs (Ev.holdsK H k)) rfl H4.out.1 ⟨ab, 0, none⟩ 1 1 [.string (S y)] rfl rfl HM.out (by intro u hu; simp at hu; rw [hu]; rfl) (by decide) (by simp only [maxLen]; omega) (by omega) H4.out.2.2.size _ rfl ?_
              intro g9 cp9 W9 hown9 hg9 _ hlt9
              rw [tvs_snoc, ← HST.out] at hown9
              have hrow : ∀ q, v.ownBlock = some q → W5.heap.size ≤ q := fun q hq => (H4.out.1.lt q hq).1
              have hb35 : b3 < W5.heap.size := HR5.out.2.2.2.2.2
              have hO9 : Has W9 b3 33 #[.string (S (id.take 300)), .int .i64 cls, .int .i64 born, .int .i64 slot, .slice A5 L5.length ca5, .bool gone, v] := (hg9.block _ H4.out.2.1.lt (fun e => by have := hrow _ e.symm; omega)).trans H4.out.2.1
              have hm9 : Mv W5 W9 [b3] := H4.out.2.2.own hg9 hrow
              have hD9 : Below b3 W3 W9 := evBelowMv HR5.out.2.2.2.2.1 hm9 (by omega)
              have hx9 : HolS b1 bh oh (oh + k) H.length cb x W9 := HYS.out _ hD9
              refine hK.out _ _ hx9 (fun hHeld => ?_)
              clear hK K
              try simp only [Act.put, setIfInBounds_toArray]
              have hx := hx9
              first
              | (refine tkW (i := 10) (v := ?_) rfl rfl ?_ ?_; rotate_left; (focus (intro w hSw; (try dsimp only at hSw); go_simp; first | done | with_reducible rfl)); (simp only [Act.at]))
              | (refine tkU (i := 10) rfl rfl ?_; (simp only [Act.at, setIfInBounds_toArray, set_cons_zero, set_cons_succ]))
              have d6 : W9.cell? ⟨b3, 6, none⟩ = some v := hO9.cell 6
              have f6 := hO9.free 6
              have hO10 : Has (W9.setCell ⟨b3, 6, none⟩ (.slice (some ⟨g9, 0, none⟩) (k + 1) cp9)) b3 33 #[.string (S (id.take 300)), .int .i64 cls, .int .i64 born, .int .i64 slot, .slice A5 L5.length ca5, .bool gone, (.slice (some ⟨g9, 0, none⟩) (k + 1) cp9)] := by simpa using hO9.set 6 (.slice (some ⟨g9, 0, none⟩) (k + 1) cp9)
              have hm10 : Mv W5 (W9.setCell ⟨b3, 6, none⟩ (.slice (some ⟨g9, 0, none⟩) (k + 1) cp9)) [b3] := hm9.trans (Mv.of_only (Only.set W9 b3 6 _) (by simp))
              have hA10 := own_mv hown9 (Mv.of_only (Only.set W9 b3 6 (.slice (some ⟨g9, 0, none⟩) (k + 1) cp9)) (s := [b3]) (by simp)) (by intro x hx; simp at hx; omega)
              have hx10 : HolS b1 bh oh (oh + k) H.length cb x (W9.setCell ⟨b3, 6, none⟩ (.slice (some ⟨g9, 0, none⟩) (k + 1) cp9)) := HYS.out _ (evBelowMv HR5.out.2.2.2.2.1 hm10 (by omega))
              have HREL := Lib.hid (And.intro hA10 (And.intro hO10 hm10))
              clear hA10 hO10 hm10 hown9 hg9 hD9 hlt9 hm9
              refine evOne (i := 11) (by kernel_rfl) rfl (by rfl) (fun K hK => ?_)
              go_simp
              refine hK.out _ _ hx10 (fun hHeld => ?_)
              clear hK K d6 f6
              try simp only [Act.put, setIfInBounds_toArray, set_cons_zero, set_cons_succ]
              refine wpAnyH_done (by kernel_rfl) ?_ _
              go_wp2_with fail
              go_roundg (H.length - (k + 1))
              case measure => omega
              case rel => exact ⟨k + 1, (.slice (some ⟨g9, 0, none⟩) (k + 1) cp9), by omega, by omega, by go_num, Nat.le_refl _, HREL.out.1, HREL.out.2.1, HREL.out.2.2⟩
        · have hk5 := Ev.holdsK_len H k hk
          rw [Ev.holdsK_end H k (by omega)] at hown hk5
          obtain ⟨A6, ca6, rfl, hc6, hcm6, -, -, hr6⟩ := own_rowC (s := W1.heap.size :: s0) hown (by
            have h1 := HZZ.out.1
            have h2 := HS.out.1
            have h3 := HR5.out.2.2.2.2.2
            intro x hx
            rcases List.mem_cons.1 hx with rfl | hx
            · omega
            have := HS0.out x hx
            omega) (by decide)
          have hstop : (k : Int) < (H.length : Int) → ¬ (k : Int) < 20 := by intro h; omega
          have HFIN : Hid (EntIn wr (W1.heap.size :: s0) ⟨id.take 300, cls, born, slot, L5, gone, Ev.holdsK H 20⟩ A5 ca5 A6 ca6) := Lib.hid ⟨(HR5.out.2.2.1.mv hmk (by simp)).sub (fun x hx => List.mem_cons_of_mem _ hx), hr6, HR5.out.1, by simpa only [maxLen] using HR5.out.2.1, by show (Ev.holdsK H 20).length ≤ _; rw [hk5]; exact hc6, by simpa only [maxLen] using hcm6⟩
          have HOB := Lib.hid (And.intro hOk hbk)
          have HK5 := Lib.hid hk5
          clear hown hk5 hc6 hcm6 hr6 hlt hk hk20 hg hyk hOk hmk hbk
          by_cases hkL : (k : Int) < (H.length : Int)
          case' pos =>
            have hk3 := hstop hkL
            clear hstop
            go_upto_region 11 with fail
          case' neg =>
            clear hstop
            go_upto_region 11 with fail
          all_goals
            obtain ⟨hO, hbk⟩ := HOB.out
            have hz : Has wr W1.heap.size 33 #[.string ⟨#[]⟩, .int .i64 0, .int .i64 0, .int .i64 0, .slice none 0 0, .bool false, .slice none 0 0] := HZZ.out.2.below hbk HZZ.out.1
            have hcs : (#[.string (S (id.take 300)), .int .i64 cls, .int .i64 born, .int .i64 slot, .slice A5 L5.length ca5, .bool gone, .slice A6 k ca6] : Array Value).size = 7 := rfl
            have hone : (#[.string (S (id.take 300)), .int .i64 cls, .int .i64 born, .int .i64 slot, .slice A5 L5.length ca5, .bool gone, .slice A6 k ca6] : Array Value).all (·.oneCell') = true := by simp [Value.oneCell']
            have HPO : Hid (EntIn (wr.setRow W1.heap.size #[.string (S (id.take 300)), .int .i64 cls, .int .i64 born, .int .i64 slot, .slice A5 L5.length ca5, .bool gone, .slice A6 k ca6]) s0 ⟨id.take 300, cls, born, slot, L5, gone, Ev.holdsK H 20⟩ A5 ca5 A6 ca6 ∧ Below b1 w (wr.setRow W1.heap.size #[.string (S (id.take 300)), .int .i64 cls, .int .i64 born, .int .i64 slot, .slice A5 L5.length ca5, .bool gone, .slice A6 k ca6])) := Lib.hid ⟨(HFIN.out.mv (Mv.of_only (onlySetRow wr W1.heap.size _) (s := [W1.heap.size]) (by simp)) (by simp)).sub (fun x hx => List.mem_cons_of_mem _ hx), below_setRow (HY.out _ (HF.out _ hbk)).2 (by have := HS.out.1; omega) _⟩
            have hrow := setRow_heap wr W1.heap.size _ #[.string (S (id.take 300)), .int .i64 cls, .int .i64 born, .int .i64 slot, .slice A5 L5.length ca5, .bool gone, .slice A6 k ca6] _ _ hz
            clear HFIN HZZ HOB hbk c6
            have hs1 := HS.out.1
            generalize W1.heap.size = q1 at *
            obtain rfl := hs1
            generalize hCS : (#[.string (S (id.take 300)), .int .i64 cls, .int .i64 born, .int .i64 slot, .slice A5 L5.length ca5, .bool gone, .slice A6 k ca6] : Array Value) = CS at *
            have HROW := Lib.hid hrow
            have HCS := Lib.hid hcs
            have HOO := Lib.hid (And.intro hO (And.intro hz hone))
            clear hrow hcs hO hz hone
            refine wp_region_lit ?_
            refine wpList_load_row rfl 33 (.tmp 3) rfl b3 ?e1 _ _ _ _ HOO.out.1 Try.underlying33 rfl (by rw [HCS.out]; exact entSize) ?_
            case e1 => rfl
            refine wpList_store_row rfl 33 (.tmp 2) (.tmp 74) rfl (b1 + 1) CS ?e2 ?e3 _ _ HOO.out.2.1 (by rw [HCS.out]; exact entSize) (by rw [HCS.out]; rfl) HOO.out.2.2 ?_
            case e2 => rfl
            case e3 => rfl
            go_wp2_with fail
            refine ret_ent (p := 2) rfl (b1 + 1) CS ?e4 rfl HROW.out HCS.out ?_
            case e4 => rfl
            have hfe : Ev.fewE ⟨id, cls, born, slot, L, gone, H⟩ = ⟨id.take 300, cls, born, slot, L5, gone, Ev.holdsK H 20⟩ := by unfold Ev.fewE; rw [hl5]
            subst hCS
            exact ⟨A5, A6, ca5, ca6, by rw [HK5.out], by rw [hfe]; exact HPO.out.1, HPO.out.2⟩
end Go.Proofs.Ytojemaaljjibiaa
