/-
  The reference's Bytes of the fourteenth layer: papers.
-/
import Derived.Test.YtihhgingdgepcaaEvRefE
namespace Go.Proofs.Ytihhgingdgepcaa
open Go.RowKit
set_option linter.unusedVariables false

/-- What Bytes reads of a paper, and of a slip. -/
abbrev EntS (b1 : Nat) (id : List UInt8) (cls born slot : Int) (A : Option Addr) (n ca : Nat) (gone : Bool) (B : Option Addr) (m cb : Nat) (W : World) : Prop :=
  W.cell? ⟨b1, 0, none⟩ = some (.string (S id)) ∧ W.cell? ⟨b1, 1, none⟩ = some (.int .i64 cls) ∧ W.cell? ⟨b1, 2, none⟩ = some (.int .i64 born) ∧ W.cell? ⟨b1, 3, none⟩ = some (.int .i64 slot) ∧ W.cell? ⟨b1, 4, none⟩ = some (.slice A n ca) ∧ W.cell? ⟨b1, 5, none⟩ = some (.bool gone) ∧ W.cell? ⟨b1, 6, none⟩ = some (.slice B m cb)
abbrev SlpS (sb : Nat) (n p c : List UInt8) (e : Bool) (W : World) : Prop :=
  W.cell? ⟨sb, 0, none⟩ = some (.string (S n)) ∧ W.cell? ⟨sb, 1, none⟩ = some (.string (S p)) ∧ W.cell? ⟨sb, 2, none⟩ = some (.string (S c)) ∧ W.cell? ⟨sb, 3, none⟩ = some (.bool e)
theorem entHeld {w : World} {I : List UInt8} {C Bo Sl : Int} {A B : Option Addr} {n ca m cb : Nat} {G : Bool} :
    let cs : Array Value := #[.string (S I), .int .i64 C, .int .i64 Bo, .int .i64 Sl, .slice A n ca, .bool G, .slice B m cb]
    ∀ W1, Below (w.alloc (.cells cs 25)).heap.size (w.alloc (.cells cs 25)) W1 → EntS w.heap.size I C Bo Sl A n ca G B m cb W1 ∧ Below w.heap.size w W1 := by
  intro cs W1 hb
  have hh := Has.made w 25 cs
  have hlt : w.heap.size < (w.alloc (.cells cs 25)).heap.size := by rw [asize]; omega
  have h1 := hh.below hb hlt
  exact ⟨⟨h1.cell 0, h1.cell 1, h1.cell 2, h1.cell 3, h1.cell 4, h1.cell 5, h1.cell 6⟩, ((Below.refl _ w).alloc (Nat.le_refl _) _).trans (hb.mono (Nat.le_of_lt hlt))⟩
theorem slpHeld {w : World} {n p c : List UInt8} {e : Bool} :
    let cs : Array Value := #[.string (S n), .string (S p), .string (S c), .bool e]
    ∀ W1, Below (w.alloc (.cells cs 60)).heap.size (w.alloc (.cells cs 60)) W1 → SlpS w.heap.size n p c e W1 ∧ Below w.heap.size w W1 := by
  intro cs W1 hb
  have hh := Has.made w 60 cs
  have hlt : w.heap.size < (w.alloc (.cells cs 60)).heap.size := by rw [asize]; omega
  have h1 := hh.below hb hlt
  exact ⟨⟨h1.cell 0, h1.cell 1, h1.cell 2, h1.cell 3⟩, ((Below.refl _ w).alloc (Nat.le_refl _) _).trans (hb.mono (Nat.le_of_lt hlt))⟩
theorem etruthH (b : Bool) (w : World) : Calls Try.prog 32 #[.bool b] w fun e w' => e = .returned (.string (S (Ev.flg b))) ∧ Below w.heap.size w w' :=
  (etruth_any b w).mono fun r w' ⟨h, e⟩ => ⟨h, by rw [e]; exact Below.refl _ w⟩
theorem flat_next {α : Type} (f : α → List UInt8) (l : List α) (k : Nat) (hk : k < l.length) : (l.take (k + 1)).flatMap f = (l.take k).flatMap f ++ f (l[k]'hk) := by
  rw [List.take_succ_eq_append_getElem hk, List.flatMap_append, List.flatMap_singleton]
theorem flat_part {α : Type} (f : α → List UInt8) (l : List α) (k : Nat) : ((l.take k).flatMap f).length ≤ (l.flatMap f).length := by
  have h : l.flatMap f = (l.take k).flatMap f ++ (l.drop k).flatMap f := by rw [← List.flatMap_append, List.take_append_drop]
  rw [h, List.length_append]
  omega
set_option maxRecDepth 100000 in
set_option maxHeartbeats 16000000 in
theorem ebytes1_any {w : World} {v : Evt} {A B : Option Addr} {ca cb : Nat} (hin : EntIn w [] v.ent A ca B cb) (hv : Ev.right v = true) (hk : v.kind = 1) :
    Calls Try.prog 12 #[v.val A ca B cb] w fun r w' => r = .returned (.string (S (Ev.enc v))) ∧ Below w.heap.size w w' := by
  have hlen := Ev.enc_len hv
  rw [Ev.right1 hk, Ev.entR_iff] at hv
  rw [Ev.enc1 hk] at hlen ⊢
  unfold Evt.val
  obtain ⟨kind, ⟨id, cls, born, slot, L, gone, H⟩, seq, idx, name, size, root, now⟩ := v
  dsimp only at *
  subst hk
  obtain ⟨v1, v2, v3, v4, v5, v6, v7, -, v8, -⟩ := hv
  have v1l := (Pap.word_len v1).2
  have HB := Lib.hid ((Below.refl _ w).alloc (Nat.le_refl _) (.cells #[.int .i64 1, .string (S id), .int .i64 cls, .int .i64 born, .int .i64 slot, .slice A L.length ca, .bool gone, .slice B H.length cb, .int .i64 seq, .int .i64 idx, .string (S name), .int .i64 size, .string (S root), .int .i64 now] 29))
  have HN := Lib.hid (fun n W h => enumH n W h)
  have HX := Lib.hid (fun l W h => etextH l W h)
  have HG := Lib.hid (fun b W => etruthH b W)
  have g0 := numH_of (n := 1) (by omega) (by omega)
  have g1 := numH_of (n := cls) (by omega) (by omega)
  have g2 := numH_of (n := born) (by omega) (by omega)
  have g3 := numH_of (n := slot) (by omega) (by omega)
  have g4 := numH_of (n := (H.length : Int)) (by omega) (by omega)
  have g5 := numH_of (n := (L.length : Int)) (by omega) (by omega)
  have t1 := txtH_of (l := id) (by omega)
  have HTH : Hid (∀ x ∈ H, TxtH x) := Lib.hid (fun x hx => txtH_of (by have := (Pap.word_len (v7 x hx)).2; omega))
  have HTL : Hid (∀ x ∈ L, TxtH x.n ∧ TxtH x.p ∧ (x.e = false → TxtH x.c)) := Lib.hid (fun x hx => by
    have h := Ev.slipR_iff.1 (v8 x hx)
    exact ⟨txtH_of (by have := (Pap.word_len h.1).2; omega), txtH_of (by omega), fun he => txtH_of (by have := h.2.2.2 he; omega)⟩)
  have HSE : Hid (∀ s : Slp, Ev.encS s = Ev.txt s.n ++ Ev.txt s.p ++ Ev.flg s.e ++ if s.e then [] else Ev.txt s.c) := Lib.hid (fun s => rfl)
  generalize hE : M.encL 1 ++ Ev.encE ⟨id, cls, born, slot, L, gone, H⟩ = E at *
  unfold Ev.encE at hE
  dsimp only at hE
  clear v1 v2 v3 v4 v7 v8 v1l
  generalize Ev.encS = SE at *
  generalize M.encL = F at *
  generalize Ev.txt = T at *
  generalize Ev.flg = G at *
  have hl := hlen
  rw [← hE] at hl
  simp only [List.length_append] at hl
  have m1 : ¬ 9223372036854775807 < (F 1).length + (T id).length := by omega
  have m2 : ¬ 9223372036854775807 < (F 1).length + (T id).length + (F cls).length := by omega
  have m3 : ¬ 9223372036854775807 < (F 1).length + ((T id).length + (F cls).length) + (F born).length := by omega
  have m4 : ¬ 9223372036854775807 < (F 1).length + ((T id).length + ((F cls).length + (F born).length)) + (F slot).length := by omega
  have m5 : ¬ 9223372036854775807 < (F 1).length + ((T id).length + ((F cls).length + ((F born).length + (F slot).length))) + (G gone).length := by omega
  have m6 : ¬ 9223372036854775807 < (F 1).length + ((T id).length + ((F cls).length + ((F born).length + ((F slot).length + (G gone).length)))) + (F (H.length : Int)).length := by omega
  have HL := Lib.hid hl
  clear hl hlen
  have HE := Lib.hid hE
  clear hE
  have HIN0 := Lib.hid hin
  clear hin
  go_enter Try.func12, Try.ntmps12
  go_upto_region 1 with fail
  have hh := Has.made w 29 #[.int .i64 1, .string (S id), .int .i64 cls, .int .i64 born, .int .i64 slot, .slice A L.length ca, .bool gone, .slice B H.length cb, .int .i64 seq, .int .i64 idx, .string (S name), .int .i64 size, .string (S root), .int .i64 now]
  generalize w.alloc (.cells #[.int .i64 1, .string (S id), .int .i64 cls, .int .i64 born, .int .i64 slot, .slice A L.length ca, .bool gone, .slice B H.length cb, .int .i64 seq, .int .i64 idx, .string (S name), .int .i64 size, .string (S root), .int .i64 now] 29) = W0 at HB hh ⊢
  generalize w.heap.size = b0 at hh ⊢
  have y0 : W0.cell? ⟨b0, 0, none⟩ = some (.int .i64 1) := hh.cell 0
  go_wp2_with fail
  refine (HN.out _ _ g0).mono ?_
  rintro r w1 ⟨rfl, hb1⟩
  have h1 := hh.below hb1 hh.lt
  clear y0 hh
  have q0 : w1.cell? ⟨b0, 0, none⟩ = some (.int .i64 1) := h1.cell 0
  have q1 : w1.cell? ⟨b0, 1, none⟩ = some (.string (S id)) := h1.cell 1
  have q2 : w1.cell? ⟨b0, 2, none⟩ = some (.int .i64 cls) := h1.cell 2
  have q3 : w1.cell? ⟨b0, 3, none⟩ = some (.int .i64 born) := h1.cell 3
  have q4 : w1.cell? ⟨b0, 4, none⟩ = some (.int .i64 slot) := h1.cell 4
  have q5 : w1.cell? ⟨b0, 5, none⟩ = some (.slice A L.length ca) := h1.cell 5
  have q6 : w1.cell? ⟨b0, 6, none⟩ = some (.bool gone) := h1.cell 6
  have q7 : w1.cell? ⟨b0, 7, none⟩ = some (.slice B H.length cb) := h1.cell 7
  go_upto_region 6 with fail
  clear q0 q1 q2 q3 q4 q5 q6 q7 h1
  have HB1 : Hid (Below w.heap.size w w1) := Lib.hid (HB.out.trans (hb1.mono HB.out.size))
  clear HB hb1
  have HY := Lib.hid (entHeld (w := w1) (I := id) (C := cls) (Bo := born) (Sl := slot) (A := A) (n := L.length) (ca := ca) (G := gone) (B := B) (m := H.length) (cb := cb))
  dsimp only at HY
  have HIN : Hid (EntIn (w1.alloc (.cells #[.string (S id), .int .i64 cls, .int .i64 born, .int .i64 slot, .slice A L.length ca, .bool gone, .slice B H.length cb] 25)) [] ⟨id, cls, born, slot, L, gone, H⟩ A ca B cb) := Lib.hid (EntIn.at HIN0.out (HB1.out.alloc HB1.out.size _) (fun x hx => by cases hx))
  clear HIN0
  generalize w1.alloc (.cells #[.string (S id), .int .i64 cls, .int .i64 born, .int .i64 slot, .slice A L.length ca, .bool gone, .slice B H.length cb] 25) = W1 at HY HIN ⊢
  generalize hb1 : w1.heap.size = b1 at HY ⊢
  have HBK := Lib.hid (Below.refl W1.heap.size W1).drew
  have HWB : Hid (∀ W, Below W1.heap.size W1 W → Below w.heap.size w W) := Lib.hid (fun W hb => HB1.out.trans (((HY.out W hb).2).mono (by rw [← hb1]; exact HB1.out.size)))
  have hy := (HY.out _ HBK.out).1
  go_region_held3 (EntS b1 id cls born slot A L.length ca gone B H.length cb) (first | exact hy | go_keep) (first
    | (go_at_call 30; refine (HN.out _ _ (by assumption)).mono ?_; rintro r w2 ⟨rfl, hb1⟩; replace HBK := Lib.hid (HBK.out.trans (hb1.mono HBK.out.size)); clear hy hb1; have hy := (HY.out _ HBK.out).1)
    | (go_at_call 31; refine (HX.out _ _ (by assumption)).mono ?_; rintro r w2 ⟨rfl, hb1⟩; replace HBK := Lib.hid (HBK.out.trans (hb1.mono HBK.out.size)); clear hy hb1; have hy := (HY.out _ HBK.out).1)
    | (go_at_call 32; refine (HG.out _ _).mono ?_; rintro r w2 ⟨rfl, hb1⟩; replace HBK := Lib.hid (HBK.out.trans (hb1.mono HBK.out.size)); clear hy hb1; have hy := (HY.out _ HBK.out).1))
  clear m1 m2 m3 m4 m5 m6
  have HD : Hid (∀ X Y Z V : List UInt8, X = H.flatMap T → Y = F (L.length : Int) → Z = L.flatMap SE → V = F 1 ++ (T id ++ (F cls ++ (F born ++ (F slot ++ (G gone ++ F (H.length : Int)))))) → V ++ (X ++ (Y ++ Z)) = E ∧ V.length + X.length + Y.length + Z.length ≤ 3608) := Lib.hid (fun X Y Z V hX hY hZ hV => by
    subst hX hY hZ hV
    refine ⟨by rw [← HE.out]; simp only [List.append_assoc], ?_⟩
    have h := HL.out
    simp only [List.length_append]
    omega)
  generalize hhd : F 1 ++ (T id ++ (F cls ++ (F born ++ (F slot ++ (G gone ++ F (H.length : Int)))))) = hd at ⊢
  have HD2 : Hid (hd ++ (H.flatMap T ++ (F (L.length : Int) ++ L.flatMap SE)) = E ∧ hd.length + (H.flatMap T).length + (F (L.length : Int)).length + (L.flatMap SE).length ≤ 3608) := Lib.hid (HD.out _ _ _ _ rfl rfl rfl hhd.symm)
  clear hhd HD HE HL g0 g1 g2 g3 g4 t1
  obtain ⟨y0, y1, y2, y3, y4, y5, y6⟩ := hy
  go_wp2_with fail
  clear y0 y1 y2 y3 y4 y5 y6
  go_loopg [3, 5] H.length (fun n v3 v5 wr => ∃ k : Nat, k + n = H.length ∧ v5 = .int .i64 (k : Int) ∧ (∃ a : List UInt8, v3 = .string (S a) ∧ Hid (a = hd ++ (H.take k).flatMap T)) ∧ Hid (Below W1.heap.size W1 wr))
  case atStart => exact ⟨0, Nat.zero_add _, rfl, ⟨hd, rfl, Lib.hid (by simp)⟩, HBK⟩
  case round =>
    obtain ⟨k, hkn, rfl, ⟨a, rfl, HA⟩, HM⟩ := hrel
    have z6 : wr.cell? ⟨b1, 6, none⟩ = some (.slice B H.length cb) := (HY.out _ HM.out).1.2.2.2.2.2.2
    cases gk with
    | zero =>
      have hlt : ¬ (k : Int) < (H.length : Int) := by omega
      obtain rfl : k = H.length := by omega
      have z4 : wr.cell? ⟨b1, 4, none⟩ = some (.slice A L.length ca) := (HY.out _ HM.out).1.2.2.2.2.1
      have HA2 : Hid (a = hd ++ H.flatMap T) := Lib.hid (by rw [HA.out, List.take_length])
      have l1 : ¬ 9223372036854775807 < a.length + (F (L.length : Int)).length := by
        have h := HD2.out.2
        rw [HA2.out, List.length_append]
        omega
      clear hkn HA
      go_wp2_with fail
      refine (HN.out _ _ g5).mono ?_
      rintro r w3 ⟨rfl, hb3⟩
      replace HM := Lib.hid (HM.out.trans (hb3.mono HM.out.size))
      clear hb3 z4 z6
      have z4 : w3.cell? ⟨b1, 4, none⟩ = some (.slice A L.length ca) := (HY.out _ HM.out).1.2.2.2.2.1
      go_wp2_with fail
      have HD3 : Hid (∀ j, ((a ++ F (L.length : Int)) ++ (L.take j).flatMap SE).length ≤ 3608) := Lib.hid (fun j => by
        have h1 := flat_part SE L j
        have h2 := HD2.out.2
        rw [HA2.out]
        simp only [List.length_append]
        omega)
      have HEN : Hid ((a ++ F (L.length : Int)) ++ L.flatMap SE = E) := Lib.hid (by rw [HA2.out, ← HD2.out.1]; simp only [List.append_assoc])
      clear HD2 HA2 l1
      generalize a ++ F (L.length : Int) = ha at HD3 HEN ⊢
      generalize wr = wo at *
      go_loopg [3, 6] L.length (fun n v3 v6 wr => ∃ k : Nat, k + n = L.length ∧ v6 = .int .i64 (k : Int) ∧ (∃ a : List UInt8, v3 = .string (S a) ∧ Hid (a = ha ++ (L.take k).flatMap SE)) ∧ Hid (Below W1.heap.size W1 wr))
      case atStart => exact ⟨0, Nat.zero_add _, rfl, ⟨ha, rfl, Lib.hid (by simp)⟩, HM⟩
      case round =>
        clear HM z4
        obtain ⟨k, hkn, rfl, ⟨b, rfl, HA⟩, HM⟩ := hrel
        have z4 : wr.cell? ⟨b1, 4, none⟩ = some (.slice A L.length ca) := (HY.out _ HM.out).1.2.2.2.2.1
        cases gk with
        | zero =>
          have hlt : ¬ (k : Int) < (L.length : Int) := by omega
          obtain rfl : k = L.length := by omega
          have hb : b = E := by rw [HA.out, List.take_length, HEN.out]
          have HF := Lib.hid (HWB.out _ HM.out)
          clear hkn HA HM
          subst hb
          go_wp2_with fail
          go_ret
          exact ⟨rfl, HF.out⟩
        | succ n =>
          have hlt : (k : Int) < (L.length : Int) := by omega
          have hk : k < L.length := by omega
          have hinc : IntKind.i64.wrap ((k : Int) + 1) = (k : Int) + 1 := by
            have h1 := HIN.out.ma
            have h2 := HIN.out.la
            dsimp only at h2
            rw [IntKind.wrap_i64]
            omega
          have hkc : (k : Int) < (ca : Int) := by have := HIN.out.la; dsimp only at this; omega
          have hk0 : (0 : Int) ≤ (k : Int) := by omega
          obtain ⟨bl, ol, hA, hblt, -, p0, p1, p2, p3⟩ := RowP.get (HIN.out.rl.below HM.out) k hk
          obtain ⟨t1, t2, t3⟩ := HTL.out _ (List.getElem_mem hk)
          have HA3 : Hid (b ++ SE (L[k]'hk) = ha ++ (L.take (k + 1)).flatMap SE ∧ (b ++ SE (L[k]'hk)).length ≤ 3608) := Lib.hid (by
            have h1 : b ++ SE (L[k]'hk) = ha ++ (L.take (k + 1)).flatMap SE := by rw [HA.out, flat_next SE L k hk, List.append_assoc]
            exact ⟨h1, by rw [h1]; exact HD3.out (k + 1)⟩)
          dsimp only at p0 p1 p2 p3
          subst hA
          have HSX := Lib.hid (HSE.out (L[k]'hk))
          generalize L[k]'hk = s at p0 p1 p2 p3 t1 t2 t3 HA3 HSX
          obtain ⟨sn, sp, sc, se⟩ := s
          dsimp only at p0 p1 p2 p3 t1 t2 t3 HA3 HSX
          have HN' := Lib.hid hkn
          have hl := HA3.out.2
          rw [HSX.out] at hl
          simp only [List.length_append] at hl
          have m1 : ¬ 9223372036854775807 < b.length + (T sn).length := by omega
          have m2 : ¬ 9223372036854775807 < b.length + (T sn).length + (T sp).length := by omega
          have m3 : ¬ 9223372036854775807 < b.length + ((T sn).length + (T sp).length) + (G se).length := by omega
          have HLL := Lib.hid hl
          have HT3 := Lib.hid t3
          clear hkn HA hl hblt t3
          go_upto_region 16 with fail
          have HYS := Lib.hid (slpHeld (w := wr) (n := sn) (p := sp) (c := sc) (e := se))
          dsimp only at HYS
          clear p0 p1 p2 p3 z4
          generalize wr.alloc (.cells #[.string (S sn), .string (S sp), .string (S sc), .bool se] 60) = W2 at HYS ⊢
          generalize hsb : wr.heap.size = sb at HYS ⊢
          have HB2 := Lib.hid (Below.refl W2.heap.size W2).drew
          have HWB2 : Hid (∀ W, Below W2.heap.size W2 W → Below W1.heap.size W1 W) := Lib.hid (fun W hb => HM.out.trans (((HYS.out W hb).2).mono (by rw [← hsb]; exact HM.out.size)))
          have hy := (HYS.out _ HB2.out).1
          clear HM
          go_region_held3 (SlpS sb sn sp sc se) (first | exact hy | go_keep) (first
            | (go_at_call 31; refine (HX.out _ _ (by assumption)).mono ?_; rintro r w4 ⟨rfl, hb4⟩; replace HB2 := Lib.hid (HB2.out.trans (hb4.mono HB2.out.size)); clear hy hb4; have hy := (HYS.out _ HB2.out).1)
            | (go_at_call 32; refine (HG.out _ _).mono ?_; rintro r w4 ⟨rfl, hb4⟩; replace HB2 := Lib.hid (HB2.out.trans (hb4.mono HB2.out.size)); clear hy hb4; have hy := (HYS.out _ HB2.out).1))
          all_goals
            obtain ⟨s0, s1, s2, s3⟩ := hy
            clear m1 m2 m3
            cases se with
            | true =>
              have HM := Lib.hid (HWB2.out _ HB2.out)
              have HQ : Hid (b ++ (T sn ++ (T sp ++ G true)) = ha ++ (L.take (k + 1)).flatMap SE) := Lib.hid (by rw [← HA3.out.1, HSX.out]; simp)
              generalize b ++ (T sn ++ (T sp ++ G true)) = bb at HQ ⊢
              go_wp2_with fail
              go_roundg n
              case measure => omega
              case rel => exact ⟨k + 1, by have := HN'.out; omega, by go_num, ⟨bb, rfl, HQ⟩, HM⟩
            | false =>
              have HQ : Hid (b ++ (T sn ++ (T sp ++ G false)) ++ T sc = ha ++ (L.take (k + 1)).flatMap SE ∧ (b ++ (T sn ++ (T sp ++ G false))).length + (T sc).length ≤ 3608) := Lib.hid ⟨by rw [← HA3.out.1, HSX.out]; simp, by
                have h := HLL.out
                rw [if_neg (by decide)] at h
                simp only [List.length_append]
                omega⟩
              generalize b ++ (T sn ++ (T sp ++ G false)) = bb at HQ ⊢
              have l1 : ¬ 9223372036854775807 < bb.length + (T sc).length := by have := HQ.out.2; omega
              have t3 := HT3.out rfl
              go_wp2_with fail
              refine (HX.out _ _ t3).mono ?_
              rintro r w5 ⟨rfl, hb5⟩
              replace HB2 := Lib.hid (HB2.out.trans (hb5.mono HB2.out.size))
              have HM := Lib.hid (HWB2.out _ HB2.out)
              clear hb5 s0 s1 s2 s3
              go_wp2_with fail
              go_roundg n
              case measure => omega
              case rel => exact ⟨k + 1, by have := HN'.out; omega, by go_num, ⟨bb ++ T sc, rfl, Lib.hid HQ.out.1⟩, HM⟩
    | succ n =>
      have hlt : (k : Int) < (H.length : Int) := by omega
      have hk : k < H.length := by omega
      have hinc : IntKind.i64.wrap ((k : Int) + 1) = (k : Int) + 1 := by
        have h1 := HIN.out.mb
        have h2 := HIN.out.lb
        dsimp only at h2
        rw [IntKind.wrap_i64]
        omega
      have hkc : (k : Int) < (cb : Int) := by have := HIN.out.lb; dsimp only at this; omega
      have hk0 : (0 : Int) ≤ (k : Int) := by omega
      obtain ⟨bh, oh, hB, -, -, hck⟩ := RowT.get (HIN.out.rh.below HM.out) k hk
      have hx := HTH.out _ (List.getElem_mem hk)
      have HA3 : Hid (a ++ T (H[k]'hk) = hd ++ (H.take (k + 1)).flatMap T ∧ a.length + (T (H[k]'hk)).length ≤ 3608) := Lib.hid (by
        have h1 : a ++ T (H[k]'hk) = hd ++ (H.take (k + 1)).flatMap T := by rw [HA.out, flat_next T H k hk, List.append_assoc]
        refine ⟨h1, ?_⟩
        have h2 := congrArg List.length h1
        rw [List.length_append, List.length_append] at h2
        have h3 := flat_part T H (k + 1)
        have h4 := HD2.out.2
        omega)
      dsimp only at hck
      subst hB
      generalize H[k]'hk = x at hck hx HA3
      have l1 : ¬ 9223372036854775807 < a.length + (T x).length := by have := HA3.out.2; omega
      have HN' := Lib.hid hkn
      clear hkn HA
      go_wp2_with fail
      refine (HX.out _ _ hx).mono ?_
      rintro r w3 ⟨rfl, hb3⟩
      replace HM := Lib.hid (HM.out.trans (hb3.mono HM.out.size))
      clear hb3 z6 hck
      go_wp2_with fail
      go_roundg n
      case measure => omega
      case rel => exact ⟨k + 1, by have := HN'.out; omega, by go_num, ⟨a ++ T x, rfl, Lib.hid HA3.out.1⟩, HM⟩
/-- The reference's bytes of an event that may be. -/
theorem ebytesV_any {w : World} {v : Evt} {A B : Option Addr} {ca cb : Nat} (hin : EntIn w [] v.ent A ca B cb) (hv : Ev.right v = true) :
    Calls Try.prog 12 #[v.val A ca B cb] w fun r w' => r = .returned (.string (S (Ev.enc v))) ∧ Below w.heap.size w w' := by
  rcases Ev.kinds v with h | h | h | h | h | h | h
  · exact ebytes1_any hin hv h
  · exact ebytes2_any hv h
  · exact ebytes3_any hv h
  · rcases h with h | h
    · exact ebytes4_any hv h
    · exact ebytes5_any hv h
  · exact ebytes6_any hv h
  · exact ebytes7_any hv h
  · rw [Ev.right0 h] at hv; cases hv
end Go.Proofs.Ytihhgingdgepcaa
