/-
  The contract of MillFull.
-/
import Derived.Test.YtjajlofcpfgjhaaDoorMillWith
import Derived.Test.YtjajlofcpfgjhaaDoorMillAwake
import Derived.Test.YtjajlofcpfgjhaaDoorMillFullSpec
namespace Go.Proofs.YtjajlofcpfgjhaaDoor
open Go.ChangeShapes Go.WideShapes Go.ChangeAt Go.RowKit
set_option linter.unusedVariables false

/-- Three bytes in a block of their own, turned into a text. -/
theorem conv_three {P : Program} {src e dst : Nat} (hs : P.underlying src = some (.slice e)) (he : P.underlying e = some (.int .u8)) (hd : P.underlying dst = some .string) (W : World) (c0 c1 c2 : Int) :
    (convert src dst (.slice (some ⟨W.heap.size, 0, none⟩) 3 3)).run P (W.alloc (.cells #[.int .u8 c0, .int .u8 c1, .int .u8 c2] e)) = .ok (.string (S [UInt8.ofNat c0.toNat, UInt8.ofNat c1.toNat, UInt8.ofNat c2.toNat])) (W.alloc (.cells #[.int .u8 c0, .int .u8 c1, .int .u8 c2] e)) := by
  have h := run_convert_bytes_arg (P := P) (W.alloc (.cells #[.int .u8 c0, .int .u8 c1, .int .u8 c2] e)) src e hs he W.heap.size 0 3 3 [c0, c1, c2] rfl (fun i hi => by
    rw [(Has.made W e #[.int .u8 c0, .int .u8 c1, .int .u8 c2]).cell]
    match i, hi with
    | 0, _ => rfl
    | 1, _ => rfl
    | 2, _ => rfl) dst hd
  exact h
theorem twin_ents {w : World} {b : Nat} {s0 : List UInt8} (h : Has w b 46 #[.bool false, .string (S []), .string (S Mill.twin), .string (S s0)]) : Ents w (some ⟨b, 0, none⟩) [Mill.twinE s0] := fun _ => by
  refine ⟨b, 0, rfl, fun i hi => ?_⟩
  obtain rfl : i = 0 := by simpa using hi
  exact ⟨h.cell 0, h.cell 1, h.cell 2, h.cell 3⟩

set_option maxRecDepth 100000 in
set_option maxHeartbeats 4000000 in
theorem millFull_any (more : Int) (w : World) (hT : Tabs w) :
    Calls Tryd.prog 7 #[.int .i64 more] w fun e w' => e = .returned (.bool true) ∧ Below w.heap.size w w' := by
  by_cases hm : more < -10 ∨ 10 < more
  · have HT := Lib.hid hT; clear hT
    rcases hm with hm | hm
    · go_enter Tryd.func7, Tryd.ntmps7
      go_wp2_with fail
      refine (awakeMill_any _ HT.out).mono ?_
      rintro r1 w1 ⟨rfl, hb1⟩
      go_wp2_with fail
      go_ret
      exact ⟨rfl, hb1⟩
    · have hm0 : ¬ more < -10 := by omega
      go_enter Tryd.func7, Tryd.ntmps7
      go_wp2_with fail
      refine (awakeMill_any _ HT.out).mono ?_
      rintro r1 w1 ⟨rfl, hb1⟩
      go_wp2_with fail
      go_ret
      exact ⟨rfl, hb1⟩
  · have hm1 : ¬ more < -10 := by omega
    have hm2 : ¬ 10 < more := by omega
    obtain ⟨n, hn⟩ : ∃ n : Nat, (n : Int) = 20000 + more := ⟨(20000 + more).toNat, by omega⟩
    have hn0 : 0 < n := by omega
    have hn1 : n ≤ 30000 := by omega
    have hmn : (0 < more) ↔ 20000 < n := by omega
    have hS := sum_any [0, 0, 0] w (by decide) hT
    have hend := Mill.full_end n hn0 hn1
    have hsl := Sha.sum_len [0, 0, 0]
    have hz : ∀ W, (zeroValue 46).run Tryd.prog W = .ok (.agg #[.bool false, .string (S []), .string (S []), .string (S [])]) W := fun W => by kernel_rfl
    obtain ⟨s0, hs0⟩ : ∃ x, Sha.sum [0, 0, 0] = x := ⟨_, rfl⟩
    rw [hs0] at hS hend hsl
    have hr : Mill.right [Mill.twinE s0] = true := by simp [Mill.right, Mill.twinE, hsl]
    have hfit : Mill.fit [Mill.twinE s0] := fun e he => by
      obtain rfl : e = Mill.twinE s0 := by simpa using he
      exact ⟨Nat.zero_le _, (show 4 ≤ _ by decide)⟩
    have HWITH : Hid (∀ W b, Tabs W → Has W b 46 #[.bool false, .string (S []), .string (S Mill.twin), .string (S s0)] → Calls Tryd.prog 13 #[.slice (some ⟨b, 0, none⟩) 1 1] W (WithPost W [Mill.twinE s0])) :=
      fun W b hTW hh => with_any (some ⟨b, 0, none⟩) [Mill.twinE s0] 1 (show 1 ≤ 1000000 by decide) hfit W (twin_ents hh) hTW
    have HS := Lib.hid hS
    have HR := Lib.hid hr
    have HEND := Lib.hid hend
    have HT := Lib.hid hT
    have HN := Lib.hid (And.intro hn0 (And.intro hn1 hmn))
    clear hS hr hend hT hs0 hsl hfit hn0 hn1 hmn hm
    go_enter Tryd.func7, Tryd.ntmps7
    go_wp2_with fail
    refine HS.out.mono ?_
    rintro r1 w1 ⟨rfl, hb1⟩
    go_wp2_with fail
    generalize hW : World.alloc w1 _ = W
    have hb2 : Below w.heap.size w W := by rw [← hW]; exact hb1.alloc hb1.size _
    have hh2 : Has W w1.heap.size 46 #[.bool false, .string (S []), .string (S Mill.twin), .string (S s0)] := by rw [← hW]; exact Has.made _ _ _
    clear hW
    refine (HWITH.out W w1.heap.size (HT.out.below hb2 HT.out.2.2) hh2).mono ?_
    clear hh2
    rintro r2 w2 ⟨hb3, ⟨_, rfl, hm2⟩ | ⟨hr, _⟩⟩
    · have hb3' := hb2.trans (hb3.mono hb2.size)
      have hg2 : w.heap.size ≤ W.heap.size := hb2.size
      clear hb2 hb3 hb1
      generalize W.heap.size = G at hm2 hg2 ⊢
      go_wp2_with fail
      go_loopw [6] (fun v6 wr => ∃ k : Nat, k ≤ n ∧ v6 = .int .i64 k ∧ MillAt wr (G + 1) G [Mill.twinE s0] (Mill.stk s0 k) ∧ Below w.heap.size w wr) (fun v6 _ => n - (intOf v6).toNat)
      case atStart => exact ⟨0, Nat.zero_le _, rfl, hm2, hb3'⟩
      case round =>
        clear hm2 hb3'
        obtain ⟨k, hk, rfl, hmk, hbk⟩ := hrel
        by_cases hlt : k < n
        · have hk0 : (0 : Int) ≤ (k : Int) := by omega
          have hki : (k : Int) < 20000 + more := by omega
          have hkm : (k : Int) ≤ 30000 := by have := HN.out; omega
          have hcv := conv_three (P := Tryd.prog) Tryd.underlying41 Tryd.underlying5 Tryd.underlying9 wr
          have ht3 : [UInt8.ofNat (k / 65536), UInt8.ofNat (k / 256), UInt8.ofNat (k % 256)] = Mill.t3 k := by
            unfold Mill.t3
            have e : UInt8.ofNat (k % 256) = UInt8.ofNat k := by apply UInt8.toNat_inj.1; simp
            rw [e]
          have HT3 := Lib.hid ht3; clear ht3
          go_wp2_with fail
          rw [HT3.out]
          generalize hW4 : World.alloc wr _ = W4
          have hb4 : Below wr.heap.size wr W4 := by rw [← hW4]; exact (Below.refl _ _).alloc (Nat.le_refl _) _
          clear hW4 hcv
          have hbw := hbk.trans (hb4.mono hbk.size)
          refine (millSum_any (Mill.t3 k) _ _ _ _ W4 (hmk.below hb4) (show 3 ≤ _ by decide) (by rw [Mill.stk_sums]; omega) HR.out (HT.out.below hbw HT.out.2.2) (by have := HT.out.2.2; omega)).mono ?_
          rintro r3 w3 ⟨rfl, hm3, hmv3⟩
          have HM3 := Lib.hid (And.intro hm3 (hmv3.below hbw hbw.size (by simp; omega)))
          clear hm3 hmv3 hbw hb4
          go_wp2_with fail
          go_roundw
          case rel => exact ⟨k + 1, by omega, by go_num, HM3.out.1, HM3.out.2⟩
          case measure => simp [intOf]; omega
        · have hke : k = n := by omega
          have hki : ¬ (k : Int) < 20000 + more := by omega
          have hcs := HEND.out
          rw [hke] at hmk
          have hsm := Mill.stk_sums s0 n
          generalize Mill.stk s0 n = st at hmk hcs hsm
          have hnn := HN.out
          clear hke hlt hk hn
          go_wp2_with fail
          refine (twins_any _ _ _ _ wr hmk).mono ?_
          rintro r3 w3 ⟨rfl, hb3⟩
          have hm3 := hmk.below hb3
          have hbk3 := hbk.trans (hb3.mono hbk.size)
          clear hmk hbk hb3
          go_wp2_with fail
          refine (full_any _ _ _ _ w3 hm3).mono ?_
          rintro r4 w4 ⟨rfl, rfl⟩
          go_wp2_with fail
          refine (millSum_any Mill.twin _ _ _ _ w3 hm3 (show 4 ≤ _ by decide) (by rw [hsm]; omega) HR.out (HT.out.below hbk3 HT.out.2.2) (by have := HT.out.2.2; omega)).mono ?_
          rintro r5 w5 ⟨rfl, hm5, hmv5⟩
          have hbk5 := hmv5.below hbk3 hbk3.size (by simp; omega)
          clear hm3 hmv5 hbk3
          generalize Mill.step [Mill.twinE s0] Mill.twin st = st5 at hm5 hcs
          go_wp2_with fail
          refine (twins_any _ _ _ _ w5 hm5).mono ?_
          rintro r6 w6 ⟨rfl, hb6⟩
          have hbk6 := hbk5.trans (hb6.mono hbk5.size)
          clear hm5 hbk5 hb6
          go_wp2_with fail
          refine (awakeMill_any _ (HT.out.below hbk6 HT.out.2.2)).mono ?_
          rintro r7 w7 ⟨rfl, hb7⟩
          have HB7 := Lib.hid (hbk6.trans (hb7.mono hbk6.size))
          clear hbk6 hb7
          cases hmet : st.met with
          | true =>
            go_wp2_with fail
            go_ret
            exact ⟨rfl, HB7.out⟩
          | false =>
            obtain ⟨hf, ha, hb, hmm⟩ := hcs hmet
            rw [hf, ha, hb, hmm]
            by_cases h0 : 0 < more
            · have h20 : 20000 < n := hnn.2.2.1 h0
              simp only [h20, decide_true]
              clear hf ha hb hmm hnn hcs h20
              go_wp2_with fail
              go_ret
              exact ⟨rfl, HB7.out⟩
            · have h20 : ¬ 20000 < n := fun h => h0 (hnn.2.2.2 h)
              simp only [h20, decide_false]
              clear hf ha hb hmm hnn hcs h20
              go_wp2_with fail
              go_ret
              exact ⟨rfl, HB7.out⟩
    · rw [HR.out] at hr; cases hr

set_option maxRecDepth 100000 in
theorem millFull_contract {H : Type} (enc : TypeId × Value → H) (W : World) (base : Nat) (args : Array Value) (ds gs : List (DataW H)) (before : List MemPlace)
    (hval : ∀ (j : Nat) t v, Tryd.f7.params[j]? = some t → args[j]? = some v → Value.okWide Tryd.prog W .any base t v)
    (hW : DataW.Whole enc Tryd.prog Tryd.f7.params.toList Rows.millFullSpec.vars false W args.toList ds gs before)
    (hsz : (DataW.weightsEach Tryd.prog (Tryd.f7.params.toList ++ Rows.millFullSpec.plain.varTypes Tryd.prog) (ds ++ gs)).all (· ≤ reachBytes) = true) (hT : Tabs W) :
    Calls Tryd.prog 7 args W fun e W' =>
      ((Rows.millFullSpec.fn H (ds ++ gs)).results = [.lit (.bool true)] ∧ (Rows.millFullSpec.fn H (ds ++ gs)).args = ds ∧ (Rows.millFullSpec.fn H (ds ++ gs)).vars = []) ∧ e = .returned (.bool true) ∧ Below W.heap.size W W' := by
  obtain ⟨p, q, hA0, hV, rfl, hfz, hnd⟩ := hW
  have hA : DataW.TrodAll enc Tryd.prog W 0 (fun _ => true) true Tryd.f7.params.toList args.toList ds p := hA0
  rw [Tryd.params7] at hA hval hsz
  obtain ⟨v0, d0, rfl, rfl, h0⟩ := trodAll_one hA
  obtain ⟨rfl, rfl⟩ := trodVars_none hV
  obtain ⟨more, rfl, rfl, rfl, bd_more⟩ := open_int Tryd.underlying3 (hval 0 3 v0 rfl rfl) h0
  exact (millFull_any more W hT).mono fun e W' h => ⟨⟨rfl, rfl, rfl⟩, h⟩
end Go.Proofs.YtjajlofcpfgjhaaDoor
