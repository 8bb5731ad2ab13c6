/-
  The contract of MillStreams.
-/
import Derived.Test.YtjajlofcpfgjhaaDoorMillVeil
import Derived.Test.YtjajlofcpfgjhaaDoorMillTags
import Derived.Test.YtjajlofcpfgjhaaDoorMillSums
namespace Go.Proofs.YtjajlofcpfgjhaaDoor
open Go.ChangeShapes Go.WideShapes Go.ChangeAt Go.RowKit
open Go.ChangeMaps (open_string shut_string)
set_option linter.unusedVariables false

theorem Mill.stream_len (l : List Mill.En) (hr : Mill.right l = true) (k label : List UInt8) (n : Nat) : (Mill.stream l k label n).length = n := by
  unfold Mill.stream
  rw [List.length_take, Mill.tags_len l hr]; omega
theorem stream_all (k label : List UInt8) (n : Nat) (g nb : Nat) (l : List Mill.En) (st : Mill.St) (w : World) (h : MillAt w g nb l st) (hr : Mill.right l = true) (hk : k.length ≤ 5000000000000000) (hlab : label.length ≤ 1000000000000000) (hn2 : n ≤ 1000000) (hT : Tabs w) :
    Calls Tryd.prog 24 #[.pointer (some ⟨g, 0, none⟩), .string (S k), .string (S label), .int .i64 (n : Int)] w (TextPost w (Mill.stream l k label n)) := by
  rcases Nat.eq_zero_or_pos n with h0 | h0
  · subst h0
    obtain ⟨tv, hc, _⟩ := h
    refine (stream_none g (S k) (S label) 0 (by decide) w (hc.cell 8)).mono ?_
    rintro e w' ⟨rfl, rfl⟩
    exact ⟨rfl, Below.refl _ _⟩
  · exact stream_any k label n g nb l st w h hr hk hlab h0 hn2 hT
theorem veil_any (k label s : List UInt8) (g nb : Nat) (l : List Mill.En) (st : Mill.St) (w : World) (h : MillAt w g nb l st) (hr : Mill.right l = true) (hk : k.length ≤ 5000000000000000) (hlab : label.length ≤ 1000000000000000) (hs : s.length ≤ 1000000) (hT : Tabs w) :
    Calls Tryd.prog 23 #[.pointer (some ⟨g, 0, none⟩), .string (S k), .string (S label), .string (S s)] w (TextPost w (Mill.veil (Mill.stream l k label s.length) s)) :=
  veil_of _ k label s g w hs (Mill.stream_len l hr k label _) (stream_all k label s.length g nb l st w h hr hk hlab hs hT)

set_option maxRecDepth 100000 in
set_option maxHeartbeats 8000000 in
/-- With a mill, and a text that is cut. -/
theorem millStreams_good0 (A : Option Addr) (l : List Mill.En) (cap : Nat) (hlc : l.length ≤ cap) (hcm : cap ≤ maxLen) (hfit : Mill.fit l) (k label s0 s : List UInt8) (hk : k.length ≤ 1000000000000000) (hlab : label.length ≤ 1000000000000000) (hs0 : s0.length ≤ 1000000000000000)
    (hs : s = s0.take 300) (w : World) (hE : Ents w A l) (hT : Tabs w) (m : List Mill.En)
    (hl10 : m.length ≤ 10) (hF : Calls Tryd.prog 12 #[.slice A l.length cap] w (fun e w' => e = .returned (.slice A m.length cap) ∧ w = w')) (hfit10 : Mill.fit m) (hE10 : Ents w A m) (hr : Mill.right m = true) (hbig : ¬ 300 < s0.length) :
    Calls Tryd.prog 6 #[.slice A l.length cap, .string (S k), .string (S label), .string (S s0)] w fun e w' => e = .returned (.bool true) ∧ Below w.heap.size w w' := by
  have hsl : s.length ≤ 300 := by rw [hs, List.length_take]; omega
  have HF := Lib.hid hF
  have HW := Lib.hid (with_any A m cap (by omega) hfit10 w hE10 hT)
  obtain ⟨X, hX⟩ : ∃ X, Mill.stream m k label s.length = X := ⟨_, rfl⟩
  have hXl : X.length = s.length := by rw [← hX]; exact Mill.stream_len m hr k label _
  have htl := Mill.tags_len m hr k label
  have hts := Mill.tags_succ m k label
  obtain ⟨N, hN⟩ : ∃ N, (s.length + 31) / 32 = N := ⟨_, rfl⟩
  have hXN : (Mill.tags m k label N).take s.length = X := by rw [← hX, ← hN]; rfl
  have ht0 : Mill.tags m k label 0 = [] := rfl
  have HG : Hid (∀ W i, Below w.heap.size w W → i < 70000 → Calls Tryd.prog 22 #[.slice A m.length cap, .string (S k), .string (S (Mill.lab label i))] W (TextPost W (Mill.tag m k (Mill.lab label i)))) := fun W i hb hi =>
    lawTag_any A m cap k (Mill.lab label i) (by omega) hfit10 hk (by unfold Mill.lab; rw [List.length_append]; simp; omega) W (hE10.below hb) (hT.below hb hT.2.2)
  have htg : ∀ i, (Mill.tag m k (Mill.lab label i)).length = 32 := fun i => Mill.tag_len m hr k _
  have HST : Hid (∀ W, MillAt W (w.heap.size + 1) w.heap.size m Mill.fresh → Below w.heap.size w W → Calls Tryd.prog 24 #[.pointer (some ⟨w.heap.size + 1, 0, none⟩), .string (S k), .string (S label), .int .i64 (s.length : Int)] W (TextPost W X)) := fun W h hb => by
    rw [← hX]; exact stream_all k label _ _ _ _ _ W h hr (by omega) hlab (by omega) (hT.below hb hT.2.2)
  have HV1 : Hid (∀ W, MillAt W (w.heap.size + 1) w.heap.size m Mill.fresh → Below w.heap.size w W → Calls Tryd.prog 23 #[.pointer (some ⟨w.heap.size + 1, 0, none⟩), .string (S k), .string (S label), .string (S s)] W (TextPost W (Mill.veil X s))) := fun W h hb => by
    rw [← hX]; exact veil_any k label s _ _ _ _ W h hr (by omega) hlab (by omega) (hT.below hb hT.2.2)
  have HV2 : Hid (∀ W, MillAt W (w.heap.size + 1) w.heap.size m Mill.fresh → Below w.heap.size w W → Calls Tryd.prog 23 #[.pointer (some ⟨w.heap.size + 1, 0, none⟩), .string (S k), .string (S label), .string (S (Mill.veil X s))] W (TextPost W s)) := fun W h hb => by
    have hvl := Mill.veil_len X s hXl
    have := veil_any k label (Mill.veil X s) _ _ _ _ W h hr (by omega) hlab (by omega) (hT.below hb hT.2.2)
    rw [hvl, hX, Mill.veil_twice X s hXl] at this
    exact this
  have hall := veilI_all s X hXl.symm
  rw [hXl, Mill.veil_comm s X] at hall
  have hcv := fun W => conv_bytes (P := Tryd.prog) Tryd.underlying9 Tryd.underlying41 Tryd.underlying5 W s
  obtain ⟨vs, hvs⟩ : ∃ v, Mill.veil X s = v := ⟨_, rfl⟩
  have hvsl : vs.length = s.length := by rw [← hvs]; exact Mill.veil_len X s hXl
  rw [hvs] at HV1 HV2 hall
  obtain ⟨tg, htgE⟩ : ∃ f, f = fun i => Mill.tag m k (Mill.lab label i) := ⟨_, rfl⟩
  have hts2 : ∀ i, Mill.tags m k label (i + 1) = Mill.tags m k label i ++ tg i := fun i => by rw [hts i, htgE]
  have htg2 : ∀ i, (tg i).length = 32 := fun i => by rw [htgE]; exact htg i
  have HG2 : Hid (∀ W i, Below w.heap.size w W → i < 70000 → Calls Tryd.prog 22 #[.slice A m.length cap, .string (S k), .string (S (Mill.lab label i))] W (TextPost W (tg i))) := by rw [htgE]; exact HG
  generalize Mill.tags m k label = ts at htl hts2 ht0 hXN
  have HTS := Lib.hid (And.intro hts2 (And.intro htl (And.intro htg2 (show 32 * N < s.length + 32 ∧ s.length ≤ 32 * N by omega))))
  have HX := Lib.hid (And.intro hXN (And.intro hXl (And.intro hall hvsl)))
  have HT0 := Lib.hid ht0
  have HT := Lib.hid hT
  have HSL := Lib.hid (And.intro hsl (And.intro hlab hs0))
  clear HG htg hts htgE htg2 hts2 ht0 hN hX hXN hXl htl hE10 hfit10 hcm hlc hfit hF hE hT hk hvs hall hvsl hl10
  have HRR := Lib.hid hr; clear hr
  have HCV := Lib.hid hcv; clear hcv
  have hbig1 : ¬ (300 : Int) < (s0.length : Int) := by omega
  have hss : s = s0 := by rw [hs, List.take_of_length_le (by omega)]
  have HSS := Lib.hid hs; clear hs hbig
  subst hss
  go_enter Tryd.func6, Tryd.ntmps6
  go_wp2_with fail
  refine HF.out.mono ?_
  rintro r1 w1 ⟨rfl, rfl⟩
  go_wp2_with fail
  refine HW.out.mono ?_
  rintro r2 w2 ⟨hb2, ⟨_, rfl, hm2⟩ | ⟨hr, rfl⟩⟩
  · have h2 := hb2.size
    go_wp2_with fail
    go_loopw [11, 12] (fun v11 v12 wr => ∃ i : Nat, i ≤ N ∧ v12 = .int .i64 i ∧ v11 = .string (S (ts i)) ∧ Below w2.heap.size w2 wr) (fun _ v12 _ => N - (intOf v12).toNat)
    case atStart => exact ⟨0, Nat.zero_le _, rfl, by rw [HT0.out]; rfl, Below.refl _ _⟩
    case round =>
      obtain ⟨i, hi, rfl, rfl, hbr⟩ := hrel
      have hN1 := HTS.out.2.2.2
      have hsl := HSL.out.1
      have htl := HTS.out.2.1 i
      have hi0 : (0 : Int) ≤ (i : Int) := by omega
      have hi6 : (i : Int) < 65536 := by omega
      by_cases hlt : i < N
      · have hbl : ((ts i).length : Int) < (s.length : Int) := by rw [htl]; omega
        have hq : ¬ 9223372036854775807 < label.length + 2 := by have := HSL.out; omega
        have hq2 : ¬ 9223372036854775807 < (ts i).length + (tg i).length := by rw [htl, HTS.out.2.2.1]; omega
        have hcv := conv_two (P := Tryd.prog) Tryd.underlying41 Tryd.underlying5 Tryd.underlying9 wr
        have HLAB : Hid (label ++ [UInt8.ofNat (i / 256), UInt8.ofNat (i % 256)] = Mill.lab label i) := by
          unfold Mill.lab
          have e : UInt8.ofNat (i % 256) = UInt8.ofNat i := by apply UInt8.toNat_inj.1; simp
          show label ++ [UInt8.ofNat (i / 256), UInt8.ofNat (i % 256)] = _
          rw [e]
        have HII := Lib.hid (And.intro hi (And.intro hlt (And.intro hN1 hsl)))
        clear htl hN1 hsl hi hlt
        go_wp2_with fail
        rw [HLAB.out]
        generalize hW4 : World.alloc wr _ = W4
        have hb4 : Below wr.heap.size wr W4 := by rw [← hW4]; exact (Below.refl _ _).alloc (Nat.le_refl _) _
        clear hW4 hcv
        have hb04 := hbr.trans (hb4.mono hbr.size)
        refine (HG2.out W4 i (hb2.trans (hb04.mono h2)) (by have := HII.out; omega)).mono ?_
        rintro r5 w5 ⟨rfl, hb5⟩
        have hb05 := hb04.trans (hb5.mono hb04.size)
        have HE : Hid (ts i ++ tg i = ts (i + 1)) := (HTS.out.1 i).symm
        clear hb4 hb04 hb5 hbr
        go_wp2_with fail
        go_roundw
        case rel => exact ⟨i + 1, by have := HII.out; omega, by go_num, by rw [HE.out], hb05⟩
        case measure => have := HII.out; simp [intOf]; omega
      · have hie : i = N := by omega
        subst hie
        have hbl : ¬ ((ts i).length : Int) < (s.length : Int) := by rw [htl]; omega
        have hle : (s.length : Int) ≤ ((ts i).length : Int) := by rw [htl]; omega
        have hbw := hb2.trans (hbr.mono h2)
        have hm3 := hm2.below hbr
        have HXT := Lib.hid HX.out.1
        clear htl hN1 hlt hi hm2 hbr hi6
        go_upto_region 13 with (fail)
        rw [HXT.out]
        have hcv := HCV.out wr
        go_upto_region 14 with (fail)
        have hbw2 := bworld_below wr 5 s
        have hfr := Fr.made wr s
        have h0 : veilI s X 0 = s := by simp [veilI]
        generalize bworld wr 5 s = W at hbw2 hfr ⊢
        generalize bcap wr 5 s = cap3
        have HMK : Hid (∀ W', Mv W W' [wr.heap.size] → MillAt W' (w.heap.size + 1) w.heap.size m Mill.fresh) := fun W' hm => hm3.keep ((Mv.of_below hbw2 _).trans hm) (by simp)
        have hbW := hbw.trans (hbw2.mono hbw.size)
        have hge := hbw.size
        have hGl := hfr.lt
        clear hcv hbw hbw2 hm3 hle hbl
        generalize wr.heap.size = G at hfr hge hGl HMK ⊢
        go_wp2_with fail
        go_loopw [14] (fun v14 wr => ∃ j : Nat, j ≤ s.length ∧ v14 = .int .i64 j ∧ Fr wr G (veilI s X j) ∧ Mv W wr [G]) (fun v14 _ => s.length - (intOf v14).toNat)
        case atStart => exact ⟨0, Nat.zero_le _, rfl, by rw [h0]; exact hfr, Mv.refl _ _⟩
        case round =>
          clear hfr h0
          obtain ⟨j, hj, rfl, hfr, hmv⟩ := hrel
          have hXl := HX.out.2.1
          have hj0 : (0 : Int) ≤ (j : Int) := by omega
          have hvl := veilI_len s X hXl.symm j
          by_cases hjl : j < s.length
          · have hji : (j : Int) < (s.length : Int) := by omega
            have hmax : (s.length : Int) ≤ 1000000 := by omega
            have hjX : j < X.length := by omega
            have c := (hfr.cell j (by omega)).trans (by
              have := veilI_at s X hXl.symm j hjl
              rw [show (bcells (veilI s X j))[j]? = some (Value.int .u8 ((s[j]'hjl).toNat : Int)) by simp [bcells, this]])
            have f := hfr.free j (by omega)
            have hidx : ∀ W, (Instr.index 9 (.string (S X)) (.int .i64 (j : Int))).run Tryd.prog W = .ok (.int .u8 ((X[j]'hjX).toNat : Int)) W := fun W => run_index_S W X .i64 j Tryd.underlying9 hjX
            have hx := b_xor (s[j]'hjl) (X[j]'hjX)
            have hset := hfr.drew.set j ((s[j]'hjl) ^^^ (X[j]'hjX))
            rw [veilI_set s X hXl.symm j hjl] at hset
            have hmv2 := hmv.drew.trans (Mv.of_only (Only.set _ G j (.int .u8 (((s[j]'hjl) ^^^ (X[j]'hjX)).toNat : Int))) (by simp))
            generalize s[j]'hjl = cs at c hx hset hmv2
            generalize X[j]'hjX = cx at hidx hx hset hmv2
            have HSET := Lib.hid (And.intro hset hmv2)
            clear hset hfr hvl hXl hmv hmv2 hjX hsl
            go_wp2_with fail
            go_region
            all_goals
              go_wp2_with fail
              go_roundw
              case rel => exact ⟨j + 1, by omega, by go_num, by first | exact HSET.out.1 | (rw [hx]; exact HSET.out.1), by first | exact HSET.out.2 | (rw [hx]; exact HSET.out.2)⟩
              case measure => simp [intOf]; omega
          · have hje : j = s.length := by omega
            have hji : ¬ (j : Int) < (s.length : Int) := by omega
            have hall := HX.out.2.2.1
            rw [hje, hall] at hfr
            have hvsl := HX.out.2.2.2
            have hbE : Below w.heap.size w wr := hmv.below hbW hbW.size (by simpa using hge)
            have hmE := HMK.out wr hmv
            have hGlt := hfr.lt
            clear hmv hvl hXl hall hje hjl hj
            go_wp2_with fail
            refine (HV1.out wr hmE hbE).mono ?_
            rintro r7 w7 ⟨rfl, hb7⟩
            have hm7 := hmE.below hb7
            have hf7 := hfr.below hb7 hGlt
            have hb07 := hbE.trans (hb7.mono hbE.size)
            have hG7 := Nat.lt_of_lt_of_le hGlt hb7.size
            clear hmE hfr hbE hb7 hGlt
            go_wp2_with fail
            refine (HST.out w7 hm7 hb07).mono ?_
            rintro r8 w8 ⟨rfl, hb8⟩
            have hm8 := hm7.below hb8
            have hf8 := hf7.below hb8 hG7
            have hb08 := hb07.trans (hb8.mono hb07.size)
            have hcb := conv_bytes_text (P := Tryd.prog) Tryd.underlying41 Tryd.underlying5 Tryd.underlying9 hf8.bytes cap3
            rw [hvsl] at hcb
            clear hm7 hf7 hb07 hb8 hG7 hf8
            go_wp2_with fail
            refine (HV2.out w8 hm8 hb08).mono ?_
            rintro r9 w9 ⟨rfl, hb9⟩
            have hb09 := hb08.trans (hb9.mono hb08.size)
            clear hm8 hb08 hb9 hcb
            go_wp2_with fail
            refine (awakeMill_any _ (HT.out.below hb09 HT.out.2.2)).mono ?_
            rintro r10 w10 ⟨rfl, hb10⟩
            go_wp2_with fail
            go_ret
            exact ⟨rfl, hb09.trans (hb10.mono hb09.size)⟩
  · rw [HRR.out] at hr; cases hr

set_option maxRecDepth 100000 in
set_option maxHeartbeats 8000000 in
/-- With a mill, and a text that is cut. -/
theorem millStreams_good1 (A : Option Addr) (l : List Mill.En) (cap : Nat) (hlc : l.length ≤ cap) (hcm : cap ≤ maxLen) (hfit : Mill.fit l) (k label s0 s : List UInt8) (hk : k.length ≤ 1000000000000000) (hlab : label.length ≤ 1000000000000000) (hs0 : s0.length ≤ 1000000000000000)
    (hs : s = s0.take 300) (w : World) (hE : Ents w A l) (hT : Tabs w) (m : List Mill.En)
    (hl10 : m.length ≤ 10) (hF : Calls Tryd.prog 12 #[.slice A l.length cap] w (fun e w' => e = .returned (.slice A m.length cap) ∧ w = w')) (hfit10 : Mill.fit m) (hE10 : Ents w A m) (hr : Mill.right m = true) (hbig : 300 < s0.length) :
    Calls Tryd.prog 6 #[.slice A l.length cap, .string (S k), .string (S label), .string (S s0)] w fun e w' => e = .returned (.bool true) ∧ Below w.heap.size w w' := by
  have hsl : s.length ≤ 300 := by rw [hs, List.length_take]; omega
  have HF := Lib.hid hF
  have HW := Lib.hid (with_any A m cap (by omega) hfit10 w hE10 hT)
  obtain ⟨X, hX⟩ : ∃ X, Mill.stream m k label s.length = X := ⟨_, rfl⟩
  have hXl : X.length = s.length := by rw [← hX]; exact Mill.stream_len m hr k label _
  have htl := Mill.tags_len m hr k label
  have hts := Mill.tags_succ m k label
  obtain ⟨N, hN⟩ : ∃ N, (s.length + 31) / 32 = N := ⟨_, rfl⟩
  have hXN : (Mill.tags m k label N).take s.length = X := by rw [← hX, ← hN]; rfl
  have ht0 : Mill.tags m k label 0 = [] := rfl
  have HG : Hid (∀ W i, Below w.heap.size w W → i < 70000 → Calls Tryd.prog 22 #[.slice A m.length cap, .string (S k), .string (S (Mill.lab label i))] W (TextPost W (Mill.tag m k (Mill.lab label i)))) := fun W i hb hi =>
    lawTag_any A m cap k (Mill.lab label i) (by omega) hfit10 hk (by unfold Mill.lab; rw [List.length_append]; simp; omega) W (hE10.below hb) (hT.below hb hT.2.2)
  have htg : ∀ i, (Mill.tag m k (Mill.lab label i)).length = 32 := fun i => Mill.tag_len m hr k _
  have HST : Hid (∀ W, MillAt W (w.heap.size + 1) w.heap.size m Mill.fresh → Below w.heap.size w W → Calls Tryd.prog 24 #[.pointer (some ⟨w.heap.size + 1, 0, none⟩), .string (S k), .string (S label), .int .i64 (s.length : Int)] W (TextPost W X)) := fun W h hb => by
    rw [← hX]; exact stream_all k label _ _ _ _ _ W h hr (by omega) hlab (by omega) (hT.below hb hT.2.2)
  have HV1 : Hid (∀ W, MillAt W (w.heap.size + 1) w.heap.size m Mill.fresh → Below w.heap.size w W → Calls Tryd.prog 23 #[.pointer (some ⟨w.heap.size + 1, 0, none⟩), .string (S k), .string (S label), .string (S s)] W (TextPost W (Mill.veil X s))) := fun W h hb => by
    rw [← hX]; exact veil_any k label s _ _ _ _ W h hr (by omega) hlab (by omega) (hT.below hb hT.2.2)
  have HV2 : Hid (∀ W, MillAt W (w.heap.size + 1) w.heap.size m Mill.fresh → Below w.heap.size w W → Calls Tryd.prog 23 #[.pointer (some ⟨w.heap.size + 1, 0, none⟩), .string (S k), .string (S label), .string (S (Mill.veil X s))] W (TextPost W s)) := fun W h hb => by
    have hvl := Mill.veil_len X s hXl
    have := veil_any k label (Mill.veil X s) _ _ _ _ W h hr (by omega) hlab (by omega) (hT.below hb hT.2.2)
    rw [hvl, hX, Mill.veil_twice X s hXl] at this
    exact this
  have hall := veilI_all s X hXl.symm
  rw [hXl, Mill.veil_comm s X] at hall
  have hcv := fun W => conv_bytes (P := Tryd.prog) Tryd.underlying9 Tryd.underlying41 Tryd.underlying5 W s
  obtain ⟨vs, hvs⟩ : ∃ v, Mill.veil X s = v := ⟨_, rfl⟩
  have hvsl : vs.length = s.length := by rw [← hvs]; exact Mill.veil_len X s hXl
  rw [hvs] at HV1 HV2 hall
  obtain ⟨tg, htgE⟩ : ∃ f, f = fun i => Mill.tag m k (Mill.lab label i) := ⟨_, rfl⟩
  have hts2 : ∀ i, Mill.tags m k label (i + 1) = Mill.tags m k label i ++ tg i := fun i => by rw [hts i, htgE]
  have htg2 : ∀ i, (tg i).length = 32 := fun i => by rw [htgE]; exact htg i
  have HG2 : Hid (∀ W i, Below w.heap.size w W → i < 70000 → Calls Tryd.prog 22 #[.slice A m.length cap, .string (S k), .string (S (Mill.lab label i))] W (TextPost W (tg i))) := by rw [htgE]; exact HG
  generalize Mill.tags m k label = ts at htl hts2 ht0 hXN
  have HTS := Lib.hid (And.intro hts2 (And.intro htl (And.intro htg2 (show 32 * N < s.length + 32 ∧ s.length ≤ 32 * N by omega))))
  have HX := Lib.hid (And.intro hXN (And.intro hXl (And.intro hall hvsl)))
  have HT0 := Lib.hid ht0
  have HT := Lib.hid hT
  have HSL := Lib.hid (And.intro hsl (And.intro hlab hs0))
  clear HG htg hts htgE htg2 hts2 ht0 hN hX hXN hXl htl hE10 hfit10 hcm hlc hfit hF hE hT hk hvs hall hvsl hl10
  have HRR := Lib.hid hr; clear hr
  have HCV := Lib.hid hcv; clear hcv
  have hbig1 : (300 : Int) < (s0.length : Int) := by omega
  have hbig2 : (300 : Int) ≤ (s0.length : Int) := by omega
  have HSS := Lib.hid hs; clear hs hbig
  go_enter Tryd.func6, Tryd.ntmps6
  go_wp2_with fail
  refine HF.out.mono ?_
  rintro r1 w1 ⟨rfl, rfl⟩
  go_wp2_with fail
  rw [← HSS.out]
  refine HW.out.mono ?_
  rintro r2 w2 ⟨hb2, ⟨_, rfl, hm2⟩ | ⟨hr, rfl⟩⟩
  · have h2 := hb2.size
    go_wp2_with fail
    go_loopw [11, 12] (fun v11 v12 wr => ∃ i : Nat, i ≤ N ∧ v12 = .int .i64 i ∧ v11 = .string (S (ts i)) ∧ Below w2.heap.size w2 wr) (fun _ v12 _ => N - (intOf v12).toNat)
    case atStart => exact ⟨0, Nat.zero_le _, rfl, by rw [HT0.out]; rfl, Below.refl _ _⟩
    case round =>
      obtain ⟨i, hi, rfl, rfl, hbr⟩ := hrel
      have hN1 := HTS.out.2.2.2
      have hsl := HSL.out.1
      have htl := HTS.out.2.1 i
      have hi0 : (0 : Int) ≤ (i : Int) := by omega
      have hi6 : (i : Int) < 65536 := by omega
      by_cases hlt : i < N
      · have hbl : ((ts i).length : Int) < (s.length : Int) := by rw [htl]; omega
        have hq : ¬ 9223372036854775807 < label.length + 2 := by have := HSL.out; omega
        have hq2 : ¬ 9223372036854775807 < (ts i).length + (tg i).length := by rw [htl, HTS.out.2.2.1]; omega
        have hcv := conv_two (P := Tryd.prog) Tryd.underlying41 Tryd.underlying5 Tryd.underlying9 wr
        have HLAB : Hid (label ++ [UInt8.ofNat (i / 256), UInt8.ofNat (i % 256)] = Mill.lab label i) := by
          unfold Mill.lab
          have e : UInt8.ofNat (i % 256) = UInt8.ofNat i := by apply UInt8.toNat_inj.1; simp
          show label ++ [UInt8.ofNat (i / 256), UInt8.ofNat (i % 256)] = _
          rw [e]
        have HII := Lib.hid (And.intro hi (And.intro hlt (And.intro hN1 hsl)))
        clear htl hN1 hsl hi hlt
        go_wp2_with fail
        rw [HLAB.out]
        generalize hW4 : World.alloc wr _ = W4
        have hb4 : Below wr.heap.size wr W4 := by rw [← hW4]; exact (Below.refl _ _).alloc (Nat.le_refl _) _
        clear hW4 hcv
        have hb04 := hbr.trans (hb4.mono hbr.size)
        refine (HG2.out W4 i (hb2.trans (hb04.mono h2)) (by have := HII.out; omega)).mono ?_
        rintro r5 w5 ⟨rfl, hb5⟩
        have hb05 := hb04.trans (hb5.mono hb04.size)
        have HE : Hid (ts i ++ tg i = ts (i + 1)) := (HTS.out.1 i).symm
        clear hb4 hb04 hb5 hbr
        go_wp2_with fail
        go_roundw
        case rel => exact ⟨i + 1, by have := HII.out; omega, by go_num, by rw [HE.out], hb05⟩
        case measure => have := HII.out; simp [intOf]; omega
      · have hie : i = N := by omega
        subst hie
        have hbl : ¬ ((ts i).length : Int) < (s.length : Int) := by rw [htl]; omega
        have hle : (s.length : Int) ≤ ((ts i).length : Int) := by rw [htl]; omega
        have hbw := hb2.trans (hbr.mono h2)
        have hm3 := hm2.below hbr
        have HXT := Lib.hid HX.out.1
        clear htl hN1 hlt hi hm2 hbr hi6
        go_upto_region 13 with (fail)
        rw [HXT.out]
        have hcv := HCV.out wr
        go_upto_region 14 with (fail)
        have hbw2 := bworld_below wr 5 s
        have hfr := Fr.made wr s
        have h0 : veilI s X 0 = s := by simp [veilI]
        generalize bworld wr 5 s = W at hbw2 hfr ⊢
        generalize bcap wr 5 s = cap3
        have HMK : Hid (∀ W', Mv W W' [wr.heap.size] → MillAt W' (w.heap.size + 1) w.heap.size m Mill.fresh) := fun W' hm => hm3.keep ((Mv.of_below hbw2 _).trans hm) (by simp)
        have hbW := hbw.trans (hbw2.mono hbw.size)
        have hge := hbw.size
        have hGl := hfr.lt
        clear hcv hbw hbw2 hm3 hle hbl
        generalize wr.heap.size = G at hfr hge hGl HMK ⊢
        go_wp2_with fail
        go_loopw [14] (fun v14 wr => ∃ j : Nat, j ≤ s.length ∧ v14 = .int .i64 j ∧ Fr wr G (veilI s X j) ∧ Mv W wr [G]) (fun v14 _ => s.length - (intOf v14).toNat)
        case atStart => exact ⟨0, Nat.zero_le _, rfl, by rw [h0]; exact hfr, Mv.refl _ _⟩
        case round =>
          clear hfr h0
          obtain ⟨j, hj, rfl, hfr, hmv⟩ := hrel
          have hXl := HX.out.2.1
          have hj0 : (0 : Int) ≤ (j : Int) := by omega
          have hvl := veilI_len s X hXl.symm j
          by_cases hjl : j < s.length
          · have hji : (j : Int) < (s.length : Int) := by omega
            have hmax : (s.length : Int) ≤ 1000000 := by omega
            have hjX : j < X.length := by omega
            have c := (hfr.cell j (by omega)).trans (by
              have := veilI_at s X hXl.symm j hjl
              rw [show (bcells (veilI s X j))[j]? = some (Value.int .u8 ((s[j]'hjl).toNat : Int)) by simp [bcells, this]])
            have f := hfr.free j (by omega)
            have hidx : ∀ W, (Instr.index 9 (.string (S X)) (.int .i64 (j : Int))).run Tryd.prog W = .ok (.int .u8 ((X[j]'hjX).toNat : Int)) W := fun W => run_index_S W X .i64 j Tryd.underlying9 hjX
            have hx := b_xor (s[j]'hjl) (X[j]'hjX)
            have hset := hfr.drew.set j ((s[j]'hjl) ^^^ (X[j]'hjX))
            rw [veilI_set s X hXl.symm j hjl] at hset
            have hmv2 := hmv.drew.trans (Mv.of_only (Only.set _ G j (.int .u8 (((s[j]'hjl) ^^^ (X[j]'hjX)).toNat : Int))) (by simp))
            generalize s[j]'hjl = cs at c hx hset hmv2
            generalize X[j]'hjX = cx at hidx hx hset hmv2
            have HSET := Lib.hid (And.intro hset hmv2)
            clear hset hfr hvl hXl hmv hmv2 hjX hsl
            go_wp2_with fail
            go_region
            all_goals
              go_wp2_with fail
              go_roundw
              case rel => exact ⟨j + 1, by omega, by go_num, by first | exact HSET.out.1 | (rw [hx]; exact HSET.out.1), by first | exact HSET.out.2 | (rw [hx]; exact HSET.out.2)⟩
              case measure => simp [intOf]; omega
          · have hje : j = s.length := by omega
            have hji : ¬ (j : Int) < (s.length : Int) := by omega
            have hall := HX.out.2.2.1
            rw [hje, hall] at hfr
            have hvsl := HX.out.2.2.2
            have hbE : Below w.heap.size w wr := hmv.below hbW hbW.size (by simpa using hge)
            have hmE := HMK.out wr hmv
            have hGlt := hfr.lt
            clear hmv hvl hXl hall hje hjl hj
            go_wp2_with fail
            refine (HV1.out wr hmE hbE).mono ?_
            rintro r7 w7 ⟨rfl, hb7⟩
            have hm7 := hmE.below hb7
            have hf7 := hfr.below hb7 hGlt
            have hb07 := hbE.trans (hb7.mono hbE.size)
            have hG7 := Nat.lt_of_lt_of_le hGlt hb7.size
            clear hmE hfr hbE hb7 hGlt
            go_wp2_with fail
            refine (HST.out w7 hm7 hb07).mono ?_
            rintro r8 w8 ⟨rfl, hb8⟩
            have hm8 := hm7.below hb8
            have hf8 := hf7.below hb8 hG7
            have hb08 := hb07.trans (hb8.mono hb07.size)
            have hcb := conv_bytes_text (P := Tryd.prog) Tryd.underlying41 Tryd.underlying5 Tryd.underlying9 hf8.bytes cap3
            rw [hvsl] at hcb
            clear hm7 hf7 hb07 hb8 hG7 hf8
            go_wp2_with fail
            refine (HV2.out w8 hm8 hb08).mono ?_
            rintro r9 w9 ⟨rfl, hb9⟩
            have hb09 := hb08.trans (hb9.mono hb08.size)
            clear hm8 hb08 hb9 hcb
            go_wp2_with fail
            refine (awakeMill_any _ (HT.out.below hb09 HT.out.2.2)).mono ?_
            rintro r10 w10 ⟨rfl, hb10⟩
            go_wp2_with fail
            go_ret
            exact ⟨rfl, hb09.trans (hb10.mono hb09.size)⟩
  · rw [HRR.out] at hr; cases hr


set_option maxRecDepth 100000 in
set_option maxHeartbeats 4000000 in
theorem millStreams_bad (A : Option Addr) (l : List Mill.En) (cap : Nat) (hlc : l.length ≤ cap) (hcm : cap ≤ maxLen) (k label s0 : List UInt8) (hs0 : s0.length ≤ 1000000000000000) (w : World) (hT : Tabs w) (m : List Mill.En)
    (hl10 : m.length ≤ 10) (hF : Calls Tryd.prog 12 #[.slice A l.length cap] w (fun e w' => e = .returned (.slice A m.length cap) ∧ w = w')) (hfit10 : Mill.fit m) (hE10 : Ents w A m) (hr : Mill.right m = false) :
    Calls Tryd.prog 6 #[.slice A l.length cap, .string (S k), .string (S label), .string (S s0)] w fun e w' => e = .returned (.bool true) ∧ Below w.heap.size w w' := by
  have HF := Lib.hid hF
  have HW := Lib.hid (with_any A m cap (by omega) hfit10 w hE10 hT)
  have HR : Hid (∀ W, Below w.heap.size w W → Calls Tryd.prog 14 #[.slice A m.length cap] W (SamePost W (.bool (Mill.right m)))) := fun W hb => right_any A m cap (by omega) W (hE10.below hb)
  have HT := Lib.hid hT
  rw [hr] at HR
  have hb1 : ((300 : Int) < (s0.length : Int) ∧ (300 : Int) ≤ (s0.length : Int)) ∨ ¬ (300 : Int) < (s0.length : Int) := by omega
  clear hE10 hfit10 hcm hF hlc hT hs0
  have HRR := Lib.hid hr; clear hr
  rcases hb1 with ⟨hb1, hb1'⟩ | hb1
  · go_enter Tryd.func6, Tryd.ntmps6
    go_wp2_with fail
    refine HF.out.mono ?_
    rintro r1 w1 ⟨rfl, rfl⟩
    go_wp2_with fail
    refine HW.out.mono ?_
    rintro r2 w2 ⟨hb2, ⟨hr, rfl, hm2⟩ | ⟨hr, rfl⟩⟩
    · rw [HRR.out] at hr; cases hr
    · go_wp2_with fail
      refine (HR.out w2 hb2).mono ?_
      rintro r3 w3 ⟨rfl, rfl⟩
      go_wp2_with fail
      refine (awakeMill_any _ (HT.out.below hb2 HT.out.2.2)).mono ?_
      rintro r7 w7 ⟨rfl, hb7⟩
      go_wp2_with fail
      go_ret
      exact ⟨rfl, hb2.trans (hb7.mono hb2.size)⟩
  · go_enter Tryd.func6, Tryd.ntmps6
    go_wp2_with fail
    refine HF.out.mono ?_
    rintro r1 w1 ⟨rfl, rfl⟩
    go_wp2_with fail
    refine HW.out.mono ?_
    rintro r2 w2 ⟨hb2, ⟨hr, rfl, hm2⟩ | ⟨hr, rfl⟩⟩
    · rw [HRR.out] at hr; cases hr
    · go_wp2_with fail
      refine (HR.out w2 hb2).mono ?_
      rintro r3 w3 ⟨rfl, rfl⟩
      go_wp2_with fail
      refine (awakeMill_any _ (HT.out.below hb2 HT.out.2.2)).mono ?_
      rintro r7 w7 ⟨rfl, hb7⟩
      go_wp2_with fail
      go_ret
      exact ⟨rfl, hb2.trans (hb7.mono hb2.size)⟩

set_option maxRecDepth 100000 in
theorem millStreams_contract {H : Type} (enc : TypeId × Value → H) (W : World) (base : Nat) (args : Array Value) (ds gs : List (DataW H)) (before : List MemPlace)
    (hval : ∀ (j : Nat) t v, Tryd.f6.params[j]? = some t → args[j]? = some v → Value.okWide Tryd.prog W .any base t v)
    (hW : DataW.Whole enc Tryd.prog Tryd.f6.params.toList Rows.millStreamsSpec.vars false W args.toList ds gs before)
    (hsz : (DataW.weightsEach Tryd.prog (Tryd.f6.params.toList ++ Rows.millStreamsSpec.plain.varTypes Tryd.prog) (ds ++ gs)).all (· ≤ reachBytes) = true) (hT : Tabs W) :
    Calls Tryd.prog 6 args W fun e W' =>
      ((Rows.millStreamsSpec.fn H (ds ++ gs)).results = [.lit (.bool true)] ∧ (Rows.millStreamsSpec.fn H (ds ++ gs)).args = ds ∧ (Rows.millStreamsSpec.fn H (ds ++ gs)).vars = []) ∧ e = .returned (.bool true) ∧ Below W.heap.size W W' := by
  obtain ⟨p, q, hA0, hV, rfl, hfz, hnd⟩ := hW
  have hA : DataW.TrodAll enc Tryd.prog W 0 (fun _ => true) true Tryd.f6.params.toList args.toList ds p := hA0
  rw [Tryd.params6] at hA hval hsz
  obtain ⟨v0, v1, v2, v3, d0, d1, d2, d3, p0, p1, p2, p3, rfl, rfl, rfl, h0, h1, h2, h3⟩ := trodAll_four hA
  obtain ⟨rfl, rfl⟩ := trodVars_none hV
  obtain ⟨A, len, cap, rfl⟩ := okWide_slice Tryd.underlying25 (hval 0 25 v0 rfl rfl)
  obtain ⟨k, rfl, rfl, rfl, max_k⟩ := open_string Tryd.underlying9 (hval 1 9 v1 rfl rfl) h1
  obtain ⟨b, rfl, rfl, rfl, max_b⟩ := open_string Tryd.underlying9 (hval 2 9 v2 rfl rfl) h2
  obtain ⟨s, rfl, rfl, rfl, max_s⟩ := open_string Tryd.underlying9 (hval 3 9 v3 rfl rfl) h3
  have len_k : k.data.toList.length ≤ reachBytes := sized_string hsz (j := 1) (t := 9) rfl rfl
  have len_b : b.data.toList.length ≤ reachBytes := sized_string hsz (j := 2) (t := 9) rfl rfl
  have len_s : s.data.toList.length ≤ reachBytes := sized_string hsz (j := 3) (t := 9) rfl rfl
  obtain ⟨fuel, hf⟩ := h0
  obtain ⟨l, rfl, hE, hfit, hlc, hcm⟩ := ents_open hf (fun n hn => by
    have h := List.all_eq_true.1 hsz n (DataW.weights_mem_each (j := 0) (t := 25) (d := d0) rfl rfl n hn)
    exact Nat.le_trans (by simpa using h) reach_le)
  rw [← S_of k, ← S_of b, ← S_of s]
  obtain ⟨m, hl10, hF, hfit10, hE10⟩ := few_pack A l cap hlc hcm hfit W hE hT
  cases hr : Mill.right m with
  | false => exact (millStreams_bad A l cap hlc hcm _ _ _ (Nat.le_trans len_s reach_le) W hT m hl10 hF hfit10 hE10 hr).mono fun e W' h => ⟨⟨rfl, rfl, rfl⟩, h⟩
  | true =>
    by_cases hbig : 300 < s.data.toList.length
    · exact (millStreams_good1 A l cap hlc hcm hfit _ _ _ _ (Nat.le_trans len_k reach_le) (Nat.le_trans len_b reach_le) (Nat.le_trans len_s reach_le) rfl W hE hT m hl10 hF hfit10 hE10 hr hbig).mono fun e W' h => ⟨⟨rfl, rfl, rfl⟩, h⟩
    · exact (millStreams_good0 A l cap hlc hcm hfit _ _ _ _ (Nat.le_trans len_k reach_le) (Nat.le_trans len_b reach_le) (Nat.le_trans len_s reach_le) rfl W hE hT m hl10 hF hfit10 hE10 hr hbig).mono fun e W' h => ⟨⟨rfl, rfl, rfl⟩, h⟩
end Go.Proofs.YtjajlofcpfgjhaaDoor
