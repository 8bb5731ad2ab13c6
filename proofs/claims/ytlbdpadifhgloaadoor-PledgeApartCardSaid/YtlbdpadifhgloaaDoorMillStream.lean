/-
  The contracts of mill's repeated, and of Stream.
-/
import Derived.Test.YtlbdpadifhgloaaDoorMillTag
import Derived.Deep.QuietTactic
import Derived.Lib.AppendStr
namespace Go.Proofs.YtlbdpadifhgloaaDoor
open Go.RowKit
set_option linter.unusedVariables false

theorem own_slice' {w : World} {B e : Nat} {v : Value} {n : Nat} {xs : List Value} (h : w.ownsRow B e 1 v n xs) : ∃ p cap, v = .slice p n cap := by
  rcases h.2 with ⟨rfl, rfl⟩ | ⟨g, cap, cur, rfl, _⟩
  · exact ⟨none, 0, rfl⟩
  · exact ⟨_, cap, rfl⟩
set_option maxRecDepth 100000 in
theorem repeat_zero (s : List UInt8) (w : World) : Calls Tryd.prog 45 #[.string (S s), .int .i64 0] w fun e w' => e = .returned (.string (S [])) ∧ w' = w := by
  go_enter Tryd.func45, Tryd.ntmps45
  go_wp2_with fail
  go_ret
  exact ⟨rfl, rfl⟩
set_option maxRecDepth 100000 in
theorem repeat_one (s : List UInt8) (w : World) : Calls Tryd.prog 45 #[.string (S s), .int .i64 1] w fun e w' => e = .returned (.string (S s)) ∧ w' = w := by
  go_enter Tryd.func45, Tryd.ntmps45
  go_wp2_with fail
  go_ret
  exact ⟨rfl, rfl⟩
set_option maxRecDepth 100000 in
set_option maxHeartbeats 2000000 in
theorem repeated_any (s : List UInt8) (n : Nat) (hn : 0 < n) (hs : n ≤ s.length) (hm : s.length ≤ 1000000000) (w : World) :
    Calls Tryd.prog 41 #[.string (S s), .int .i64 (n : Int)] w (TextPost w (s.take n)) := by
  have h0 : (0 : Int) ≤ (n : Int) := by omega
  have h1 : (0 : Int) < (s.length : Int) := by omega
  have hz : ¬ (s.length : Int) = 0 := by omega
  have hzb : ((s.length : Int) == 0) = false := by simpa using hz
  have hle : (s.length : Int) ≤ 1000000000 := by omega
  have hne : ¬ (s.length : Int) = -1 := by omega
  by_cases he : n = s.length
  · have q1 : (n : Int) / (s.length : Int) = 1 := by rw [he]; exact Int.ediv_self hz
    have q2 : (n : Int).tdiv (s.length : Int) = 1 := by rw [Int.tdiv_eq_ediv_of_nonneg h0]; exact q1
    have r1 : (n : Int) % (s.length : Int) = 0 := by rw [he]; exact Int.emod_self
    have r2 : (n : Int).tmod (s.length : Int) = 0 := by rw [Int.tmod_eq_emod_of_nonneg h0]; exact r1
    have ht : s.take n = s := by rw [he, List.take_length]
    rw [ht]
    clear ht he hs hn hm
    go_enter Tryd.func41, Tryd.ntmps41
    go_wp2_with fail
    go_quiet ((go_at_call 45; exact Calls.quiet_of_same (repeat_one _ _)))
    go_wp2_with fail
    go_ret
    exact ⟨rfl, below_drewN (Below.refl _ _) _⟩
  · have hlt : (n : Int) < (s.length : Int) := by omega
    have q1 : (n : Int) / (s.length : Int) = 0 := Int.ediv_eq_zero_of_lt h0 hlt
    have q2 : (n : Int).tdiv (s.length : Int) = 0 := by rw [Int.tdiv_eq_ediv_of_nonneg h0]; exact q1
    have r1 : (n : Int) % (s.length : Int) = (n : Int) := Int.emod_eq_of_lt h0 hlt
    have r2 : (n : Int).tmod (s.length : Int) = (n : Int) := by rw [Int.tmod_eq_emod_of_nonneg h0]; exact r1
    have hnl : (n : Int) ≤ (s.length : Int) := by omega
    clear he hs hn hm
    go_enter Tryd.func41, Tryd.ntmps41
    go_wp2_with fail
    go_quiet ((go_at_call 45; exact Calls.quiet_of_same (repeat_zero _ _)))
    go_wp2_with fail
    go_ret
    exact ⟨rfl, below_drewN (Below.refl _ _) _⟩

/-- Two bytes in a block of their own, turned into a text. -/
theorem conv_two {P : Program} {src e dst : Nat} (hs : P.underlying src = some (.slice e)) (he : P.underlying e = some (.int .u8)) (hd : P.underlying dst = some .string) (W : World) (c0 c1 : Int) :
    (convert src dst (.slice (some ⟨W.heap.size, 0, none⟩) 2 2)).run P (W.alloc (.cells #[.int .u8 c0, .int .u8 c1] e)) = .ok (.string (S [UInt8.ofNat c0.toNat, UInt8.ofNat c1.toNat])) (W.alloc (.cells #[.int .u8 c0, .int .u8 c1] e)) := by
  have h := run_convert_bytes_arg (P := P) (W.alloc (.cells #[.int .u8 c0, .int .u8 c1] e)) src e hs he W.heap.size 0 2 2 [c0, c1] rfl (fun i hi => by
    rw [(Has.made W e #[.int .u8 c0, .int .u8 c1]).cell]
    match i, hi with
    | 0, _ => rfl
    | 1, _ => rfl) dst hd
  exact h
theorem own_after {w w' : World} {B e s n : Nat} {v : Value} {xs : List Value} (h : w.ownsRow B e s v n xs) (hb : Below w.heap.size w w') : w'.ownsRow B e s v n xs :=
  h.kept (row := none) ⟨hb.os, hb.tape, hb.output, hb.size, fun i hi _ => hb.block i hi⟩ (by
    cases hv : v.ownBlock with
    | none => exact Or.inl rfl
    | some k => right; intro e; cases e)
theorem tags_stream (l : List Mill.En) (hr : Mill.right l = true) (k label : List UInt8) (n : Nat) : (Mill.tags l k label ((n + 31) / 32)).take n = Mill.stream l k label n := rfl
theorem u8parts : (Tryd.prog.info? 5).map (fun i => (i.zero, i.size, i.bytes)) = some (some (.int .u8 0), 1, 1) := by kernel_rfl

set_option maxRecDepth 100000 in
set_option maxHeartbeats 4000000 in
theorem stream_any (k label : List UInt8) (n : Nat) (g nb : Nat) (l : List Mill.En) (st : Mill.St) (w : World) (h : MillAt w g nb l st) (hr : Mill.right l = true) (hk : k.length ≤ 5000000000000000) (hlab : label.length ≤ 1000000000000000) (hn : 0 < n) (hn2 : n ≤ 1000000) (hT : Tabs w) :
    Calls Tryd.prog 37 #[.pointer (some ⟨g, 0, none⟩), .string (S k), .string (S label), .int .i64 (n : Int)] w (TextPost w (Mill.stream l k label n)) := by
  obtain ⟨tv, hc, _⟩ := id h
  have HW := Lib.hid (works_is g true w (hc.cell 8))
  clear hc
  obtain ⟨i0, hi, hz0, hz1, hz2⟩ := info_parts u8parts
  have HI := Lib.hid (And.intro hi (And.intro hz0 (And.intro hz1 hz2))); clear hi hz0 hz1 hz2
  have HR := Lib.hid (ready_any k g nb l st w h hk hT)
  have hpl := pad_length l k
  have htl := Mill.tags_len l hr k label
  have hts := Mill.tags_succ l k label
  have hto : ∀ i, Mill.tagOf l (Mill.kh l k) (Mill.pad (Mill.key64 k) 0x36) (Mill.pad (Mill.key64 k) 0x5c) (Mill.lab label i) = Mill.tag l k (Mill.lab label i) := fun i => Mill.tagOf_ready l k _
  have htg := fun i => Mill.tag_len l hr k (Mill.lab label i)
  generalize Mill.kh l k = kh at HR hpl hto
  generalize Mill.pad (Mill.key64 k) 0x36 = pa at HR hpl hto
  generalize Mill.pad (Mill.key64 k) 0x5c = pb at HR hpl hto
  rw [← tags_stream l hr]
  obtain ⟨N, hN⟩ : ∃ N, (n + 31) / 32 = N := ⟨_, rfl⟩
  rw [hN]
  have hN1 : 32 * N < n + 32 ∧ n ≤ 32 * N := by omega
  obtain ⟨tg, htgE⟩ : ∃ f, f = fun i => Mill.tag l k (Mill.lab label i) := ⟨_, rfl⟩
  have hto2 : ∀ i, Mill.tagOf l kh pa pb (Mill.lab label i) = tg i := fun i => by rw [hto i, htgE]
  have htg2 : ∀ i, (tg i).length = 32 := fun i => by rw [htgE]; exact htg i
  have hts2 : ∀ i, Mill.tags l k label (i + 1) = Mill.tags l k label i ++ tg i := fun i => by rw [hts i, htgE]
  have ht0 : Mill.tags l k label 0 = [] := rfl
  generalize Mill.tags l k label = ts at htl hts2 ht0 ⊢
  have HG : Hid (∀ W i, Below w.heap.size w W → i < 70000 → Calls Tryd.prog 33 #[.pointer (some ⟨g, 0, none⟩), .agg #[.string (S kh), .string (S pa), .string (S pb)], .string (S (Mill.lab label i))] W (TextPost W (tg i))) := fun W i hb hi => by
    rw [← hto2 i]
    exact tag_any kh pa pb (Mill.lab label i) g nb l st W (h.below hb) hpl.1 hpl.2.1 hpl.2.2 (by unfold Mill.lab; rw [List.length_append]; simp; omega) (hT.below hb hT.2.2)
  have HREP : Hid (∀ W, Calls Tryd.prog 41 #[.string (S (ts N)), .int .i64 (n : Int)] W (TextPost W ((ts N).take n))) := fun W => repeated_any (ts N) n hn (by rw [htl]; omega) (by rw [htl]; omega) W
  generalize (ts N).take n = res at HREP ⊢
  have HTS := Lib.hid (And.intro hts2 (And.intro htl (And.intro htg2 hN1)))
  have HT0 := Lib.hid ht0
  have hn1 : ¬ (n : Int) < 1 := by omega
  have hn3 : ¬ (2147483647 : Int) < (n : Int) := by omega
  have hn0 : (0 : Int) ≤ (n : Int) := by omega
  have HNN := Lib.hid (And.intro hn (And.intro hn2 hlab))
  clear h hpl htl hts hto htg htgE hto2 htg2 hts2 ht0 hN1 hT hk hn hn2 hlab hr hN
  have hz := zeroSec
  have hq : ¬ 9223372036854775807 < label.length + 2 := by have := HNN.out; omega
  go_enter Tryd.func37, Tryd.ntmps37
  go_wp2_with fail
  refine HW.out.mono ?_
  rintro r1 w1 ⟨rfl, rfl⟩
  go_wp2_with fail
  refine HR.out.mono ?_
  rintro r2 w2 ⟨rfl, hb2⟩
  unfold secVal
  go_upto_region 4 with (fail)
  clear hz
  generalize hW : World.alloc w2 _ = W
  have hb3 : Below w.heap.size w W := by rw [← hW]; exact hb2.alloc hb2.size _
  have hh : Has W w2.heap.size 61 #[.string (S kh), .string (S pa), .string (S pb)] := by rw [← hW]; exact Has.made _ _ _
  have hsz : W.heap.size = w2.heap.size + 1 := by rw [← hW]; simp
  have hge := hb2.size
  clear hW hb2
  generalize w2.heap.size = G at hh hsz hge ⊢
  go_wp2_with fail
  go_loopw [10, 11] (fun v10 v11 wr => ∃ i : Nat, i ≤ N ∧ v11 = .int .i64 i ∧ wr.ownsRow (G + 1) 5 1 v10 (ts i).length (bcells (ts i)) ∧ Below (G + 1) W wr) (fun _ v11 _ => N - (intOf v11).toNat)
  case atStart => exact ⟨0, Nat.zero_le _, rfl, by rw [HT0.out]; exact World.ownsRow_nil _ _ _ _, Below.refl _ _⟩
  case round =>
    obtain ⟨i, hi, rfl, hown, hbr⟩ := hrel
    have hN1 := HTS.out.2.2.2
    have hn1' := HNN.out.2.1
    have hi0 : (0 : Int) ≤ (i : Int) := by omega
    have hi6 : (i : Int) < 65536 := by omega
    by_cases hlt : i < N
    · have htl := HTS.out.2.1 i
      have hbl : ((ts i).length : Int) < (n : Int) := by rw [htl]; omega
      obtain ⟨A, cap, rfl⟩ := own_slice' hown
      have hb0 : Below w.heap.size w wr := hb3.trans (hbr.mono (by omega))
      have hhr := hh.below hbr (Nat.lt_succ_self G)
      have s0 : wr.cell? ⟨G, 0, none⟩ = some (.string (S kh)) := hhr.cell 0
      have s1 : wr.cell? ⟨G, 1, none⟩ = some (.string (S pa)) := hhr.cell 1
      have s2 : wr.cell? ⟨G, 2, none⟩ = some (.string (S pb)) := hhr.cell 2
      have hcv := conv_two (P := Tryd.prog) Tryd.underlying64 Tryd.underlying5 Tryd.underlying9 wr
      have HO := Lib.hid hown; clear hown hN1 hn1' htl
      have HLAB : Hid (label ++ [UInt8.ofNat (i / 256), UInt8.ofNat (i % 256)] = Mill.lab label i) := by
        unfold Mill.lab
        have e : UInt8.ofNat (i % 256) = UInt8.ofNat i := by apply UInt8.toNat_inj.1; simp
        show label ++ [UInt8.ofNat (i / 256), UInt8.ofNat (i % 256)] = _
        rw [e]
      go_wp2_with fail
      rw [HLAB.out]
      generalize hW4 : World.alloc wr _ = W4
      have hb4 : Below wr.heap.size wr W4 := by rw [← hW4]; exact (Below.refl _ _).alloc (Nat.le_refl _) _
      clear hW4 hcv
      refine (HG.out W4 i (hb0.trans (hb4.mono hb0.size)) (by omega)).mono ?_
      rintro r5 w5 ⟨rfl, hb5⟩
      have hb45 := hb4.trans (hb5.mono hb4.size)
      have HO5 := Lib.hid (own_after HO.out hb45)
      have hbr5 := hbr.trans (hb45.mono (by have := hbr.size; omega))
      have hB5 := hbr5.size
      have HL1 : Hid ((ts i).length = 32 * i ∧ (tg i).length = 32 ∧ i ≤ 40000) := ⟨HTS.out.2.1 i, HTS.out.2.2.1 i, by have := HTS.out.2.2.2; have := HNN.out; omega⟩
      have hsize1 : (S (tg i)).size = 32 := HTS.out.2.2.1 i
      have HSZ := Lib.hid hsize1
      clear s0 s1 s2 hhr hb4 hb5 hb45 hbr hb0 hsize1
      go_wp2_with (at_builtin; refine Lib.wpList_append_own_string _ rfl (.tmp 36) (.tmp 48) 64 9 rfl (G + 1) 5 i0 Tryd.underlying64 Tryd.underlying9 HI.out.1 HI.out.2.1 HI.out.2.2.1 HI.out.2.2.2 (.slice A (ts i).length cap) (ts i).length (bcells (ts i)) rfl HO5.out (S (tg i)) rfl (by have := HL1.out; have := HSZ.out; simp only [maxLen]; omega) (by have := HL1.out; have := HSZ.out; omega) (by omega) ?_; intro v6 w6 hown6 hg6 hnil6)
      have hown7 : w6.ownsRow (G + 1) 5 1 v6 (ts (i + 1)).length (bcells (ts (i + 1))) := by
        rw [HTS.out.1 i, List.length_append]
        have : bcells (ts i ++ tg i) = bcells (ts i) ++ Lib.strCells (S (tg i)) := by simp [bcells, Lib.strCells, S]
        rw [this]
        exact hown6
      have hb6 : Below (G + 1) W w6 := hbr5.grown hg6 (by omega) (fun k hk => (HO5.out.lt k hk).1)
      clear hown6 hg6 hnil6
      go_wp2_with fail
      go_roundw
      case rel => exact ⟨i + 1, by omega, by go_num, hown7, hb6⟩
      case measure => simp [intOf]; omega
    · have hie : i = N := by omega
      subst hie
      have htl := HTS.out.2.1 i
      have hbl : ¬ ((ts i).length : Int) < (n : Int) := by rw [htl]; omega
      obtain ⟨bb, A, cap, rfl, hby⟩ := own_bytes hown
      have hcv := conv_bytes_text (P := Tryd.prog) Tryd.underlying64 Tryd.underlying5 Tryd.underlying9 hby cap
      have hfin := hb3.trans (hbr.mono (by omega))
      clear hown hby htl hN1 hn1' hi hlt
      go_wp2_with fail
      refine (HREP.out wr).mono ?_
      rintro r7 w7 ⟨rfl, hb7⟩
      go_wp2_with fail
      go_ret
      exact ⟨rfl, hfin.trans (hb7.mono hfin.size)⟩
end Go.Proofs.YtlbdpadifhgloaaDoor
