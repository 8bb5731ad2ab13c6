/-
  The contract of the third layer's statements' own tag.
-/
import Derived.Test.YtjajlofcpfgjhaaDoorMillLaw
import Derived.Deep.RegionHeld3
namespace Go.Proofs.YtjajlofcpfgjhaaDoor
open Go.RowKit
set_option linter.unusedVariables false

/-- A row that is being filled. -/
def fillI (z : List UInt8) (x : UInt8) (i : Nat) : List UInt8 := (z.take i).map (· ^^^ x) ++ List.replicate (z.length - i) 0
theorem fill_zero (z : List UInt8) (x : UInt8) (h : z.length = 64) : fillI z x 0 = List.replicate 64 0 := by simp [fillI, h]
theorem fill_all (k : List UInt8) (x : UInt8) (h : k.length ≤ 64) : fillI (k ++ List.replicate (64 - k.length) 0) x 64 = Mill.pad k x := by
  have hl : (k ++ List.replicate (64 - k.length) 0).length = 64 := by simp; omega
  unfold fillI Mill.pad
  rw [hl, List.take_of_length_le (by omega)]; simp
theorem fill_len (z : List UInt8) (x : UInt8) (i : Nat) (h : i ≤ z.length) : (fillI z x i).length = z.length := by simp [fillI]; omega
theorem fill_at (z : List UInt8) (x : UInt8) (i : Nat) (h : i < z.length) : (bcells (fillI z x i)).toArray[i]? = some (.int .u8 0) := by
  have : (fillI z x i)[i]? = some 0 := by
    unfold fillI
    rw [List.getElem?_append_right (by simp; omega)]
    rw [List.length_map, List.length_take, Nat.min_eq_left (Nat.le_of_lt h), Nat.sub_self, List.getElem?_replicate, if_pos (by omega)]
  simp [bcells, this]
theorem fill_set (z : List UInt8) (x : UInt8) (i : Nat) (h : i < z.length) : (bcells (fillI z x i)).toArray.setIfInBounds i (.int .u8 (((z[i]'h) ^^^ x).toNat : Int)) = (bcells (fillI z x (i + 1))).toArray := by
  apply Array.ext'
  rw [Array.toList_setIfInBounds]
  unfold bcells fillI
  simp only [List.map_append]
  rw [List.set_append_right _ _ (by simp; omega)]
  have e1 : (List.map (fun c : UInt8 => Value.int .u8 (c.toNat : Int)) (List.map (· ^^^ x) (z.take i))).length = i := by simp; omega
  have e2 : z.length - i = (z.length - (i + 1)) + 1 := by omega
  rw [e1, Nat.sub_self, e2, List.replicate_succ, List.map_cons, List.set_cons_zero, List.take_succ_eq_append_getElem h]
  simp only [List.map_append, List.map_cons, List.map_nil, List.append_assoc, List.cons_append, List.nil_append]
theorem pad_at (k : List UInt8) (i : Nat) (h : i < (k ++ List.replicate (64 - k.length) 0).length) : (∀ h2 : i < k.length, (k ++ List.replicate (64 - k.length) 0)[i]'h = k[i]'h2) ∧ (k.length ≤ i → (k ++ List.replicate (64 - k.length) 0)[i]'h = 0) := by
  refine ⟨fun h2 => List.getElem_append_left h2, fun h2 => ?_⟩
  rw [List.getElem_append_right h2]; simp
theorem iinfo8 : (Tryd.prog.info? 5).map (fun i => (i.zero, i.size, i.bytes)) = some (some (.int .u8 0), 1, 1) := by kernel_rfl
theorem make64 (W : World) : (Instr.makeSlice 41 (.int .i64 64) (.int .i64 64)).run Tryd.prog W = .ok (.slice (some ⟨W.heap.size, 0, none⟩) 64 64) (W.alloc (.cells (bcells (List.replicate 64 0)).toArray 5)) := by
  obtain ⟨i0, hi, hz0, hz1, hz2⟩ := info_parts iinfo8
  have h := run_make (P := Tryd.prog) W 41 5 i0 (.int .u8 0) Tryd.underlying41 hi hz0 .i64 .i64 64 64 (by omega) (by omega) (by rw [hz2]; decide) (by decide)
  have t2 : Int.toNat 64 = 64 := rfl
  rw [hz1, Nat.mul_one, t2, made_zeros] at h
  exact h

set_option maxRecDepth 100000 in
set_option maxHeartbeats 8000000 in
theorem lawTag_0 (A : Option Addr) (l : List Mill.En) (cap : Nat) (k s : List UInt8) (hlen : l.length ≤ 1000000) (hfit : Mill.fit l) (hk : k.length ≤ 1000000000000000) (hbig : ¬ 64 < k.length) (hs : s.length ≤ 4000000000000000) (w : World) (hE : Ents w A l) (hT : Tabs w) :
    Calls Tryd.prog 22 #[.slice A l.length cap, .string (S k), .string (S s)] w (TextPost w (Mill.tag l k s)) := by
  obtain ⟨F, hF⟩ : ∃ F, F = Sha.sum := ⟨_, rfl⟩
  have hsum := fun (M : List UInt8) W (hM : M.length ≤ 5000000000000000) (hTW : Tabs W) => sum_any M W hM hTW
  have hsl := Sha.sum_len
  rw [← hF] at hsum hsl
  have HS := Lib.hid hsum; clear hsum
  have HL := Lib.hid hsl; clear hsl
  have HT := Lib.hid hT; clear hT
  have HE := Lib.hid hE; clear hE
  have HFIT := Lib.hid hfit; clear hfit
  have hout : Hid (Mill.ask l (true, F k, s) = none → Mill.tag l k s = F (Mill.pad k 0x5c ++ F (Mill.pad k 0x36 ++ s))) := fun h => by
    unfold Mill.tag Mill.hmac Mill.key64
    rw [← hF, h, if_neg hbig]; rfl
  have hhit : Hid (∀ o, Mill.ask l (true, F k, s) = some o → Mill.tag l k s = o) := fun o h => by
    unfold Mill.tag
    rw [← hF, h]; rfl
  have hinp : Hid (∀ e : Mill.En, (e.tag = true ∧ e.text = s ∧ F e.key = F k → e.inp = (true, F k, s)) ∧ (¬ (e.tag = true ∧ e.text = s ∧ F e.key = F k) → ¬ e.inp = (true, F k, s))) := fun e => by
    refine ⟨fun h => ?_, fun h hh => h ?_⟩
    · unfold Mill.En.inp; rw [h.1, h.2.1, ← hF]; simp only [if_true]; rw [h.2.2]
    · unfold Mill.En.inp at hh
      injection hh with e1 e2
      injection e2 with e2 e3
      rw [e1, ← hF] at e2
      simp only [if_true] at e2
      exact ⟨e1, e3, e2⟩
  generalize Mill.tag l k s = res at hout hhit ⊢
  clear hF
  have hbigI : ¬ (64 : Int) < (k.length : Int) := by omega
  have HK := Lib.hid (And.intro hk (And.intro hbig hs)); clear hk hbig hs
  have HLEN := Lib.hid hlen; clear hlen
  go_enter Tryd.func22, Tryd.ntmps22
  go_wp2_with fail
  go_loopw [7] (fun v7 wr => ∃ i : Nat, i ≤ l.length ∧ v7 = .int .i64 i ∧ Mill.ask (l.take i) (true, F k, s) = none ∧ Below w.heap.size w wr) (fun v7 _ => l.length - (intOf v7).toNat)
  case atStart => exact ⟨0, Nat.zero_le _, rfl, rfl, Below.refl _ _⟩
  case round =>
    obtain ⟨i, hi, rfl, hr, hbr⟩ := hrel
    by_cases hlt : i < l.length
    · have hE' := HE.out.below (hbr.mono (Nat.le_refl _))
      obtain ⟨b, off, rfl, hc⟩ := HE.out (by rintro rfl; simp at hlt)
      clear hE'
      have hblt : b < w.heap.size := World.block_lt_of_cell? w ⟨b, off + 0 * 4, none⟩ (hc 0 (Nat.lt_of_le_of_lt (Nat.zero_le _) hlt)).1
      obtain ⟨c0, c1, c2, c3⟩ := hc i hlt
      clear hc
      have c0 := (hbr.cell (p := ⟨b, off + i * 4, none⟩) hblt).trans c0
      have c1 := (hbr.cell (p := ⟨b, off + i * 4 + 1, none⟩) hblt).trans c1
      have c2 := (hbr.cell (p := ⟨b, off + i * 4 + 2, none⟩) hblt).trans c2
      have hi0 : (0 : Int) ≤ (i : Int) := by have := HLEN.out; omega
      have hil : (i : Int) < (l.length : Int) := by omega
      have him : (i : Int) ≤ 1000000 := by have := HLEN.out; omega
      have hat := ask_take l (true, F k, s) i hlt hr
      have ham := ask_more l (true, F k, s) (i + 1)
      have hef := HFIT.out _ (List.getElem_mem hlt)
      have hin := hinp.out (l[i]'hlt)
      generalize l[i]'hlt = e at c0 c1 c2 c3 hat hef hin
      have HEF := Lib.hid hef; clear hef
      by_cases htt : e.tag = true ∧ e.text = s
      · rw [htt.1] at c0
        have hq : (e.text == s) = true := by rw [htt.2]; simp
        by_cases hkk : F e.key = F k
        · have hq2 : (F e.key == F k) = true := by rw [hkk]; simp
          rw [if_pos (hin.1 ⟨htt.1, htt.2, hkk⟩)] at hat
          have HRES := Lib.hid (hhit.out _ (ham _ hat))
          clear hat ham hin hkk htt
          go_wp2_with fail
          refine (HS.out _ _ (by have := HEF.out; omega) (HT.out.below hbr HT.out.2.2)).mono ?_
          rintro r1 w1 ⟨rfl, hb1⟩
          have hbr1 := hbr.trans (hb1.mono hbr.size)
          go_wp2_with fail
          refine (HS.out _ _ (by have := HK.out; omega) (HT.out.below hbr1 HT.out.2.2)).mono ?_
          rintro r2 w2 ⟨rfl, hb2⟩
          have hbr2 := hbr1.trans (hb2.mono hbr1.size)
          have c3 := (hbr2.cell (p := ⟨b, off + i * 4 + 3, none⟩) hblt).trans c3
          go_wp2_with fail
          go_ret
          rw [HRES.out]
          exact ⟨rfl, hbr2⟩
        · have hq2 : (F e.key == F k) = false := by rw [beq_eq_false_iff_ne]; exact hkk
          rw [if_neg (hin.2 (fun h => hkk h.2.2))] at hat
          have HAT := Lib.hid hat
          clear hat ham hin hkk htt c3
          go_wp2_with fail
          refine (HS.out _ _ (by have := HEF.out; omega) (HT.out.below hbr HT.out.2.2)).mono ?_
          rintro r1 w1 ⟨rfl, hb1⟩
          have hbr1 := hbr.trans (hb1.mono hbr.size)
          go_wp2_with fail
          refine (HS.out _ _ (by have := HK.out; omega) (HT.out.below hbr1 HT.out.2.2)).mono ?_
          rintro r2 w2 ⟨rfl, hb2⟩
          have hbr2 := hbr1.trans (hb2.mono hbr1.size)
          go_wp2_with fail
          go_roundw
          case rel => exact ⟨i + 1, by omega, by go_num, HAT.out, hbr2⟩
          case measure => simp [intOf]; omega
      · rw [if_neg (hin.2 (fun h => htt ⟨h.1, h.2.1⟩))] at hat
        have HAT := Lib.hid hat
        clear hat ham hin c3
        cases htag : e.tag with
        | false =>
          rw [htag] at c0
          clear c1 c2 htt htag
          go_wp2_with fail
          go_roundw
          case rel => exact ⟨i + 1, by omega, by go_num, HAT.out, hbr⟩
          case measure => simp [intOf]; omega
        | true =>
          rw [htag] at c0
          have hq : (e.text == s) = false := by rw [beq_eq_false_iff_ne]; exact fun h => htt ⟨htag, h⟩
          clear c1 htt htag
          go_wp2_with fail
          go_roundw
          case rel => exact ⟨i + 1, by omega, by go_num, HAT.out, hbr⟩
          case measure => simp [intOf]; omega
    · have hie : i = l.length := by omega
      have hil : ¬ (i : Int) < (l.length : Int) := by omega
      rw [hie, List.take_length] at hr
      have hres := hout.out hr
      clear hr hie hlt hinp hhit hout HE HFIT HLEN hi
      obtain ⟨key, hkey⟩ : ∃ x, x = k := ⟨_, rfl⟩
      have hkl : key.length ≤ 64 := by rw [hkey]; have := HK.out; omega
      rw [← hkey] at hres
      have HRES := Lib.hid hres; clear hres
      have HKEY := Lib.hid hkey; clear hkey
      have hbr1 := hbr
      clear hbr
      generalize hw1 : wr = w1 at hbr1 ⊢
      clear hw1
      have hkk := HKEY.out
      subst hkk
      have hz0 := fill_zero (key ++ List.replicate (64 - key.length) 0) 0x5c (by simp; omega)
      have hz1 := fill_zero (key ++ List.replicate (64 - key.length) 0) 0x36 (by simp; omega)
      have hzz : (key ++ List.replicate (64 - key.length) 0).length = 64 := by simp; omega
      have hpa := pad_at key
      have hfa := fill_all key 0x5c hkl
      have hfb := fill_all key 0x36 hkl
      have hpl := And.intro (Mill.pad_len key 0x5c hkl) (Mill.pad_len key 0x36 hkl)
      have HPL := Lib.hid hpl; clear hpl
      generalize key ++ List.replicate (64 - key.length) 0 = z at hz0 hz1 hzz hpa hfa hfb
      obtain ⟨zl, hzl⟩ : ∃ z, z = List.replicate 64 (0 : UInt8) := ⟨_, rfl⟩
      rw [← hzl] at hz0 hz1
      have hmk : ∀ W, (Instr.makeSlice 41 (.int .i64 64) (.int .i64 64)).run Tryd.prog W = .ok (.slice (some ⟨W.heap.size, 0, none⟩) 64 64) (W.alloc (.cells (bcells zl).toArray 5)) := by rw [hzl]; exact make64
      clear hzl
      have HZ := Lib.hid (And.intro hz0 (And.intro hz1 (And.intro hzz (And.intro hpa (And.intro hfa hfb)))))
      clear hz0 hz1 hzz hpa hfa hfb
      go_upto_region 10 with (fail)
      generalize hW : World.alloc (World.alloc w1 _) _ = W
      have hb0 : Below w.heap.size w W := by rw [← hW]; exact (hbr1.alloc hbr1.size _).alloc (by simp; have := hbr1.size; omega) _
      have ha : Has W w1.heap.size 5 (bcells (fillI z 0x5c 0)).toArray := by rw [← hW, HZ.out.1]; exact (Has.made _ _ _).of_alloc _
      have hb : Has W (w1.heap.size + 1) 5 (bcells (fillI z 0x36 0)).toArray := by
        have := Has.made (w1.alloc (.cells (bcells zl).toArray 5)) 5 (bcells zl).toArray
        rw [← hW, HZ.out.2.1]; simpa using this
      have hge := hbr1.size
      clear hW hmk hbr1
      generalize w1.heap.size = G at ha hb hge ⊢
      go_wp2_with fail
      go_loopw [10] (fun v10 wr => ∃ j : Nat, j ≤ 64 ∧ v10 = .int .i64 j ∧ Has wr G 5 (bcells (fillI z 0x5c j)).toArray ∧ Has wr (G + 1) 5 (bcells (fillI z 0x36 j)).toArray ∧ Below w.heap.size w wr) (fun v10 _ => 64 - (intOf v10).toNat)
      case atStart => exact ⟨0, Nat.zero_le _, rfl, ha, hb, hb0⟩
      case round =>
        clear ha hb hb0
        obtain ⟨j, hj, rfl, ha, hb, hb0⟩ := hrel
        by_cases hjlt : j < 64
        · have hj0 : (0 : Int) ≤ (j : Int) := by omega
          have hji : (j : Int) < 64 := by omega
          have hjz : j < z.length := by rw [HZ.out.2.2.1]; exact hjlt
          have ca := (ha.cell j).trans (fill_at z 0x5c j hjz)
          have cb := (hb.cell j).trans (fill_at z 0x36 j hjz)
          have fa := ha.free j
          have fb := hb.free j
          obtain ⟨hp1, hp2⟩ := HZ.out.2.2.2.1 j hjz
          have na := ha.set j (.int .u8 (((z[j]'hjz) ^^^ 0x5c).toNat : Int))
          have nb := hb.set j (.int .u8 (((z[j]'hjz) ^^^ 0x36).toNat : Int))
          rw [fill_set z _ j hjz] at na nb
          have HA2 := Lib.hid (na.other (p := ⟨G + 1, j, none⟩) (by simp) (.int .u8 (((z[j]'hjz) ^^^ 0x36).toNat : Int))); clear na
          have HB2 := Lib.hid (show Has ((wr.setCell ⟨G, j, none⟩ (.int .u8 (((z[j]'hjz) ^^^ 0x5c).toNat : Int))).setCell ⟨G + 1, j, none⟩ (.int .u8 (((z[j]'hjz) ^^^ 0x36).toNat : Int))) (G + 1) 5 (bcells (fillI z 0x36 (j + 1))).toArray by
            rw [← fill_set z _ j hjz]
            exact (hb.other (p := ⟨G, j, none⟩) (by simp) _).set j _)
          have HW2 := Lib.hid ((hb0.setCell (p := ⟨G, j, none⟩) (by simpa using hge) (.int .u8 (((z[j]'hjz) ^^^ 0x5c).toNat : Int))).setCell (p := ⟨G + 1, j, none⟩) (by simp; omega) (.int .u8 (((z[j]'hjz) ^^^ 0x36).toNat : Int)))
          clear nb
          have xa : bits .xor .u8 ((z[j]'hjz).toNat : Int) 92 = (((z[j]'hjz) ^^^ 0x5c).toNat : Int) := b_xor (z[j]'hjz) 0x5c
          have xb : bits .xor .u8 ((z[j]'hjz).toNat : Int) 54 = (((z[j]'hjz) ^^^ 0x36).toNat : Int) := b_xor (z[j]'hjz) 0x36
          have hc256 := (z[j]'hjz).toNat_lt
          generalize z[j]'hjz = c at hp1 hp2 HA2 HB2 HW2 xa xb hc256
          by_cases hkj : j < key.length
          · have hc := hp1 hkj
            have hkji : (j : Int) < (key.length : Int) := by omega
            have hidx : ∀ W, (Instr.index 9 (.string (S key)) (.int .i64 (j : Int))).run Tryd.prog W = .ok (.int .u8 (c.toNat : Int)) W := fun W => by rw [hc]; exact run_index_S W key .i64 j Tryd.underlying9 hkj
            clear hp1 hp2 hc hjz ha hb hkl
            go_wp2_with fail
            go_roundw
            case rel => exact ⟨j + 1, by omega, by go_num, HA2.out, HB2.out, HW2.out⟩
            case measure => simp [intOf]; omega
          · have hc := hp2 (by omega)
            have hkji : ¬ (j : Int) < (key.length : Int) := by omega
            subst hc
            have xa : bits .xor .u8 0 92 = (((0 : UInt8) ^^^ 0x5c).toNat : Int) := xa
            have xb : bits .xor .u8 0 54 = (((0 : UInt8) ^^^ 0x36).toNat : Int) := xb
            clear hp1 hp2 hjz ha hb hkl
            go_wp2_with fail
            go_roundw
            case rel => exact ⟨j + 1, by omega, by go_num, HA2.out, HB2.out, HW2.out⟩
            case measure => simp [intOf]; omega
        · have hje : j = 64 := by omega
          have hji : ¬ (j : Int) < 64 := by omega
          subst hje
          rw [HZ.out.2.2.2.2.1] at ha
          rw [HZ.out.2.2.2.2.2] at hb
          have HCVA : Hid (∀ W, Has W G 5 (bcells (Mill.pad key 0x5c)).toArray → (convert 41 9 (.slice (some ⟨G, 0, none⟩) 64 64)).run Tryd.prog W = .ok (.string (S (Mill.pad key 0x5c))) W) := fun W hW => conv_text Tryd.underlying41 Tryd.underlying5 Tryd.underlying9 _ HPL.out.1 (fun i _ => by rw [hW.cell]; simp)
          have HCVB : Hid (∀ W, Has W (G + 1) 5 (bcells (Mill.pad key 0x36)).toArray → (convert 41 9 (.slice (some ⟨G + 1, 0, none⟩) 64 64)).run Tryd.prog W = .ok (.string (S (Mill.pad key 0x36))) W) := fun W hW => conv_text Tryd.underlying41 Tryd.underlying5 Tryd.underlying9 _ HPL.out.2 (fun i _ => by rw [hW.cell]; simp)
          have HRES2 := HRES
          clear HRES
          have hq1 : ¬ 9223372036854775807 < (Mill.pad key 0x36).length + s.length := by have := HPL.out; have := HK.out; omega
          have hq2 : ¬ 9223372036854775807 < (Mill.pad key 0x5c).length + (F (Mill.pad key 0x36 ++ s)).length := by have := HPL.out; rw [HL.out]; omega
          clear HZ hj hjlt hkl
          generalize Mill.pad key 0x5c = pa at ha HCVA HPL HRES2 hq2
          generalize Mill.pad key 0x36 = pb at hb HCVB HPL HRES2 hq1 hq2
          go_upto_region 18 with (fail)
          have hla := ha.lt
          have hlb := hb.lt
          replace ha : Has wr.drew G 5 (bcells pa).toArray := ha
          replace hb : Has wr.drew (G + 1) 5 (bcells pb).toArray := hb
          replace hb0 : Below w.heap.size w wr.drew := hb0.drew
          replace hla : G < wr.drew.heap.size := hla
          replace hlb : G + 1 < wr.drew.heap.size := hlb
          have hy1 := HCVA.out _ ha
          have hy2 := HCVB.out _ hb
          go_region_held3 (fun w' => (convert 41 9 (.slice (some ⟨G, 0, none⟩) 64 64)).run Tryd.prog w' = .ok (.string (S pa)) w' ∧ (convert 41 9 (.slice (some ⟨G + 1, 0, none⟩) 64 64)).run Tryd.prog w' = .ok (.string (S pb)) w') (first | exact ⟨hy1, hy2⟩ | go_keep) (first | (go_at_call 9; refine (HS.out _ _ (by have := HK.out; have := HPL.out; simp only [List.length_append, HL.out]; omega) (HT.out.below hb0 HT.out.2.2)).mono ?_; rintro e w3 ⟨rfl, hb3⟩; have ha := ha.below hb3 hla; have hb := hb.below hb3 hlb; have hb0 := hb0.trans (hb3.mono hb0.size); have hla := Nat.lt_of_lt_of_le hla hb3.size; have hlb := Nat.lt_of_lt_of_le hlb hb3.size; have hy1 := HCVA.out _ ha; have hy2 := HCVB.out _ hb; clear hb3))
          go_wp2_with fail
          go_ret
          rw [HRES2.out]
          exact ⟨rfl, hb0⟩

set_option maxRecDepth 100000 in
set_option maxHeartbeats 8000000 in
theorem lawTag_1 (A : Option Addr) (l : List Mill.En) (cap : Nat) (k s : List UInt8) (hlen : l.length ≤ 1000000) (hfit : Mill.fit l) (hk : k.length ≤ 1000000000000000) (hbig : 64 < k.length) (hs : s.length ≤ 4000000000000000) (w : World) (hE : Ents w A l) (hT : Tabs w) :
    Calls Tryd.prog 22 #[.slice A l.length cap, .string (S k), .string (S s)] w (TextPost w (Mill.tag l k s)) := by
  obtain ⟨F, hF⟩ : ∃ F, F = Sha.sum := ⟨_, rfl⟩
  have hsum := fun (M : List UInt8) W (hM : M.length ≤ 5000000000000000) (hTW : Tabs W) => sum_any M W hM hTW
  have hsl := Sha.sum_len
  rw [← hF] at hsum hsl
  have HS := Lib.hid hsum; clear hsum
  have HL := Lib.hid hsl; clear hsl
  have HT := Lib.hid hT; clear hT
  have HE := Lib.hid hE; clear hE
  have HFIT := Lib.hid hfit; clear hfit
  have hout : Hid (Mill.ask l (true, F k, s) = none → Mill.tag l k s = F (Mill.pad (F k) 0x5c ++ F (Mill.pad (F k) 0x36 ++ s))) := fun h => by
    unfold Mill.tag Mill.hmac Mill.key64
    rw [← hF, h, if_pos hbig]; rfl
  have hhit : Hid (∀ o, Mill.ask l (true, F k, s) = some o → Mill.tag l k s = o) := fun o h => by
    unfold Mill.tag
    rw [← hF, h]; rfl
  have hinp : Hid (∀ e : Mill.En, (e.tag = true ∧ e.text = s ∧ F e.key = F k → e.inp = (true, F k, s)) ∧ (¬ (e.tag = true ∧ e.text = s ∧ F e.key = F k) → ¬ e.inp = (true, F k, s))) := fun e => by
    refine ⟨fun h => ?_, fun h hh => h ?_⟩
    · unfold Mill.En.inp; rw [h.1, h.2.1, ← hF]; simp only [if_true]; rw [h.2.2]
    · unfold Mill.En.inp at hh
      injection hh with e1 e2
      injection e2 with e2 e3
      rw [e1, ← hF] at e2
      simp only [if_true] at e2
      exact ⟨e1, e3, e2⟩
  generalize Mill.tag l k s = res at hout hhit ⊢
  clear hF
  have hbigI :  (64 : Int) < (k.length : Int) := by omega
  have HK := Lib.hid (And.intro hk (And.intro hbig hs)); clear hk hbig hs
  have HLEN := Lib.hid hlen; clear hlen
  go_enter Tryd.func22, Tryd.ntmps22
  go_wp2_with fail
  go_loopw [7] (fun v7 wr => ∃ i : Nat, i ≤ l.length ∧ v7 = .int .i64 i ∧ Mill.ask (l.take i) (true, F k, s) = none ∧ Below w.heap.size w wr) (fun v7 _ => l.length - (intOf v7).toNat)
  case atStart => exact ⟨0, Nat.zero_le _, rfl, rfl, Below.refl _ _⟩
  case round =>
    obtain ⟨i, hi, rfl, hr, hbr⟩ := hrel
    by_cases hlt : i < l.length
    · have hE' := HE.out.below (hbr.mono (Nat.le_refl _))
      obtain ⟨b, off, rfl, hc⟩ := HE.out (by rintro rfl; simp at hlt)
      clear hE'
      have hblt : b < w.heap.size := World.block_lt_of_cell? w ⟨b, off + 0 * 4, none⟩ (hc 0 (Nat.lt_of_le_of_lt (Nat.zero_le _) hlt)).1
      obtain ⟨c0, c1, c2, c3⟩ := hc i hlt
      clear hc
      have c0 := (hbr.cell (p := ⟨b, off + i * 4, none⟩) hblt).trans c0
      have c1 := (hbr.cell (p := ⟨b, off + i * 4 + 1, none⟩) hblt).trans c1
      have c2 := (hbr.cell (p := ⟨b, off + i * 4 + 2, none⟩) hblt).trans c2
      have hi0 : (0 : Int) ≤ (i : Int) := by have := HLEN.out; omega
      have hil : (i : Int) < (l.length : Int) := by omega
      have him : (i : Int) ≤ 1000000 := by have := HLEN.out; omega
      have hat := ask_take l (true, F k, s) i hlt hr
      have ham := ask_more l (true, F k, s) (i + 1)
      have hef := HFIT.out _ (List.getElem_mem hlt)
      have hin := hinp.out (l[i]'hlt)
      generalize l[i]'hlt = e at c0 c1 c2 c3 hat hef hin
      have HEF := Lib.hid hef; clear hef
      by_cases htt : e.tag = true ∧ e.text = s
      · rw [htt.1] at c0
        have hq : (e.text == s) = true := by rw [htt.2]; simp
        by_cases hkk : F e.key = F k
        · have hq2 : (F e.key == F k) = true := by rw [hkk]; simp
          rw [if_pos (hin.1 ⟨htt.1, htt.2, hkk⟩)] at hat
          have HRES := Lib.hid (hhit.out _ (ham _ hat))
          clear hat ham hin hkk htt
          go_wp2_with fail
          refine (HS.out _ _ (by have := HEF.out; omega) (HT.out.below hbr HT.out.2.2)).mono ?_
          rintro r1 w1 ⟨rfl, hb1⟩
          have hbr1 := hbr.trans (hb1.mono hbr.size)
          go_wp2_with fail
          refine (HS.out _ _ (by have := HK.out; omega) (HT.out.below hbr1 HT.out.2.2)).mono ?_
          rintro r2 w2 ⟨rfl, hb2⟩
          have hbr2 := hbr1.trans (hb2.mono hbr1.size)
          have c3 := (hbr2.cell (p := ⟨b, off + i * 4 + 3, none⟩) hblt).trans c3
          go_wp2_with fail
          go_ret
          rw [HRES.out]
          exact ⟨rfl, hbr2⟩
        · have hq2 : (F e.key == F k) = false := by rw [beq_eq_false_iff_ne]; exact hkk
          rw [if_neg (hin.2 (fun h => hkk h.2.2))] at hat
          have HAT := Lib.hid hat
          clear hat ham hin hkk htt c3
          go_wp2_with fail
          refine (HS.out _ _ (by have := HEF.out; omega) (HT.out.below hbr HT.out.2.2)).mono ?_
          rintro r1 w1 ⟨rfl, hb1⟩
          have hbr1 := hbr.trans (hb1.mono hbr.size)
          go_wp2_with fail
          refine (HS.out _ _ (by have := HK.out; omega) (HT.out.below hbr1 HT.out.2.2)).mono ?_
          rintro r2 w2 ⟨rfl, hb2⟩
          have hbr2 := hbr1.trans (hb2.mono hbr1.size)
          go_wp2_with fail
          go_roundw
          case rel => exact ⟨i + 1, by omega, by go_num, HAT.out, hbr2⟩
          case measure => simp [intOf]; omega
      · rw [if_neg (hin.2 (fun h => htt ⟨h.1, h.2.1⟩))] at hat
        have HAT := Lib.hid hat
        clear hat ham hin c3
        cases htag : e.tag with
        | false =>
          rw [htag] at c0
          clear c1 c2 htt htag
          go_wp2_with fail
          go_roundw
          case rel => exact ⟨i + 1, by omega, by go_num, HAT.out, hbr⟩
          case measure => simp [intOf]; omega
        | true =>
          rw [htag] at c0
          have hq : (e.text == s) = false := by rw [beq_eq_false_iff_ne]; exact fun h => htt ⟨htag, h⟩
          clear c1 htt htag
          go_wp2_with fail
          go_roundw
          case rel => exact ⟨i + 1, by omega, by go_num, HAT.out, hbr⟩
          case measure => simp [intOf]; omega
    · have hie : i = l.length := by omega
      have hil : ¬ (i : Int) < (l.length : Int) := by omega
      rw [hie, List.take_length] at hr
      have hres := hout.out hr
      clear hr hie hlt hinp hhit hout HE HFIT HLEN hi
      obtain ⟨key, hkey⟩ : ∃ x, x = (F k) := ⟨_, rfl⟩
      have hkl : key.length ≤ 64 := by rw [hkey]; rw [HL.out]; omega
      rw [← hkey] at hres
      have HRES := Lib.hid hres; clear hres
      have HKEY := Lib.hid hkey; clear hkey
      go_wp2_with fail
      refine (HS.out _ _ (by have := HK.out; omega) (HT.out.below hbr HT.out.2.2)).mono ?_
      rintro r1 w1 ⟨rfl, hb1⟩
      have hbr1 := hbr.trans (hb1.mono hbr.size)
      rw [← HKEY.out]
      clear hbr
      have hz0 := fill_zero (key ++ List.replicate (64 - key.length) 0) 0x5c (by simp; omega)
      have hz1 := fill_zero (key ++ List.replicate (64 - key.length) 0) 0x36 (by simp; omega)
      have hzz : (key ++ List.replicate (64 - key.length) 0).length = 64 := by simp; omega
      have hpa := pad_at key
      have hfa := fill_all key 0x5c hkl
      have hfb := fill_all key 0x36 hkl
      have hpl := And.intro (Mill.pad_len key 0x5c hkl) (Mill.pad_len key 0x36 hkl)
      have HPL := Lib.hid hpl; clear hpl
      generalize key ++ List.replicate (64 - key.length) 0 = z at hz0 hz1 hzz hpa hfa hfb
      obtain ⟨zl, hzl⟩ : ∃ z, z = List.replicate 64 (0 : UInt8) := ⟨_, rfl⟩
      rw [← hzl] at hz0 hz1
      have hmk : ∀ W, (Instr.makeSlice 41 (.int .i64 64) (.int .i64 64)).run Tryd.prog W = .ok (.slice (some ⟨W.heap.size, 0, none⟩) 64 64) (W.alloc (.cells (bcells zl).toArray 5)) := by rw [hzl]; exact make64
      clear hzl
      have HZ := Lib.hid (And.intro hz0 (And.intro hz1 (And.intro hzz (And.intro hpa (And.intro hfa hfb)))))
      clear hz0 hz1 hzz hpa hfa hfb
      go_upto_region 10 with (fail)
      generalize hW : World.alloc (World.alloc w1 _) _ = W
      have hb0 : Below w.heap.size w W := by rw [← hW]; exact (hbr1.alloc hbr1.size _).alloc (by simp; have := hbr1.size; omega) _
      have ha : Has W w1.heap.size 5 (bcells (fillI z 0x5c 0)).toArray := by rw [← hW, HZ.out.1]; exact (Has.made _ _ _).of_alloc _
      have hb : Has W (w1.heap.size + 1) 5 (bcells (fillI z 0x36 0)).toArray := by
        have := Has.made (w1.alloc (.cells (bcells zl).toArray 5)) 5 (bcells zl).toArray
        rw [← hW, HZ.out.2.1]; simpa using this
      have hge := hbr1.size
      clear hW hmk hbr1
      generalize w1.heap.size = G at ha hb hge ⊢
      go_wp2_with fail
      go_loopw [10] (fun v10 wr => ∃ j : Nat, j ≤ 64 ∧ v10 = .int .i64 j ∧ Has wr G 5 (bcells (fillI z 0x5c j)).toArray ∧ Has wr (G + 1) 5 (bcells (fillI z 0x36 j)).toArray ∧ Below w.heap.size w wr) (fun v10 _ => 64 - (intOf v10).toNat)
      case atStart => exact ⟨0, Nat.zero_le _, rfl, ha, hb, hb0⟩
      case round =>
        clear ha hb hb0
        obtain ⟨j, hj, rfl, ha, hb, hb0⟩ := hrel
        by_cases hjlt : j < 64
        · have hj0 : (0 : Int) ≤ (j : Int) := by omega
          have hji : (j : Int) < 64 := by omega
          have hjz : j < z.length := by rw [HZ.out.2.2.1]; exact hjlt
          have ca := (ha.cell j).trans (fill_at z 0x5c j hjz)
          have cb := (hb.cell j).trans (fill_at z 0x36 j hjz)
          have fa := ha.free j
          have fb := hb.free j
          obtain ⟨hp1, hp2⟩ := HZ.out.2.2.2.1 j hjz
          have na := ha.set j (.int .u8 (((z[j]'hjz) ^^^ 0x5c).toNat : Int))
          have nb := hb.set j (.int .u8 (((z[j]'hjz) ^^^ 0x36).toNat : Int))
          rw [fill_set z _ j hjz] at na nb
          have HA2 := Lib.hid (na.other (p := ⟨G + 1, j, none⟩) (by simp) (.int .u8 (((z[j]'hjz) ^^^ 0x36).toNat : Int))); clear na
          have HB2 := Lib.hid (show Has ((wr.setCell ⟨G, j, none⟩ (.int .u8 (((z[j]'hjz) ^^^ 0x5c).toNat : Int))).setCell ⟨G + 1, j, none⟩ (.int .u8 (((z[j]'hjz) ^^^ 0x36).toNat : Int))) (G + 1) 5 (bcells (fillI z 0x36 (j + 1))).toArray by
            rw [← fill_set z _ j hjz]
            exact (hb.other (p := ⟨G, j, none⟩) (by simp) _).set j _)
          have HW2 := Lib.hid ((hb0.setCell (p := ⟨G, j, none⟩) (by simpa using hge) (.int .u8 (((z[j]'hjz) ^^^ 0x5c).toNat : Int))).setCell (p := ⟨G + 1, j, none⟩) (by simp; omega) (.int .u8 (((z[j]'hjz) ^^^ 0x36).toNat : Int)))
          clear nb
          have xa : bits .xor .u8 ((z[j]'hjz).toNat : Int) 92 = (((z[j]'hjz) ^^^ 0x5c).toNat : Int) := b_xor (z[j]'hjz) 0x5c
          have xb : bits .xor .u8 ((z[j]'hjz).toNat : Int) 54 = (((z[j]'hjz) ^^^ 0x36).toNat : Int) := b_xor (z[j]'hjz) 0x36
          have hc256 := (z[j]'hjz).toNat_lt
          generalize z[j]'hjz = c at hp1 hp2 HA2 HB2 HW2 xa xb hc256
          by_cases hkj : j < key.length
          · have hc := hp1 hkj
            have hkji : (j : Int) < (key.length : Int) := by omega
            have hidx : ∀ W, (Instr.index 9 (.string (S key)) (.int .i64 (j : Int))).run Tryd.prog W = .ok (.int .u8 (c.toNat : Int)) W := fun W => by rw [hc]; exact run_index_S W key .i64 j Tryd.underlying9 hkj
            clear hp1 hp2 hc hjz ha hb hkl
            go_wp2_with fail
            go_roundw
            case rel => exact ⟨j + 1, by omega, by go_num, HA2.out, HB2.out, HW2.out⟩
            case measure => simp [intOf]; omega
          · have hc := hp2 (by omega)
            have hkji : ¬ (j : Int) < (key.length : Int) := by omega
            subst hc
            have xa : bits .xor .u8 0 92 = (((0 : UInt8) ^^^ 0x5c).toNat : Int) := xa
            have xb : bits .xor .u8 0 54 = (((0 : UInt8) ^^^ 0x36).toNat : Int) := xb
            clear hp1 hp2 hjz ha hb hkl
            go_wp2_with fail
            go_roundw
            case rel => exact ⟨j + 1, by omega, by go_num, HA2.out, HB2.out, HW2.out⟩
            case measure => simp [intOf]; omega
        · have hje : j = 64 := by omega
          have hji : ¬ (j : Int) < 64 := by omega
          subst hje
          rw [HZ.out.2.2.2.2.1] at ha
          rw [HZ.out.2.2.2.2.2] at hb
          have HCVA : Hid (∀ W, Has W G 5 (bcells (Mill.pad key 0x5c)).toArray → (convert 41 9 (.slice (some ⟨G, 0, none⟩) 64 64)).run Tryd.prog W = .ok (.string (S (Mill.pad key 0x5c))) W) := fun W hW => conv_text Tryd.underlying41 Tryd.underlying5 Tryd.underlying9 _ HPL.out.1 (fun i _ => by rw [hW.cell]; simp)
          have HCVB : Hid (∀ W, Has W (G + 1) 5 (bcells (Mill.pad key 0x36)).toArray → (convert 41 9 (.slice (some ⟨G + 1, 0, none⟩) 64 64)).run Tryd.prog W = .ok (.string (S (Mill.pad key 0x36))) W) := fun W hW => conv_text Tryd.underlying41 Tryd.underlying5 Tryd.underlying9 _ HPL.out.2 (fun i _ => by rw [hW.cell]; simp)
          have HRES2 := HRES
          clear HRES
          have hq1 : ¬ 9223372036854775807 < (Mill.pad key 0x36).length + s.length := by have := HPL.out; have := HK.out; omega
          have hq2 : ¬ 9223372036854775807 < (Mill.pad key 0x5c).length + (F (Mill.pad key 0x36 ++ s)).length := by have := HPL.out; rw [HL.out]; omega
          clear HZ hj hjlt hkl
          generalize Mill.pad key 0x5c = pa at ha HCVA HPL HRES2 hq2
          generalize Mill.pad key 0x36 = pb at hb HCVB HPL HRES2 hq1 hq2
          go_upto_region 18 with (fail)
          have hla := ha.lt
          have hlb := hb.lt
          replace ha : Has wr.drew G 5 (bcells pa).toArray := ha
          replace hb : Has wr.drew (G + 1) 5 (bcells pb).toArray := hb
          replace hb0 : Below w.heap.size w wr.drew := hb0.drew
          replace hla : G < wr.drew.heap.size := hla
          replace hlb : G + 1 < wr.drew.heap.size := hlb
          have hy1 := HCVA.out _ ha
          have hy2 := HCVB.out _ hb
          go_region_held3 (fun w' => (convert 41 9 (.slice (some ⟨G, 0, none⟩) 64 64)).run Tryd.prog w' = .ok (.string (S pa)) w' ∧ (convert 41 9 (.slice (some ⟨G + 1, 0, none⟩) 64 64)).run Tryd.prog w' = .ok (.string (S pb)) w') (first | exact ⟨hy1, hy2⟩ | go_keep) (first | (go_at_call 9; refine (HS.out _ _ (by have := HK.out; have := HPL.out; simp only [List.length_append, HL.out]; omega) (HT.out.below hb0 HT.out.2.2)).mono ?_; rintro e w3 ⟨rfl, hb3⟩; have ha := ha.below hb3 hla; have hb := hb.below hb3 hlb; have hb0 := hb0.trans (hb3.mono hb0.size); have hla := Nat.lt_of_lt_of_le hla hb3.size; have hlb := Nat.lt_of_lt_of_le hlb hb3.size; have hy1 := HCVA.out _ ha; have hy2 := HCVB.out _ hb; clear hb3))
          go_wp2_with fail
          go_ret
          rw [HRES2.out]
          exact ⟨rfl, hb0⟩

theorem lawTag_any (A : Option Addr) (l : List Mill.En) (cap : Nat) (k s : List UInt8) (hlen : l.length ≤ 1000000) (hfit : Mill.fit l) (hk : k.length ≤ 1000000000000000) (hs : s.length ≤ 4000000000000000) (w : World) (hE : Ents w A l) (hT : Tabs w) :
    Calls Tryd.prog 22 #[.slice A l.length cap, .string (S k), .string (S s)] w (TextPost w (Mill.tag l k s)) := by
  by_cases hbig : 64 < k.length
  · exact lawTag_1 A l cap k s hlen hfit hk hbig hs w hE hT
  · exact lawTag_0 A l cap k s hlen hfit hk hbig hs w hE hT
end Go.Proofs.YtjajlofcpfgjhaaDoor
