/-
  OctetBack: the first loop.
-/
import Derived.Test.YtclocjfnkaaenaaLongest
import Derived.Test.YtclocjfnkaaenaaBackOps
import Derived.Test.YtclocjfnkaaenaaItemsC
import Derived.Test.YtclocjfnkaaenaaTexts
import Derived.Deep.Cut
import Derived.Deep.DeepCutAuto
import Derived.Deep.CutBlock
import Derived.Outline
import Derived.Deep.RegionHeld3
import Derived.Deep.QuietTactic
import Derived.BigQuiet
namespace Go.Proofs.Ytclocjfnkaaenaa
open Go.RowKit
set_option linter.unusedVariables false

theorem own_type {w : World} {B e s n k : Nat} {v : Value} {xs : List Value} (h : w.ownsRow B e s v n xs) (hk : v.ownBlock = some k) : ∃ bs fr, w.heap[k]? = some (.cells bs e fr) := by
  rcases h.2 with ⟨rfl, _⟩ | ⟨g, cap, cur, rfl, _, hg, _⟩
  · cases hk
  · injection hk with hk
    exact ⟨cur, (0, 0), by rw [← hk]; exact hg⟩
theorem Wr.grown {w w' : World} {g : Nat} {st : Wt.St} {row : Option Nat} (h : Wr w g st) (hw : w.grownBy w' row) (hr : ∀ k, row = some k → ∃ bs fr, w.heap[k]? = some (.cells bs 31 fr)) : Wr w' g st := by
  obtain ⟨P, hh, hc⟩ := h
  have h1 : some g ≠ row := fun e' => by
    obtain ⟨bs', fr', h'⟩ := hr g e'.symm
    rw [Has] at hh
    rw [hh] at h'
    injection h' with h'; injection h' with _ h' _
    exact absurd h' (by decide)
  exact ⟨P, (hw.block g hh.lt h1).trans hh, hc.grown hw hr (by decide) (by decide)⟩

theorem Only.drew' (w : World) (g : Nat) : Only w w.drew g := ⟨rfl, rfl, rfl, Nat.le_refl _, fun _ _ _ => rfl⟩
theorem Rd.alloc' {w : World} {g b : Nat} {st : R.St} (h : Rd w g b st) (o : Obj) : Rd (w.alloc o) g b st := h.below ((Below.refl _ _).alloc (Nat.le_refl _) o) (Nat.le_refl _)
theorem Rd.drew' {w : World} {g b : Nat} {st : R.St} (h : Rd w g b st) : Rd w.drew g b st := h.below ((Below.refl w.heap.size w).drew) (Nat.le_refl _)
theorem below_drewN' {B : Nat} {w w' : World} (h : Below B w w') (k : Nat) : Below B w (w'.drewN k) := h.trans ⟨rfl, rfl, rfl, Nat.le_refl _, fun _ _ => rfl⟩
theorem Only.drewN' (w : World) (k g : Nat) : Only w (w.drewN k) g := ⟨rfl, rfl, rfl, Nat.le_refl _, fun _ _ _ => rfl⟩
theorem iinfo : (Try.prog.info? 31).map (fun i => (i.zero, i.size, i.bytes)) = some (some (.agg #[.int .i64 0, .int .i64 0, .string ⟨#[]⟩, .bool false, .slice none 0 0]), 5, 64) := by kernel_rfl
def KOk (w : World) (ks : List KI) : Prop := ∀ q ∈ ks, q.x.ok = true ∧ q.x.bulk ≤ 1048576 ∧ SSl w w.heap.size q.A q.x.L
/-- Behind the first loop. -/
def Kept (w : World) (v : Value) (ks : List KI) (w2 : World) : Prop :=
  w2.ownsRow (w.heap.size + 1) 31 5 v ks.length (kcells ks) ∧ Wr w2 w.heap.size (klay ks) ∧ KOk w ks ∧ Below w.heap.size w w2

set_option maxRecDepth 100000 in
set_option maxHeartbeats 8000000 in
theorem octetBack_rounds (xs : List Item) (b off cap : Nat) (w : World) (hlen : xs.length ≤ 1048576) (hbulk : ∀ x ∈ xs, x.bulk ≤ 1048576) (hin : ItemsIn w w.heap.size b off xs) (hb : b < w.heap.size) :
    Calls Try.prog 4 #[.slice (some ⟨b, off, none⟩) xs.length cap] w fun r w' => r = .returned (.bool true) ∧ Below w.heap.size w w' := by
  have HBULK := Lib.hid hbulk
  have HIN := Lib.hid hin
  clear hbulk hin
  obtain ⟨i0, hi, hz0, hz1, hz2⟩ := info_parts iinfo
  have HI := Lib.hid (And.intro hi (And.intro hz0 (And.intro hz1 hz2))); clear hi hz0 hz1 hz2
  go_enter Try.func4, Try.ntmps4
  go_upto_block 0 with (fail)
  go_cut [4] (fun v4 w2 => ∃ ks : List KI, Kept w v4 ks w2 ∧ ks.length ≤ 40)
  case first =>
    go_wp2_with fail
    go_loopw [4, 5] (fun v4 v5 wr => ∃ (k : Nat) (ks : List KI), k ≤ xs.length ∧ k ≤ 40 ∧ v5 = .int .i64 k ∧ ks.length ≤ k ∧ Kept w v4 ks wr) (fun _ v5 _ => 40 - (intOf v5).toNat)
    case atStart => exact ⟨0, [], Nat.zero_le _, Nat.zero_le _, rfl, Nat.zero_le _, World.ownsRow_nil _ _ _ _, ⟨none, Has.made _ _ _, rfl⟩, (fun q hq => by cases hq), (Below.refl _ _).alloc (Nat.le_refl _) _⟩
    case round =>
      obtain ⟨k, ks, hk, hk40, rfl, hks, hown, hwk, hkok, hbk⟩ := hrel
      by_cases hlt : k < xs.length
      · by_cases h40 : k < 40
        · have hbl := kbytes_len ks (fun q hq => (hkok q hq).2.1)
          have hflen : (Wt.flat (klay ks)).length ≤ 671088640 := by rw [klay_flat]; omega
          have hgood := klay_good ks (fun q hq => ⟨(hkok q hq).1, (hkok q hq).2.1⟩)
          obtain ⟨A, cp, c0, c1, c2, c3, c4, hsl⟩ := HIN.out k hlt
          have hxb := HBULK.out (xs[k]'hlt) (List.getElem_mem hlt)
          generalize (xs[k]'hlt) = x at c0 c1 c2 c3 c4 hsl hxb
          have hcells : ∀ W, Below w.heap.size w W → W.cell? ⟨b, off + k * 5, none⟩ = some (.int .i64 x.K) ∧ W.cell? ⟨b, off + k * 5 + 1, none⟩ = some (.int .i64 x.N) ∧ W.cell? ⟨b, off + k * 5 + 2, none⟩ = some (.string (S x.T)) ∧ W.cell? ⟨b, off + k * 5 + 3, none⟩ = some (.bool x.F) ∧ W.cell? ⟨b, off + k * 5 + 4, none⟩ = some (.slice A x.L.length cp) := fun W hW =>
            ⟨(hW.cell (p := ⟨b, off + k * 5, none⟩) hb).trans c0, (hW.cell (p := ⟨b, off + k * 5 + 1, none⟩) hb).trans c1, (hW.cell (p := ⟨b, off + k * 5 + 2, none⟩) hb).trans c2, (hW.cell (p := ⟨b, off + k * 5 + 3, none⟩) hb).trans c3, (hW.cell (p := ⟨b, off + k * 5 + 4, none⟩) hb).trans c4⟩
          have HCELLS := Lib.hid hcells; clear hcells c0 c1 c2 c3 c4
          obtain ⟨c0, c1, c2, c3, c4⟩ := HCELLS.out wr hbk
          have hk0 : (0 : Int) ≤ (k : Int) := by omega
          have hki : (k : Int) < (xs.length : Int) := by omega
          have hIV : ItemV wr w.heap.size x (.agg #[.int .i64 x.K, .int .i64 x.N, .string (S x.T), .bool x.F, .slice A x.L.length cp]) := ⟨A, cp, rfl, hsl.below hbk⟩
          have hLd := laid_any x w.heap.size _ wr hIV hbk.size hxb
          have hLy := fun W (hW : Wr W w.heap.size (klay ks)) (hB : Below w.heap.size wr W) => lay_any x w.heap.size w.heap.size _ (klay ks) W (hIV.below hB) hW (Nat.le_refl _) (by omega) hxb
          obtain ⟨okb, hokb⟩ : ∃ o, x.ok = o := ⟨_, rfl⟩
          rw [hokb] at hLd
          have HLd := Lib.hid hLd; clear hLd
          have HLy := Lib.hid hLy; clear hLy
          have hblt : b < wr.heap.size := Nat.lt_of_lt_of_le hb hbk.size
          have HX := Lib.hid (And.intro hxb (And.intro hsl (And.intro hkok hokb))); clear hxb hsl hkok hokb hIV hbl hflen hgood
          have hk1 : k + 1 ≤ 40 := by omega
          have HO := Lib.hid hown; clear hown
          cases okb
          · go_wp2_with fail
            refine (HLd.out).mono ?_
            rintro r1 w1 ⟨rfl, hb1⟩
            go_wp2_with fail
            go_roundw
            case rel => exact ⟨k + 1, ks, by omega, hk1, by go_num, by omega, own_below HO.out (Only.of_below hb1 w.heap.size) (Nat.lt_succ_self _), hwk.below hb1 (Nat.le_refl _), HX.out.2.2.1, hbk.trans (hb1.mono hbk.size)⟩
            case measure => simp [intOf]; omega
          · go_wp2_with fail
            refine (HLd.out).mono ?_
            rintro r1 w1 ⟨rfl, hb1⟩
            have hb01 := hbk.trans (hb1.mono hbk.size)
            obtain ⟨c0, c1, c2, c3, c4⟩ := HCELLS.out w1 hb01
            go_wp2_with fail
            refine (HLy.out _ (hwk.below hb1 (Nat.le_refl _)) (hb1.mono hbk.size)).mono ?_
            rintro r2 w2 ⟨rfl, hw2, ho2⟩
            have hb2 : Below w.heap.size w w2 := ho2.below hb01 (Nat.le_trans hbk.size hb1.size) (Nat.le_refl _)
            obtain ⟨c0, c1, c2, c3, c4⟩ := HCELLS.out w2 hb2
            have hown2 := own_below (own_below HO.out (Only.of_below hb1 w.heap.size) (Nat.lt_succ_self _)) ho2 (Nat.lt_succ_self _)
            have hsz2 : w.heap.size + 1 ≤ w2.heap.size := hw2.lt
            have hown2a := hown2.alloc (.cells #[.int .i64 x.K, .int .i64 x.N, .string (S x.T), .bool x.F, .slice A x.L.length cp] 31)
            have HO2 := Lib.hid hown2a; clear hown2a hown2
            have hmade : ∀ (j : Nat) (u : Value), (KI.cells ⟨x, A, cp⟩)[j]? = some u → (w2.alloc (.cells #[.int .i64 x.K, .int .i64 x.N, .string (S x.T), .bool x.F, .slice A x.L.length cp] 31)).cell? ((⟨w2.heap.size, 0, none⟩ : Addr).add j) = some u := fun j u hu => by
              rw [add_plain, Nat.zero_add, (Has.made w2 _ _).cell]
              show (KI.cells ⟨x, A, cp⟩).toArray[j]? = some u
              rw [List.getElem?_toArray]
              exact hu
            have HM := Lib.hid hmade; clear hmade
            go_wp2_with (at_builtin; refine wpList_append_own _ rfl (.tmp 43) (.tmp 48) 22 rfl (w.heap.size + 1) 31 i0 (.agg #[.int .i64 0, .int .i64 0, .string ⟨#[]⟩, .bool false, .slice none 0 0]) 5 64 Try.underlying22 HI.out.1 HI.out.2.1 HI.out.2.2.1 HI.out.2.2.2 rfl (by decide) u4 ks.length (kcells ks) rfl HO2.out ⟨w2.heap.size, 0, none⟩ 1 1 (KI.cells ⟨x, A, cp⟩) rfl rfl HM.out (kcells_one _) (by simp only [maxLen]; omega) (by omega) (by simp; omega) ?_; intro v8 w3 hown3 hg3 hnil3)
            have hty := fun k hk => own_type HO2.out (k := k) hk
            have hw3 := (hw2.below ((Below.refl _ _).alloc (Nat.le_refl _) (.cells #[.int .i64 x.K, .int .i64 x.N, .string (S x.T), .bool x.F, .slice A x.L.length cp] 31)) (Nat.le_refl _)).grown hg3 hty
            have hrow : ∀ k, u4.ownBlock = some k → w.heap.size ≤ k := fun k hk => Nat.le_of_succ_le (HO2.out.lt k hk).1
            have hb3 : Below w.heap.size w w3 := hb2.grown (grown_alloc _ hg3) (Nat.le_of_succ_le hsz2) hrow
            rw [← kcells_snoc ks ⟨x, A, cp⟩] at hown3
            have hll : ks.length + 1 = (ks ++ [(⟨x, A, cp⟩ : KI)]).length := by simp
            rw [hll] at hown3
            rw [← klay_snoc ks ⟨x, A, cp⟩] at hw3
            clear hg3 hnil3 hty hrow HO2 HM
            go_wp2_with fail
            go_roundw
            case rel =>
              refine ⟨k + 1, ks ++ [⟨x, A, cp⟩], by omega, hk1, by go_num, by rw [← hll]; omega, hown3, hw3, fun q hq => ?_, hb3⟩
              rcases List.mem_append.1 hq with hq | hq
              · exact HX.out.2.2.1 q hq
              · rw [List.mem_singleton] at hq
                subst hq
                exact ⟨HX.out.2.2.2, HX.out.1, HX.out.2.1⟩
            case measure => simp [intOf]; omega
        · have hke : k = 40 := by omega
          have hki : ¬ (k : Int) < 40 := by omega
          have hkl : (k : Int) < (xs.length : Int) := by omega
          clear hke
          go_wp2_with fail
          go_meet
          case rel => exact ⟨ks, ⟨hown, hwk, hkok, hbk⟩, by omega⟩
      · have hke : ¬ (k : Int) < (xs.length : Int) := by omega
        go_wp2_with fail
        go_meet
        case rel => exact ⟨ks, ⟨hown, hwk, hkok, hbk⟩, by omega⟩
  case rest =>
    obtain ⟨ks, ⟨hown, hwk, hkok, hbk⟩, hk40⟩ := hcut
    obtain ⟨A4, cap4, rfl, hrow⟩ := own_open5 hown
    have hbl := kbytes_len ks (fun q hq => (hkok q hq).2.1)
    have hgood := klay_good ks (fun q hq => ⟨(hkok q hq).1, (hkok q hq).2.1⟩)
    have hfl := klay_flat ks
    have hAll := all_good w.heap.size (klay ks) wc hwk hgood (by rw [hfl]; omega)
    rw [hfl] at hAll
    have hkb0 : kbytes (ks.drop 0) = kbytes ks := by rw [List.drop_zero]
    obtain ⟨bs, hbs⟩ : ∃ b, kbytes ks = b := ⟨_, rfl⟩
    rw [hbs] at hAll hkb0 hbl
    have HALL := Lib.hid hAll; clear hAll
    have HKB := Lib.hid (And.intro hkb0 (And.intro hbs hbl)); clear hkb0 hbs hbl hgood hfl
    have HK := Lib.hid hkok; clear hkok
    have HROW := Lib.hid hrow; clear hrow hown hwk
    go_wp2_with fail
    refine (HALL.out).mono ?_
    rintro r1 w1 ⟨rfl, hb1⟩
    have hb01 := hbk.trans (hb1.mono hbk.size)
    go_wp2_with fail
    refine (read_any bs _).mono ?_
    rintro r2 w2 ⟨rfl, hrd2, hb2, hs2⟩
    have HS2 := Lib.hid hs2; clear hs2
    have hb02 := hb01.trans (hb2.mono hb01.size)
    have hbc2 : Below wc.heap.size wc w2 := hb1.trans (hb2.mono hb1.size)
    have hg2 : w1.heap.size + 1 < w2.heap.size := by have := HS2.out; omega
    have hwc1 : wc.heap.size ≤ w1.heap.size := hb1.size
    obtain ⟨g2, hg2e⟩ : ∃ g, w1.heap.size + 1 = g := ⟨_, rfl⟩
    have hbb : w1.heap.size < g2 := by omega
    generalize hbbe : w1.heap.size = bb at hrd2 hg2 hwc1 hg2e hbb ⊢
    rw [hg2e] at hrd2 hg2 ⊢
    clear hb1 hb2 hb01 HALL HS2 hbbe hg2e
    go_wp2_with fail
    go_loopw [11] (fun v11 wr => ∃ j : Nat, j ≤ ks.length ∧ v11 = .int .i64 j ∧ Rd wr g2 bb (kbytes (ks.drop j), 0) ∧ Only w2 wr g2) (fun v11 _ => ks.length - (intOf v11).toNat)
    case atStart => exact ⟨0, Nat.zero_le _, rfl, by rw [HKB.out.1]; exact hrd2, Only.refl _ _⟩
    case round =>
      obtain ⟨j, hj, rfl, hrd, ho⟩ := hrel
      by_cases hlt : j < ks.length
      · obtain ⟨gk, rfl, hgk, hcells⟩ := HROW.out (by omega)
        have hq := HK.out (ks[j]'hlt) (List.getElem_mem hlt)
        have hdr := kbytes_drop ks j hlt
        have hcw : ∀ i, i < 5 → wr.cell? ⟨gk, j * 5 + i, none⟩ = (ks[j]'hlt).cells[i]? := fun i hi =>
          (World.cell?_of_block (a := ⟨gk, j * 5 + i, none⟩) (ho.block gk (Nat.lt_of_lt_of_le hgk hbc2.size) (fun e => by injection e with e; omega))).trans
            ((hbc2.cell (p := ⟨gk, j * 5 + i, none⟩) hgk).trans ((hcells (j * 5 + i) (by omega)).trans (kcells_get ks j i hlt hi)))
        have hbl : (kbytes (ks.drop j)).length ≤ 671088640 := by
          have := kbytes_len (ks.drop j) (fun q hq => (HK.out q (List.mem_of_mem_drop hq)).2.1)
          rw [List.length_drop] at this
          omega
        rw [hdr] at hrd hbl
        generalize (ks[j]'hlt) = q at hq hcw hrd hbl
        obtain ⟨⟨K, N, T, F, L⟩, A, cp⟩ := q
        obtain ⟨rr, hrr⟩ : ∃ r, kbytes (ks.drop (j + 1)) = r := ⟨_, rfl⟩
        rw [hrr] at hrd hbl
        have HRR := Lib.hid hrr; clear hrr hdr hcells
        have c0 : wr.cell? ⟨gk, j * 5, none⟩ = some (.int .i64 K) := hcw 0 (by decide)
        have c1 : wr.cell? ⟨gk, j * 5 + 1, none⟩ = some (.int .i64 N) := hcw 1 (by decide)
        have c2 : wr.cell? ⟨gk, j * 5 + 2, none⟩ = some (.string (S T)) := hcw 2 (by decide)
        have c3 : wr.cell? ⟨gk, j * 5 + 3, none⟩ = some (.bool F) := hcw 3 (by decide)
        have c4 : wr.cell? ⟨gk, j * 5 + 4, none⟩ = some (.slice A L.length cp) := hcw 4 (by decide)
        have hk0 : (0 : Int) ≤ (j : Int) := by omega
        have hki : (j : Int) < (ks.length : Int) := by omega
        clear hcw
        go_upto_region 17 with (fail)
        replace hrd : Rd wr g2 bb ((⟨K, N, T, F, L⟩ : Item).bytes ++ rr, 0) := hrd
        replace hbl : ((⟨K, N, T, F, L⟩ : Item).bytes ++ rr).length ≤ 671088640 := hbl
        replace hq : (⟨K, N, T, F, L⟩ : Item).ok = true ∧ (⟨K, N, T, F, L⟩ : Item).bulk ≤ 1048576 ∧ SSl w w.heap.size A L := hq
        have hbx : g2 < wr.heap.size := hrd.lt
        have HBX := Has.made wr 31 #[.int .i64 K, .int .i64 N, .string (S T), .bool F, .slice A L.length cp]
        have hrd1 := hrd.alloc' (.cells #[.int .i64 K, .int .i64 N, .string (S T), .bool F, .slice A L.length cp] 31)
        have ho1 : Only w2 (wr.alloc (.cells #[.int .i64 K, .int .i64 N, .string (S T), .bool F, .slice A L.length cp] 31)) g2 := ho.trans (Only.of_below ((Below.refl _ _).alloc (Nat.le_refl _) _) g2)
        obtain ⟨bx, hbxe⟩ : ∃ b, wr.heap.size = b := ⟨_, rfl⟩
        rw [hbxe] at HBX hbx ⊢
        have hbxl : bx < (wr.alloc (.cells #[.int .i64 K, .int .i64 N, .string (S T), .bool F, .slice A L.length cp] 31)).heap.size := HBX.lt
        generalize wr.alloc (.cells #[.int .i64 K, .int .i64 N, .string (S T), .bool F, .slice A L.length cp] 31) = W at HBX hrd1 ho1 hbxl ⊢
        clear c0 c1 c2 c3 c4 hrd ho hbxe
        have hne : bx ≠ g2 := by omega
        have hx0 : W.cell? ⟨bx, 0, none⟩ = some (.int .i64 K) := HBX.cell 0
        have hj1 : j + 1 ≤ ks.length := by omega
        have HRD := Lib.hid hrd1; clear hrd1
        have HQ := Lib.hid hq; clear hq
        have HBL := Lib.hid hbl; clear hbl
        by_cases h0 : K = 0
        · subst h0
          have hby : (⟨0, N, T, F, L⟩ : Item).bytes = M.encL N := if_pos rfl
          have hrd1 := HRD.out
          have hbl := HBL.out
          rw [hby] at hrd1 hbl
          have hok : (M.encL N).isEmpty = false := by
            have h := HQ.out.1
            rw [show (⟨0, N, T, F, L⟩ : Item).ok = !(M.encL N).isEmpty from if_pos rfl] at h
            simpa using h
          have hop := fun W' (hW : Rd W' g2 bb (M.encL N ++ rr, 0)) => back_num N rr g2 bb W' hW hok (by rw [List.length_append] at hbl ⊢; omega)
          generalize M.encL N ++ rr = st0 at hop hrd1
          have HOP := Lib.hid hop; clear hop hok hby hbl
          go_wp2_with fail
          have hx1 : W.drew.cell? ⟨bx, 1, none⟩ = some (.int .i64 N) := HBX.cell 1
          have hrd1 := hrd1.drew'
          have HBX : Has W.drew bx 31 #[.int .i64 0, .int .i64 N, .string (S T), .bool F, .slice A L.length cp] := HBX
          have ho1 := ho1.trans (Only.drew' W g2)
          go_region_held3 (fun W' => W'.cell? ⟨bx, 1, none⟩ = some (.int .i64 N)) (first | exact hx1 | go_keep) (first
            | (go_at_call 10; refine (HOP.out _ hrd1).mono ?_; rintro e5 w5 ⟨rfl, hrd5, ho5⟩; have HBX := ho5.has HBX hne; have hx1 : w5.cell? ⟨bx, 1, none⟩ = some (.int .i64 N) := HBX.cell 1))
          all_goals
            go_wp2_with fail
            go_roundw
            case rel => exact ⟨j + 1, hj1, by go_num, by rw [HRR.out]; exact hrd5, ho1.trans ho5⟩
            case measure => simp [intOf]; omega
        · by_cases h1 : K = 1
          · subst h1
            have hby : (⟨1, N, T, F, L⟩ : Item).bytes = (M.encL T.length ++ T) := (if_neg (show ¬ (1 : Int) = 0 by decide)).trans (if_pos rfl)
            have hrd1 := HRD.out
            have hbl := HBL.out
            rw [hby] at hrd1 hbl
            have hT : T.length ≤ 1048576 := Item.bulk_T' _ HQ.out.2.1
            have hop := fun W' (hW : Rd W' g2 bb ((M.encL T.length ++ T) ++ rr, 0)) => back_text T rr g2 bb W' hW hT (by rw [List.length_append] at hbl ⊢; omega)
            generalize (M.encL T.length ++ T) ++ rr = st0 at hop hrd1
            have HOP := Lib.hid hop; clear hop hby hbl hT
            go_wp2_with fail
            have hx1 : W.drew.cell? ⟨bx, 2, none⟩ = some (.string (S T)) := HBX.cell 2
            have hrd1 := hrd1.drew'
            have HBX : Has W.drew bx 31 #[.int .i64 1, .int .i64 N, .string (S T), .bool F, .slice A L.length cp] := HBX
            have ho1 := ho1.trans (Only.drew' W g2)
            go_region_held3 (fun W' => W'.cell? ⟨bx, 2, none⟩ = some (.string (S T))) (first | exact hx1 | go_keep) (first
              | (go_at_call 11; refine (HOP.out _ hrd1).mono ?_; rintro e5 w5 ⟨rfl, hrd5, ho5⟩; have HBX := ho5.has HBX hne; have hx1 : w5.cell? ⟨bx, 2, none⟩ = some (.string (S T)) := HBX.cell 2))
            all_goals
              go_wp2_with fail
              go_roundw
              case rel => exact ⟨j + 1, hj1, by go_num, by rw [HRR.out]; exact hrd5, ho1.trans ho5⟩
              case measure => simp [intOf]; omega
          · by_cases h2 : K = 2
            · subst h2
              have hby : (⟨2, N, T, F, L⟩ : Item).bytes = [if F then 1 else 0] := (if_neg (show ¬ (2 : Int) = 0 by decide)).trans ((if_neg (show ¬ (2 : Int) = 1 by decide)).trans (if_pos rfl))
              have hrd1 := HRD.out
              have hbl := HBL.out
              rw [hby] at hrd1 hbl
              have hT : T.length ≤ 1048576 := Item.bulk_T' _ HQ.out.2.1
              have hop := fun W' (hW : Rd W' g2 bb ([if F then 1 else 0] ++ rr, 0)) => back_flag F rr g2 bb W' hW (by rw [List.length_append] at hbl; omega)
              generalize [if F then 1 else 0] ++ rr = st0 at hop hrd1
              have HOP := Lib.hid hop; clear hop hby hbl hT
              go_wp2_with fail
              have hx1 : W.drew.cell? ⟨bx, 3, none⟩ = some (.bool F) := HBX.cell 3
              have hrd1 := hrd1.drew'
              have HBX : Has W.drew bx 31 #[.int .i64 2, .int .i64 N, .string (S T), .bool F, .slice A L.length cp] := HBX
              have ho1 := ho1.trans (Only.drew' W g2)
              go_region_held3 (fun W' => W'.cell? ⟨bx, 3, none⟩ = some (.bool F)) (first | exact hx1 | go_keep) (first
                | (go_at_call 12; refine (HOP.out _ hrd1).mono ?_; rintro e5 w5 ⟨rfl, hrd5, ho5⟩; have HBX := ho5.has HBX hne; have hx1 : w5.cell? ⟨bx, 3, none⟩ = some (.bool F) := HBX.cell 3))
              all_goals
                go_wp2_with fail
                go_roundw
                case rel => exact ⟨j + 1, hj1, by go_num, by rw [HRR.out]; exact hrd5, ho1.trans ho5⟩
                case measure => simp [intOf]; omega
            · by_cases h3 : K = 3
              · subst h3
                have hby : (⟨3, N, T, F, L⟩ : Item).bytes = T := (if_neg (show ¬ (3 : Int) = 0 by decide)).trans ((if_neg (show ¬ (3 : Int) = 1 by decide)).trans ((if_neg (show ¬ (3 : Int) = 2 by decide)).trans (if_pos rfl)))
                have hrd1 := HRD.out
                have hbl := HBL.out
                rw [hby] at hrd1 hbl
                have hT : T.length ≤ 1048576 := Item.bulk_T' _ HQ.out.2.1
                have hop := fun W' (hW : Rd W' g2 bb (T ++ rr, 0)) => back_raw T rr g2 bb W' hW (by rw [List.length_append] at hbl ⊢; omega)
                generalize T ++ rr = st0 at hop hrd1
                have HOP := Lib.hid hop; clear hop hby hbl hT
                go_wp2_with fail
                have hx1 : W.drew.cell? ⟨bx, 2, none⟩ = some (.string (S T)) := HBX.cell 2
                have hrd1 := hrd1.drew'
                have HBX : Has W.drew bx 31 #[.int .i64 3, .int .i64 N, .string (S T), .bool F, .slice A L.length cp] := HBX
                have ho1 := ho1.trans (Only.drew' W g2)
                go_region_held3 (fun W' => W'.cell? ⟨bx, 2, none⟩ = some (.string (S T))) (first | exact hx1 | go_keep) (first
                  | (go_at_call 13; refine (HOP.out _ hrd1).mono ?_; rintro e5 w5 ⟨rfl, hrd5, ho5⟩; have HBX := ho5.has HBX hne; have hx1 : w5.cell? ⟨bx, 2, none⟩ = some (.string (S T)) := HBX.cell 2))
                all_goals
                  go_wp2_with fail
                  go_roundw
                  case rel => exact ⟨j + 1, hj1, by go_num, by rw [HRR.out]; exact hrd5, ho1.trans ho5⟩
                  case measure => simp [intOf]; omega
              · have e0 : (K == 0) = false := by simpa using h0
                have e1 : (K == 1) = false := by simpa using h1
                have e2 : (K == 2) = false := by simpa using h2
                have e3 : (K == 3) = false := by simpa using h3
                have hby : (⟨K, N, T, F, L⟩ : Item).bytes = M.encL L.length ++ Item.texts L := (if_neg h0).trans ((if_neg h1).trans ((if_neg h2).trans (if_neg h3)))
                clear h0 h1 h2 h3
                have hrd1 := HRD.out
                have hbl := HBL.out
                rw [hby] at hrd1 hbl
                have hL := Item.bulk_L' _ HQ.out.2.1
                have hL' : (L.map fun s => s.length + 1).sum ≤ 1048576 := hL
                have hgw : w.heap.size ≤ g2 := by have := hb02.size; have := hbk.size; omega
                have hbW : Below w.heap.size w W := ho1.below hb02 hb02.size hgw
                have hslW := (HQ.out.2.2.below hbW)
                have hlg := fun W' (hW : SSl W' w.heap.size A L) => longest_any L A cp w.heap.size W' hW hL'
                have hop := fun W' (hW : Rd W' g2 bb (M.encL L.length ++ Item.texts L ++ rr, 0)) (hb : bb < W'.heap.size) => back_texts L rr g2 bb W' hW hL' (by omega) hb
                have hll := Item.length_le_sum L
                have hLl : L.length ≤ 1048576 := by omega
                generalize M.encL L.length ++ Item.texts L ++ rr = st0 at hop hrd1
                have HOP := Lib.hid hop
                have HLG := Lib.hid hlg
                clear hop hlg hby hbl hL hL' hll
                have hbbW : bb < W.drew.heap.size := by show bb < W.heap.size; omega
                go_wp2_with fail
                have hx1 : W.drew.cell? ⟨bx, 4, none⟩ = some (.slice A L.length cp) := HBX.cell 4
                have hrd1 := hrd1.drew'
                have HBX : Has W.drew bx 31 #[.int .i64 K, .int .i64 N, .string (S T), .bool F, .slice A L.length cp] := HBX
                have ho1 := ho1.trans (Only.drew' W g2)
                have hsl1 : SSl W.drew w.heap.size A L := hslW
                go_region_held3 (fun W' => W'.cell? ⟨bx, 4, none⟩ = some (.slice A L.length cp)) (first | exact hx1 | go_keep) (first
                  | (go_at_call 15; refine (HLG.out _ hsl1).mono ?_; rintro e5 w5 ⟨rfl, rfl⟩)
                  | (go_at_call 14; refine (HOP.out _ hrd1 hbbW).mono ?_; rintro e5 w5 ⟨v5, rfl, hown5, hrd5, ho5⟩; have HBX := ho5.has HBX hne; have hx1 : w5.cell? ⟨bx, 4, none⟩ = some (.slice A L.length cp) := HBX.cell 4))
                all_goals
                  obtain ⟨A5, cap5, rfl, h5⟩ := own_open1 hown5
                  have hb5 : Below w.heap.size w w5 := ho5.below hbW.drew hbW.size hgw
                  have ho25 := ho1.trans ho5
                  have H5 := Lib.hid h5; clear h5 hown5
                  have HSL := Lib.hid (HQ.out.2.2.below hb5)
                  clear hslW hsl1 ho5 hrd1 ho1
                  go_wp2_with fail
                  obtain ⟨wo, hwo⟩ : ∃ wo : World, wo = w5 := ⟨_, rfl⟩
                  go_loopw [13, 15] (fun v13 v15 wx => ∃ i : Nat, i ≤ L.length ∧ v15 = .int .i64 i ∧ v13 = .bool true ∧ Rd wx g2 bb (rr, 0) ∧ Only w2 wx g2 ∧ Below w5.heap.size w5 wx) (fun _ v15 _ => L.length - (intOf v15).toNat)
                  case atStart => exact ⟨0, Nat.zero_le _, rfl, rfl, hrd5, ho25, Below.refl _ _⟩
                  case round =>
                    obtain ⟨i, hi, rfl, rfl, hrd6, ho6, hb6⟩ := hrel
                    by_cases hil : i < L.length
                    · obtain ⟨g5, rfl, hc5⟩ := H5.out (by omega)
                      obtain ⟨bl, off5, rfl, hblt, hrow5⟩ := HSL.out (by rintro rfl; simp at hil)
                      have d1 := hc5 i hil
                      have d1' : w5.cell? ⟨g5, i, none⟩ = some (.string (S (L[i]'hil))) := by rw [d1]; simp [strs, List.getElem?_eq_getElem hil]
                      have d2 := hrow5 i hil
                      generalize (L[i]'hil) = tt at d1' d2
                      have q1 := (hb6.cell (p := ⟨g5, i, none⟩) (World.block_lt_of_cell? w5 _ d1')).trans d1'
                      have q2 := (hb6.cell (p := ⟨bl, off5 + i, none⟩) (World.block_lt_of_cell? w5 _ d2)).trans d2
                      have q3 := (hb6.cell (p := ⟨bx, 4, none⟩) (World.block_lt_of_cell? w5 _ hx1)).trans hx1
                      have hi0 : (0 : Int) ≤ (i : Int) := by omega
                      have hii : (i : Int) < (L.length : Int) := by omega
                      clear d1 d1' d2 hc5 hrow5
                      go_wp2_with fail
                      go_quiet (fail)
                      go_wp2_with fail
                      go_roundw
                      case rel => exact ⟨i + 1, by omega, by go_num, rfl, hrd6.below (below_drewN' (Below.refl _ _) _) (Nat.le_refl _), ho6.trans (Only.drewN' _ _ _), below_drewN' hb6 _⟩
                      case measure => simp [intOf]; omega
                    · have hie : ¬ (i : Int) < (L.length : Int) := by omega
                      go_wp2_with fail
                      go_roundw
                      case rel => exact ⟨j + 1, hj1, by go_num, by rw [HRR.out]; exact hrd6, ho6⟩
                      case measure => simp [intOf]; omega
      · have hje : j = ks.length := by omega
        have hki : ¬ (j : Int) < (ks.length : Int) := by omega
        have hnil : kbytes (ks.drop j) = [] := by rw [hje, List.drop_length]; rfl
        rw [hnil] at hrd
        have hEnd := end_rd g2 bb ([], 0) wr hrd
        rw [R.fin_fwd] at hEnd
        have HEND := Lib.hid hEnd; clear hEnd hnil hje hlt hj hrd
        have hgw : w.heap.size ≤ g2 := by have := hb02.size; have := hbk.size; omega
        have hb3 : Below w.heap.size w wr := ho.below hb02 hb02.size hgw
        go_wp2_with fail
        refine (HEND.out).mono ?_
        rintro r6 w6 ⟨rfl, hrd6, ho6⟩
        have hb6 : Below w.heap.size w w6 := ho6.below hb3 hb3.size hgw
        go_wp2_with fail
        refine (awake_any _).mono ?_
        rintro r7 w7 ⟨rfl, hb7⟩
        go_wp2_with fail
        go_ret
        exact ⟨rfl, hb6.trans (hb7.mono hb6.size)⟩

set_option maxRecDepth 100000 in
set_option maxHeartbeats 2000000 in
theorem octetBack_empty (A : Option Addr) (cap : Nat) (w : World) :
    Calls Try.prog 4 #[.slice A 0 cap] w fun r w' => r = .returned (.bool true) ∧ Below w.heap.size w w' := by
  have hb0 : Below w.heap.size w (w.alloc (.cells #[.pointer none, .int .i64 0, .bool false] 26)) := (Below.refl _ _).alloc (Nat.le_refl _) _
  have hw0 : Wr (w.alloc (.cells #[.pointer none, .int .i64 0, .bool false] 26)) w.heap.size ([], false) := ⟨none, Has.made _ _ _, rfl⟩
  have hAll := all_good w.heap.size ([], false) _ hw0 rfl (by simp [Wt.flat])
  have HALL := Lib.hid (show Calls Try.prog 7 #[.pointer (some ⟨w.heap.size, 0, none⟩)] (w.alloc (.cells #[.pointer none, .int .i64 0, .bool false] 26)) fun r w' => r = .returned (.tuple #[.string (S []), .bool true]) ∧ Below (w.alloc (.cells #[.pointer none, .int .i64 0, .bool false] 26)).heap.size (w.alloc (.cells #[.pointer none, .int .i64 0, .bool false] 26)) w' from hAll)
  clear hAll hw0
  go_enter Try.func4, Try.ntmps4
  go_wp2_with fail
  refine wp_loop_rounds 1 ?_
  rw [rounds_succ]
  go_wp2_with fail
  refine (HALL.out).mono ?_
  rintro r1 w1 ⟨rfl, hb1⟩
  have hb01 := hb0.trans (hb1.mono hb0.size)
  go_wp2_with fail
  refine (read_any [] _).mono ?_
  rintro r2 w2 ⟨rfl, hrd2, hb2, hs2⟩
  have HS2 := Lib.hid hs2; clear hs2
  have hb02 := hb01.trans (hb2.mono hb01.size)
  have hEnd := end_rd (w1.heap.size + 1) w1.heap.size ([], 0) w2 hrd2
  rw [R.fin_fwd] at hEnd
  have HEND := Lib.hid hEnd; clear hEnd
  go_wp2_with fail
  refine wp_loop_rounds 1 ?_
  rw [rounds_succ]
  go_wp2_with fail
  refine (HEND.out).mono ?_
  rintro r6 w6 ⟨rfl, hrd6, ho6⟩
  have hb6 : Below w.heap.size w w6 := ho6.below hb02 hb02.size (Nat.le_succ_of_le hb01.size)
  go_wp2_with fail
  refine (awake_any _).mono ?_
  rintro r7 w7 ⟨rfl, hb7⟩
  go_wp2_with fail
  go_ret
  exact ⟨rfl, hb6.trans (hb7.mono hb6.size)⟩
end Go.Proofs.Ytclocjfnkaaenaa
