/-
  The contract of FindChecks.
-/
import Derived.Test.YtfcmkbeilpclmaaFndD
import Derived.Test.YtfcmkbeilpclmaaFndE
import Derived.Test.YtfcmkbeilpclmaaFndI
import Derived.Test.YtfcmkbeilpclmaaFndArg
import Derived.Test.YtfcmkbeilpclmaaFndPapK
namespace Go.Proofs.Ytfcmkbeilpclmaa
open Go.ChangeShapes Go.WideShapes Go.ChangeAt Go.RowKit
open Go.ChangeMaps (open_string shut_string)
set_option linter.unusedVariables false

/-- Where FindChecks stands. -/
structure FC (w W : World) (A : Option Addr) (T : List Fnd.Trm) (cap : Nat) (nm : List UInt8) (d : Bool) (m : Int) (p : Ppr) : Prop where
  q : QHas W w.heap.size A T.length cap nm d m
  ph : Has W (w.heap.size + 1) 27 #[.string (S p.id), .int .i64 p.cls, .slice p.A p.L.length p.cap]
  row : RowTm W A T
  pin : p.In W
  up : Below w.heap.size w W
theorem FC.below {w W W' : World} {A : Option Addr} {T : List Fnd.Trm} {cap : Nat} {nm : List UInt8} {d : Bool} {m : Int} {p : Ppr} (h : FC w W A T cap nm d m p) (hb : Below W.heap.size W W') : FC w W' A T cap nm d m p :=
  ⟨h.q.below hb h.q.lt, h.ph.below hb h.ph.lt, h.row.below hb, h.pin.below hb, h.up.trans (hb.mono h.up.size)⟩
abbrev ChkS (g : Nat) (A : Option Addr) (n cap : Nat) (g2 : Nat) (id : List UInt8) (cls : Int) (PA : Option Addr) (pn pcap : Nat) (bt ot : Nat) (nn : List UInt8) (lk : Int) (lf : Bool) (li : Int) (lb : Nat) (lt : List UInt8) (hk : Int) (hf : Bool) (hi : Int) (hb : Nat) (ht : List UInt8) (a b c : Bool) (W : World) : Prop :=
  W.cell? ⟨g, 0, none⟩ = some (.slice A n cap) ∧ (W.cell? ⟨g2, 0, none⟩ = some (.string (S id)) ∧ W.cell? ⟨g2, 1, none⟩ = some (.int .i64 cls) ∧ W.cell? ⟨g2, 2, none⟩ = some (.slice PA pn pcap)) ∧
  (W.cell? ⟨bt, ot, none⟩ = some (.string (S nn)) ∧ W.cell? ⟨bt, ot + 1, none⟩ = some (.int .i64 lk) ∧ W.cell? ⟨bt, ot + 2, none⟩ = some (.bool lf) ∧ W.cell? ⟨bt, ot + 3, none⟩ = some (.int .i64 li) ∧ W.cell? ⟨bt, ot + 4, none⟩ = some (.int .u64 (lb : Int)) ∧ W.cell? ⟨bt, ot + 5, none⟩ = some (.string (S lt)) ∧
  W.cell? ⟨bt, ot + 6, none⟩ = some (.int .i64 hk) ∧ W.cell? ⟨bt, ot + 7, none⟩ = some (.bool hf) ∧ W.cell? ⟨bt, ot + 8, none⟩ = some (.int .i64 hi) ∧ W.cell? ⟨bt, ot + 9, none⟩ = some (.int .u64 (hb : Int)) ∧ W.cell? ⟨bt, ot + 10, none⟩ = some (.string (S ht)) ∧
  W.cell? ⟨bt, ot + 11, none⟩ = some (.bool a) ∧ W.cell? ⟨bt, ot + 12, none⟩ = some (.bool b) ∧ W.cell? ⟨bt, ot + 13, none⟩ = some (.bool c))

set_option maxHeartbeats 16000000 in
set_option maxRecDepth 100000 in
theorem findChecks_any {w : World} {T0 : List Fnd.Trm} {A0 : Option Addr} {cap0 : Nat} (nm0 : List UInt8) (d : Bool) (m : Int) (hrow : RowTm w A0 T0) (hlc : T0.length ≤ cap0) (hcm : cap0 ≤ 9223372036854775807) (hok : ∀ t ∈ T0, t.low.ok ∧ t.high.ok)
    (id0 : List UInt8) (cls : Int) (L0 : List Fld) (b0 pcap0 : Nat) (PA0 : Option Addr) (hF : FSl w b0 PA0 L0) (hL : L0.length ≤ 4611686018427387904) (hid : id0.length ≤ 4611686018427387904)
    (hN : ∀ x ∈ L0, x.ok ∧ x.name.length ≤ 1000000000000000 ∧ x.val.text.length ≤ 1000000000000000) :
    Calls Try.prog 3 #[.agg #[.slice A0 T0.length cap0, .string (S nm0), .bool d, .int .i64 m], .agg #[.string (S id0), .int .i64 cls, .slice PA0 L0.length pcap0]] w fun e w' => e = .returned (.bool true) ∧ Below w.heap.size w w' := by
  have HQF : Hid (_ : Prop) := Lib.hid (fun W (h : Below w.heap.size w W) (h2 : w.heap.size + 2 ≤ W.heap.size) => fewQ_any (w := W) (T := T0) (A := A0) (cap := cap0) [w.heap.size, w.heap.size + 1] (by intro x hx; simp at hx; omega) nm0 d m (hrow.below h) hlc hcm)
  have HPF : Hid (_ : Prop) := Lib.hid (fun W (h : Below w.heap.size w W) => few_any id0 cls L0 b0 pcap0 PA0 W (hF.below h (Nat.le_refl _)) hL hid (fun x hx => ⟨by have := (hN x hx).2.1; omega, by have := (hN x hx).2.2; omega⟩))
  have hT1 := Fnd.fewTs_len T0
  have hok1 := Fnd.fewTs_ok hok
  have hl1 := Pap.few_len L0
  have hpok := Pap.few_ok L0 (fun x hx => (hN x hx).1)
  have hnm1 : (nm0.take 300).length ≤ 300 := by rw [List.length_take]; omega
  have HA := Lib.hid (fun W => fawake_any W)
  unfold FewQ at HQF
  unfold FewPost at HPF
  clear hrow hlc hcm hok hF hL hid hN
  generalize Fnd.fewTs T0 = T at hT1 hok1 HQF
  generalize Pap.few L0 = L at hl1 hpok HPF
  generalize nm0.take 300 = nm at hnm1 HQF
  generalize id0.take 300 = id at HPF
  have HOK := Lib.hid (And.intro hok1 hpok)
  clear hok1 hpok
  have hQ := (Has.made w 24 #[.slice A0 T0.length cap0, .string (S nm0), .bool d, .int .i64 m]).of_alloc (.cells #[.string (S id0), .int .i64 cls, .slice PA0 L0.length pcap0] 27)
  have hP := has_new w (.cells #[.slice A0 T0.length cap0, .string (S nm0), .bool d, .int .i64 m] 24) 27 #[.string (S id0), .int .i64 cls, .slice PA0 L0.length pcap0]
  have hB := up2 (w := w) (.cells #[.slice A0 T0.length cap0, .string (S nm0), .bool d, .int .i64 m] 24) (.cells #[.string (S id0), .int .i64 cls, .slice PA0 L0.length pcap0] 27)
  have hz : ((w.alloc (.cells #[.slice A0 T0.length cap0, .string (S nm0), .bool d, .int .i64 m] 24)).alloc (.cells #[.string (S id0), .int .i64 cls, .slice PA0 L0.length pcap0] 27)).heap.size = w.heap.size + 2 := by simp
  go_enter Try.func3, Try.ntmps3
  go_upto_region 1 with fail
  generalize (w.alloc (.cells #[.slice A0 T0.length cap0, .string (S nm0), .bool d, .int .i64 m] 24)).alloc (.cells #[.string (S id0), .int .i64 cls, .slice PA0 L0.length pcap0] 27) = W0 at hQ hP hB hz ⊢
  have HQ := Lib.hid hQ
  have HP := Lib.hid hP
  have HB := Lib.hid hB
  obtain ⟨q0, q1, q2, q3⟩ := qlies hQ
  clear hQ hP hB
  go_wp2_with fail
  refine (HQF.out _ HB.out (Nat.le_of_eq hz.symm)).mono ?_
  rintro r W1 ⟨A1, cap1, rfl, hrow1, hlc1, hcm1, hb1⟩
  have hQ1 := HQ.out.below hb1 HQ.out.lt
  have hP1 := HP.out.below hb1 HP.out.lt
  have HB1 := Lib.hid (HB.out.trans (hb1.mono HB.out.size))
  have hs1 := hb1.size
  clear hb1 HQ HP HB HQF q0 q1 q2 q3
  obtain ⟨q0, q1, q2, q3⟩ := qlies hQ1
  have f0 := hQ1.free 0; have f1 := hQ1.free 1; have f2 := hQ1.free 2; have f3 := hQ1.free 3
  have hQ2 : QHas ((((W1.setCell ⟨w.heap.size, 0, none⟩ (.slice A1 T.length cap1)).setCell ⟨w.heap.size, 1, none⟩ (.string (S nm))).setCell ⟨w.heap.size, 2, none⟩ (.bool d)).setCell ⟨w.heap.size, 3, none⟩ (.int .i64 m)) w.heap.size A1 T.length cap1 nm d m := by
    have := (((hQ1.set 0 (.slice A1 T.length cap1)).set 1 (.string (S nm))).set 2 (.bool d)).set 3 (.int .i64 m)
    simpa using this
  have hoo := (((Only.set W1 w.heap.size 0 (.slice A1 T.length cap1)).trans (Only.set _ w.heap.size 1 (.string (S nm)))).trans (Only.set _ w.heap.size 2 (.bool d))).trans (Only.set _ w.heap.size 3 (.int .i64 m))
  have hP2 := hoo.has hP1 (by omega : w.heap.size + 1 ≠ w.heap.size)
  have hB2 := hoo.below HB1.out HB1.out.size (Nat.le_refl _)
  have hs2 := hoo.size
  have hrow2 := hrow1.mv (Mv.of_only hoo (s := [w.heap.size, w.heap.size + 1]) (by simp)) (by simp)
  have HQ2 := Lib.hid hQ2
  have HP2 := Lib.hid hP2
  have HB2 := Lib.hid hB2
  have HR2 := Lib.hid hrow2
  clear hQ2 hP2 hB2 hrow1 hrow2 hQ1 hP1 hoo HB1
  go_upto_region 2 with fail
  generalize (((W1.setCell ⟨w.heap.size, 0, none⟩ (.slice A1 T.length cap1)).setCell ⟨w.heap.size, 1, none⟩ (.string (S nm))).setCell ⟨w.heap.size, 2, none⟩ (.bool d)).setCell ⟨w.heap.size, 3, none⟩ (.int .i64 m) = W2 at HQ2 HP2 HB2 HR2 hs2 ⊢
  clear q0 q1 q2 q3 f0 f1 f2 f3
  have p0 := HP2.out.cell 0
  have p1 := HP2.out.cell 1
  have p2 := HP2.out.cell 2
  go_wp2_with fail
  refine (HPF.out _ HB2.out).mono ?_
  rintro r W3 ⟨PA, b, pcap, rfl, hbb, hF3, -, hb3⟩
  have hP3 := HP2.out.below hb3 HP2.out.lt
  have f0 := hP3.free 0; have f1 := hP3.free 1; have f2 := hP3.free 2
  clear p0 p1 p2
  have p0 := hP3.cell 0
  have p1 := hP3.cell 1
  have p2 := hP3.cell 2
  have hoo := ((Only.set W3 (w.heap.size + 1) 0 (.string (S id))).trans (Only.set _ (w.heap.size + 1) 1 (.int .i64 cls))).trans (Only.set _ (w.heap.size + 1) 2 (.slice PA L.length pcap))
  have hP4 : Has (((W3.setCell ⟨w.heap.size + 1, 0, none⟩ (.string (S id))).setCell ⟨w.heap.size + 1, 1, none⟩ (.int .i64 cls)).setCell ⟨w.heap.size + 1, 2, none⟩ (.slice PA L.length pcap)) (w.heap.size + 1) 27 #[.string (S id), .int .i64 cls, .slice PA L.length pcap] := by
    have := ((hP3.set 0 (.string (S id))).set 1 (.int .i64 cls)).set 2 (.slice PA L.length pcap)
    simpa using this
  have HX := Lib.hid (show FC w (((W3.setCell ⟨w.heap.size + 1, 0, none⟩ (.string (S id))).setCell ⟨w.heap.size + 1, 1, none⟩ (.int .i64 cls)).setCell ⟨w.heap.size + 1, 2, none⟩ (.slice PA L.length pcap)) A1 T cap1 nm d m ⟨id, cls, PA, L, pcap, b⟩ from
    ⟨hoo.has (HQ2.out.below hb3 HQ2.out.lt) (by omega), hP4, ((HR2.out.mv (Mv.of_below hb3 []) (by simp)).mv (Mv.of_only hoo (s := [w.heap.size, w.heap.size + 1]) (by simp)) (by simp)).sub (by simp),
      ⟨hF3.only hoo (show b ≠ w.heap.size + 1 by omega), (show L.length ≤ 1000000 by omega), HOK.out.2⟩, hoo.below (HB2.out.trans (hb3.mono HB2.out.size)) (HB2.out.trans (hb3.mono HB2.out.size)).size (by omega)⟩)
  clear hP4 hoo hF3 hP3 hb3 HQ2 HP2 HB2 HR2 HPF
  go_upto_region 3 with fail
  generalize ((W3.setCell ⟨w.heap.size + 1, 0, none⟩ (.string (S id))).setCell ⟨w.heap.size + 1, 1, none⟩ (.int .i64 cls)).setCell ⟨w.heap.size + 1, 2, none⟩ (.slice PA L.length pcap) = W4 at HX ⊢
  clear p0 p1 p2 f0 f1 f2 hbb hs2 hs1
  have HC1 : Hid (_ : Prop) := Lib.hid (fun W h => fcheck_any (w := W) (T := T) (A := A1) (cap := cap1) nm d m h HOK.out.1 (by omega) (by omega))
  have HC2 : Hid (_ : Prop) := Lib.hid (fun W h => lfcheck_any (w := W) (T := T) (A := A1) (cap := cap1) nm d m h HOK.out.1 (by omega) (by omega))
  have hke : (Fnd.check ⟨T, nm, d, m⟩ == Fnd.check ⟨T, nm, d, m⟩) = true := by simp
  generalize Fnd.check ⟨T, nm, d, m⟩ = ck at HC1 HC2 hke
  replace HX := Lib.hid (HX.out.below (W' := W4.drew) ⟨rfl, rfl, rfl, Nat.le_refl _, fun _ _ => rfl⟩)
  have hx : QryS w.heap.size A1 T.length cap1 nm d m W4.drew := qlies HX.out.q
  refine wp_region_held_drew (S := QryS w.heap.size A1 T.length cap1 nm d m) (by kernel_rfl) hx (fun hHeld => ?_)
  first
  | (refine take_wanted (i := 0) (v := ?_) rfl rfl (by kernel_rfl) (by kernel_rfl) (by kernel_rfl) (fun _ _ _ h => h) (by rfl) (by assumption) ?_ ?_; rotate_left; (focus (intro w hSw; (try dsimp only at hSw); go_simp; first | done | with_reducible rfl)); (simp only [Act.at, List.setIfInBounds_toArray, List.set_cons_zero, List.set_cons_succ]))
  | (refine take_unwanted (i := 0) rfl rfl (by kernel_rfl) (by kernel_rfl) (by kernel_rfl) (fun _ _ _ h => h) (by rfl) (by assumption) ?_; (simp only [Act.at, List.setIfInBounds_toArray, List.set_cons_zero, List.set_cons_succ]))
  first
  | (refine take_wanted (i := 2) (v := ?_) rfl rfl (by kernel_rfl) (by kernel_rfl) (by kernel_rfl) (fun _ _ _ h => h) (by rfl) (by assumption) ?_ ?_; rotate_left; (focus (intro w hSw; (try dsimp only at hSw); go_simp; first | done | with_reducible rfl)); (simp only [Act.at, List.setIfInBounds_toArray, List.set_cons_zero, List.set_cons_succ]))
  | (refine take_unwanted (i := 2) rfl rfl (by kernel_rfl) (by kernel_rfl) (by kernel_rfl) (fun _ _ _ h => h) (by rfl) (by assumption) ?_; (simp only [Act.at, List.setIfInBounds_toArray, List.set_cons_zero, List.set_cons_succ]))
  refine take_call (i := 1) (by kernel_rfl) rfl rfl (by rfl) (fun K hK => ?_)
  go_simp
  refine (HC1.out _ HX.out.row).mono ?_
  rintro r W5 ⟨rfl, hb5⟩
  clear hx
  replace HX := Lib.hid (HX.out.below hb5); clear hb5
  have hx := qlies HX.out.q
  refine hK.out _ _ hx (fun hHeld => ?_)
  clear hK K
  try simp only [Act.put, List.setIfInBounds_toArray, List.set_cons_zero, List.set_cons_succ]
  refine take_call (i := 3) (by kernel_rfl) rfl rfl (by rfl) (fun K hK => ?_)
  go_simp
  refine (HC2.out _ HX.out.row).mono ?_
  rintro r W6 ⟨rfl, hb6⟩
  clear hx
  replace HX := Lib.hid (HX.out.below hb6); clear hb6
  have hx := qlies HX.out.q
  refine hK.out _ _ hx (fun hHeld => ?_)
  clear hK K
  try simp only [Act.put, List.setIfInBounds_toArray, List.set_cons_zero, List.set_cons_succ]
  first
  | (refine take_wanted (i := 4) (v := ?_) rfl rfl (by kernel_rfl) (by kernel_rfl) (by kernel_rfl) (fun _ _ _ h => h) (by rfl) (by assumption) ?_ ?_; rotate_left; (focus (intro w hSw; (try dsimp only at hSw); go_simp; first | done | with_reducible rfl)); (simp only [Act.at, List.setIfInBounds_toArray, List.set_cons_zero, List.set_cons_succ]))
  | (refine take_unwanted (i := 4) rfl rfl (by kernel_rfl) (by kernel_rfl) (by kernel_rfl) (fun _ _ _ h => h) (by rfl) (by assumption) ?_; (simp only [Act.at, List.setIfInBounds_toArray, List.set_cons_zero, List.set_cons_succ]))
  refine wpAnyH_done (by kernel_rfl) ?_ _
  clear hHeld HC1 HC2
  go_wp2_with fail
  go_loopg [5] T.length (fun g1 v5 wr => ∃ k : Nat, k ≤ T.length ∧ v5 = .int .i64 (k : Int) ∧ T.length - k ≤ g1 ∧ Below W6.heap.size W6 wr)
  case atStart => exact ⟨0, Nat.zero_le _, rfl, by omega, Below.refl _ _⟩
  case round =>
    clear hx
    obtain ⟨k, hk, rfl, hg, hbk⟩ := hrel
    have HY := Lib.hid (HX.out.below hbk)
    have q0 : wr.cell? ⟨w.heap.size, 0, none⟩ = some (.slice A1 T.length cap1) := HY.out.q.cell 0
    by_cases hlt : k < T.length
    · have hki : (k : Int) < (T.length : Int) := by omega
      have hki0 : (0 : Int) ≤ (k : Int) := by omega
      obtain ⟨bt, ot, rfl, hbt, hct⟩ := RowTm.get HY.out.row k hlt
      have hokx := HOK.out.1 _ (List.getElem_mem hlt)
      have HH1 : Hid (_ : Prop) := Lib.hid (fun W h => holds_any T[k] ⟨id, cls, PA, L, pcap, b⟩ hokx W h)
      have HH2 : Hid (_ : Prop) := Lib.hid (fun W h => lholds_any T[k] ⟨id, cls, PA, L, pcap, b⟩ hokx W h)
      have hkz : (Fnd.holds T[k] L == Fnd.holds T[k] L) = true := by simp
      generalize Fnd.holds T[k] L = z at HH1 HH2 hkz
      generalize T[k] = x at hct HH1 HH2
      clear hokx
      obtain ⟨n, ⟨lk, lf, li, lb, lt⟩, ⟨hk1, hf, hi, hb, ht⟩, a, bb, c⟩ := x
      rw [Fnd.Trm.v_eq] at HH1 HH2
      unfold Ppr.v at HH1 HH2
      dsimp only at HH1 HH2
      have HS : Hid (∀ W, Below wr.heap.size wr W → ChkS w.heap.size (some ⟨bt, ot, none⟩) T.length cap1 (w.heap.size + 1) id cls PA L.length pcap bt (ot + k * 14) n lk lf li lb lt hk1 hf hi hb ht a bb c W ∧ Ppr.In ⟨id, cls, PA, L, pcap, b⟩ W) := Lib.hid (fun W hW => by
        have HZ := HY.out.below hW
        have hc : ∀ j u, (Fnd.Trm.cs ⟨n, ⟨lk, lf, li, lb, lt⟩, ⟨hk1, hf, hi, hb, ht⟩, a, bb, c⟩)[j]? = some u → W.cell? ⟨bt, ot + k * 14 + j, none⟩ = some u := fun j u hu => World.cell_block (hW.block bt hbt) (hct j u hu)
        exact ⟨⟨HZ.q.cell 0, ⟨HZ.ph.cell 0, HZ.ph.cell 1, HZ.ph.cell 2⟩, hc 0 _ rfl, hc 1 _ rfl, hc 2 _ rfl, hc 3 _ rfl, hc 4 _ rfl, hc 5 _ rfl, hc 6 _ rfl, hc 7 _ rfl, hc 8 _ rfl, hc 9 _ rfl, hc 10 _ rfl, hc 11 _ rfl, hc 12 _ rfl, hc 13 _ rfl⟩, HZ.pin⟩)
      have HBK := Lib.hid hbk
      have HBD := Lib.hid (show Below wr.heap.size wr wr.drew from ⟨rfl, rfl, rfl, Nat.le_refl _, fun _ _ => rfl⟩)
      have hx := (HS.out _ HBD.out).1
      clear hct hbk HY
      go_upto_region 8 with fail
      clear q0
      refine wp_region_held_drew (S := ChkS w.heap.size (some ⟨bt, ot, none⟩) T.length cap1 (w.heap.size + 1) id cls PA L.length pcap bt (ot + k * 14) n lk lf li lb lt hk1 hf hi hb ht a bb c) (by kernel_rfl) hx (fun hHeld => ?_)
      first
      | (refine take_wanted (i := 0) (v := ?_) rfl rfl (by kernel_rfl) (by kernel_rfl) (by kernel_rfl) (fun _ _ _ h => h) (by rfl) (by assumption) ?_ ?_; rotate_left; (focus (intro w hSw; (try dsimp only at hSw); go_simp; first | done | with_reducible rfl)); (simp only [Act.at, List.setIfInBounds_toArray, List.set_cons_zero, List.set_cons_succ]))
      | (refine take_unwanted (i := 0) rfl rfl (by kernel_rfl) (by kernel_rfl) (by kernel_rfl) (fun _ _ _ h => h) (by rfl) (by assumption) ?_; (simp only [Act.at, List.setIfInBounds_toArray, List.set_cons_zero, List.set_cons_succ]))
      first
      | (refine take_wanted (i := 1) (v := ?_) rfl rfl (by kernel_rfl) (by kernel_rfl) (by kernel_rfl) (fun _ _ _ h => h) (by rfl) (by assumption) ?_ ?_; rotate_left; (focus (intro w hSw; (try dsimp only at hSw); go_simp; first | done | with_reducible rfl)); (simp only [Act.at, List.setIfInBounds_toArray, List.set_cons_zero, List.set_cons_succ]))
      | (refine take_unwanted (i := 1) rfl rfl (by kernel_rfl) (by kernel_rfl) (by kernel_rfl) (fun _ _ _ h => h) (by rfl) (by assumption) ?_; (simp only [Act.at, List.setIfInBounds_toArray, List.set_cons_zero, List.set_cons_succ]))
      first
      | (refine take_wanted (i := 2) (v := ?_) rfl rfl (by kernel_rfl) (by kernel_rfl) (by kernel_rfl) (fun _ _ _ h => h) (by rfl) (by assumption) ?_ ?_; rotate_left; (focus (intro w hSw; (try dsimp only at hSw); go_simp; first | done | with_reducible rfl)); (simp only [Act.at, List.setIfInBounds_toArray, List.set_cons_zero, List.set_cons_succ]))
      | (refine take_unwanted (i := 2) rfl rfl (by kernel_rfl) (by kernel_rfl) (by kernel_rfl) (fun _ _ _ h => h) (by rfl) (by assumption) ?_; (simp only [Act.at, List.setIfInBounds_toArray, List.set_cons_zero, List.set_cons_succ]))
      first
      | (refine take_wanted (i := 3) (v := ?_) rfl rfl (by kernel_rfl) (by kernel_rfl) (by kernel_rfl) (fun _ _ _ h => h) (by rfl) (by assumption) ?_ ?_; rotate_left; (focus (intro w hSw; (try dsimp only at hSw); go_simp; first | done | with_reducible rfl)); (simp only [Act.at, List.setIfInBounds_toArray, List.set_cons_zero, List.set_cons_succ]))
      | (refine take_unwanted (i := 3) rfl rfl (by kernel_rfl) (by kernel_rfl) (by kernel_rfl) (fun _ _ _ h => h) (by rfl) (by assumption) ?_; (simp only [Act.at, List.setIfInBounds_toArray, List.set_cons_zero, List.set_cons_succ]))
      first
      | (refine take_wanted (i := 4) (v := ?_) rfl rfl (by kernel_rfl) (by kernel_rfl) (by kernel_rfl) (fun _ _ _ h => h) (by rfl) (by assumption) ?_ ?_; rotate_left; (focus (intro w hSw; (try dsimp only at hSw); go_simp; first | done | with_reducible rfl)); (simp only [Act.at, List.setIfInBounds_toArray, List.set_cons_zero, List.set_cons_succ]))
      | (refine take_unwanted (i := 4) rfl rfl (by kernel_rfl) (by kernel_rfl) (by kernel_rfl) (fun _ _ _ h => h) (by rfl) (by assumption) ?_; (simp only [Act.at, List.setIfInBounds_toArray, List.set_cons_zero, List.set_cons_succ]))
      first
      | (refine take_wanted (i := 5) (v := ?_) rfl rfl (by kernel_rfl) (by kernel_rfl) (by kernel_rfl) (fun _ _ _ h => h) (by rfl) (by assumption) ?_ ?_; rotate_left; (focus (intro w hSw; (try dsimp only at hSw); go_simp; first | done | with_reducible rfl)); (simp only [Act.at, List.setIfInBounds_toArray, List.set_cons_zero, List.set_cons_succ]))
      | (refine take_unwanted (i := 5) rfl rfl (by kernel_rfl) (by kernel_rfl) (by kernel_rfl) (fun _ _ _ h => h) (by rfl) (by assumption) ?_; (simp only [Act.at, List.setIfInBounds_toArray, List.set_cons_zero, List.set_cons_succ]))
      first
      | (refine take_wanted (i := 7) (v := ?_) rfl rfl (by kernel_rfl) (by kernel_rfl) (by kernel_rfl) (fun _ _ _ h => h) (by rfl) (by assumption) ?_ ?_; rotate_left; (focus (intro w hSw; (try dsimp only at hSw); go_simp; first | done | with_reducible rfl)); (simp only [Act.at, List.setIfInBounds_toArray, List.set_cons_zero, List.set_cons_succ]))
      | (refine take_unwanted (i := 7) rfl rfl (by kernel_rfl) (by kernel_rfl) (by kernel_rfl) (fun _ _ _ h => h) (by rfl) (by assumption) ?_; (simp only [Act.at, List.setIfInBounds_toArray, List.set_cons_zero, List.set_cons_succ]))
      first
      | (refine take_wanted (i := 8) (v := ?_) rfl rfl (by kernel_rfl) (by kernel_rfl) (by kernel_rfl) (fun _ _ _ h => h) (by rfl) (by assumption) ?_ ?_; rotate_left; (focus (intro w hSw; (try dsimp only at hSw); go_simp; first | done | with_reducible rfl)); (simp only [Act.at, List.setIfInBounds_toArray, List.set_cons_zero, List.set_cons_succ]))
      | (refine take_unwanted (i := 8) rfl rfl (by kernel_rfl) (by kernel_rfl) (by kernel_rfl) (fun _ _ _ h => h) (by rfl) (by assumption) ?_; (simp only [Act.at, List.setIfInBounds_toArray, List.set_cons_zero, List.set_cons_succ]))
      first
      | (refine take_wanted (i := 9) (v := ?_) rfl rfl (by kernel_rfl) (by kernel_rfl) (by kernel_rfl) (fun _ _ _ h => h) (by rfl) (by assumption) ?_ ?_; rotate_left; (focus (intro w hSw; (try dsimp only at hSw); go_simp; first | done | with_reducible rfl)); (simp only [Act.at, List.setIfInBounds_toArray, List.set_cons_zero, List.set_cons_succ]))
      | (refine take_unwanted (i := 9) rfl rfl (by kernel_rfl) (by kernel_rfl) (by kernel_rfl) (fun _ _ _ h => h) (by rfl) (by assumption) ?_; (simp only [Act.at, List.setIfInBounds_toArray, List.set_cons_zero, List.set_cons_succ]))
      first
      | (refine take_wanted (i := 10) (v := ?_) rfl rfl (by kernel_rfl) (by kernel_rfl) (by kernel_rfl) (fun _ _ _ h => h) (by rfl) (by assumption) ?_ ?_; rotate_left; (focus (intro w hSw; (try dsimp only at hSw); go_simp; first | done | with_reducible rfl)); (simp only [Act.at, List.setIfInBounds_toArray, List.set_cons_zero, List.set_cons_succ]))
      | (refine take_unwanted (i := 10) rfl rfl (by kernel_rfl) (by kernel_rfl) (by kernel_rfl) (fun _ _ _ h => h) (by rfl) (by assumption) ?_; (simp only [Act.at, List.setIfInBounds_toArray, List.set_cons_zero, List.set_cons_succ]))
      first
      | (refine take_wanted (i := 11) (v := ?_) rfl rfl (by kernel_rfl) (by kernel_rfl) (by kernel_rfl) (fun _ _ _ h => h) (by rfl) (by assumption) ?_ ?_; rotate_left; (focus (intro w hSw; (try dsimp only at hSw); go_simp; first | done | with_reducible rfl)); (simp only [Act.at, List.setIfInBounds_toArray, List.set_cons_zero, List.set_cons_succ]))
      | (refine take_unwanted (i := 11) rfl rfl (by kernel_rfl) (by kernel_rfl) (by kernel_rfl) (fun _ _ _ h => h) (by rfl) (by assumption) ?_; (simp only [Act.at, List.setIfInBounds_toArray, List.set_cons_zero, List.set_cons_succ]))
      first
      | (refine take_wanted (i := 12) (v := ?_) rfl rfl (by kernel_rfl) (by kernel_rfl) (by kernel_rfl) (fun _ _ _ h => h) (by rfl) (by assumption) ?_ ?_; rotate_left; (focus (intro w hSw; (try dsimp only at hSw); go_simp; first | done | with_reducible rfl)); (simp only [Act.at, List.setIfInBounds_toArray, List.set_cons_zero, List.set_cons_succ]))
      | (refine take_unwanted (i := 12) rfl rfl (by kernel_rfl) (by kernel_rfl) (by kernel_rfl) (fun _ _ _ h => h) (by rfl) (by assumption) ?_; (simp only [Act.at, List.setIfInBounds_toArray, List.set_cons_zero, List.set_cons_succ]))
      refine take_call (i := 6) (by kernel_rfl) rfl rfl (by rfl) (fun K hK => ?_)
      go_simp
      refine (HH1.out _ (HS.out _ HBD.out).2).mono ?_
      rintro r W7 ⟨rfl, hb7⟩
      clear hx
      have HB7 := Lib.hid (HBD.out.trans (hb7.mono HBD.out.size)); clear hb7
      have hx := (HS.out _ HB7.out).1
      refine hK.out _ _ hx (fun hHeld => ?_)
      clear hK K
      try simp only [Act.put, List.setIfInBounds_toArray, List.set_cons_zero, List.set_cons_succ]
      refine take_call (i := 13) (by kernel_rfl) rfl rfl (by rfl) (fun K hK => ?_)
      go_simp
      refine (HH2.out _ (HS.out _ HB7.out).2).mono ?_
      rintro r W8 ⟨rfl, hb8⟩
      clear hx
      have HB8 := Lib.hid (HB7.out.trans (hb8.mono HB7.out.size)); clear hb8
      have hx := (HS.out _ HB8.out).1
      refine hK.out _ _ hx (fun hHeld => ?_)
      clear hK K
      try simp only [Act.put, List.setIfInBounds_toArray, List.set_cons_zero, List.set_cons_succ]
      first
      | (refine take_wanted (i := 14) (v := ?_) rfl rfl (by kernel_rfl) (by kernel_rfl) (by kernel_rfl) (fun _ _ _ h => h) (by rfl) (by assumption) ?_ ?_; rotate_left; (focus (intro w hSw; (try dsimp only at hSw); go_simp; first | done | with_reducible rfl)); (simp only [Act.at, List.setIfInBounds_toArray, List.set_cons_zero, List.set_cons_succ]))
      | (refine take_unwanted (i := 14) rfl rfl (by kernel_rfl) (by kernel_rfl) (by kernel_rfl) (fun _ _ _ h => h) (by rfl) (by assumption) ?_; (simp only [Act.at, List.setIfInBounds_toArray, List.set_cons_zero, List.set_cons_succ]))
      refine wpAnyH_done (by kernel_rfl) ?_ _
      have HB9 := Lib.hid (HBK.out.trans (HB8.out.mono HBK.out.size))
      clear hHeld hx HH1 HH2 HS HBD HB7
      go_wp2_with fail
      go_roundg (T.length - (k + 1))
      case measure => omega
      case rel => exact ⟨k + 1, by omega, by go_num, Nat.le_refl _, HB9.out⟩
    · obtain rfl : k = T.length := by omega
      go_wp2_with fail
      refine (HA.out _).mono ?_
      rintro r W7 ⟨rfl, hb7⟩
      have HB7 := Lib.hid (HY.out.up.trans (hb7.mono HY.out.up.size))
      clear hb7
      go_wp2_with fail
      go_ret
      exact ⟨rfl, HB7.out⟩

set_option maxRecDepth 100000 in
theorem findChecks_contract {H : Type} (enc : TypeId × Value → H) (W : World) (base : Nat) (args : Array Value) (ds gs : List (DataW H)) (before : List MemPlace)
    (hval : ∀ (j : Nat) t v, Try.f3.params[j]? = some t → args[j]? = some v → Value.okWide Try.prog W .any base t v)
    (hW : DataW.Whole enc Try.prog Try.f3.params.toList Rows.findChecksSpec.vars false W args.toList ds gs before)
    (hsz : (DataW.weightsEach Try.prog (Try.f3.params.toList ++ Rows.findChecksSpec.plain.varTypes Try.prog) (ds ++ gs)).all (· ≤ reachBytes) = true) :
    Calls Try.prog 3 args W fun e W' =>
      ((Rows.findChecksSpec.fn H (ds ++ gs)).results = [.lit (.bool true)] ∧ (Rows.findChecksSpec.fn H (ds ++ gs)).args = ds ∧ (Rows.findChecksSpec.fn H (ds ++ gs)).vars = []) ∧ e = .returned (.bool true) ∧ Below W.heap.size W W' := by
  obtain ⟨p, q, hA0, hV, rfl, hfz, hnd⟩ := hW
  have hA : DataW.TrodAll enc Try.prog W 0 (fun _ => true) true Try.f3.params.toList args.toList ds p := hA0
  rw [Try.params3] at hA hval hsz
  obtain ⟨v0, v1, d0, d1, p0, p1, rfl, rfl, rfl, h0, h1⟩ := trodAll_two hA
  obtain ⟨rfl, rfl⟩ := trodVars_none hV
  obtain ⟨T_q, A_q, cap_q, nm_q, d_q, m_q, rfl, lc_q, cm_q, hR_q, ok_q, ml_q, mh_q⟩ := query_open (hval 0 24 v0 rfl rfl) h0
  obtain ⟨id_p, cls_p, A_p, L_p, b_p, cap_p, rfl, hF_p, ok_p, lc_p, cm_p, il_p, kl_p, kh_p⟩ := paper_open (hval 1 27 v1 rfl rfl) h1 (fun n hn => by
    have h := List.all_eq_true.1 hsz n (DataW.weights_mem_each (j := 1) (t := 27) (d := d1) rfl rfl n hn)
    exact Nat.le_trans (by simpa using h) reach_le)
  exact (findChecks_any nm_q d_q m_q hR_q lc_q cm_q ok_q id_p cls_p L_p b_p cap_p A_p hF_p (Nat.le_trans cm_p (by decide)) (Nat.le_trans il_p (by decide)) ok_p).mono fun e W' h => ⟨⟨rfl, rfl, rfl⟩, h⟩

end Go.Proofs.Ytfcmkbeilpclmaa
